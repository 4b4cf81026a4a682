/- Contracts of the exact laws' copies: disks and finders. -/
import Derived.Test.YtgecemngfpgcoaaDirMem
import Derived.Test.YtgecemngfpgcoaaExTools
set_option linter.unusedVariables false
set_option linter.unusedSimpArgs false
namespace Go.Proofs.Ytgecemngfpgcoaa
open Go.RowKit Go.Proofs.Ytgecemngfpgcoaa.Nm

/-- What a function that returns a disk with a new tree and new directories comes to. -/
def NewDsk (fs : List Fil) (c : Int) (ds : List Dr) (w : World) (e : Ending) (w' : World) : Prop :=
  ∃ v ps u qs, e = .returned (.agg #[v, .int .i64 c, u]) ∧ ps.map (·.1) = fs ∧ qs.map (·.1) = ds ∧ OwnFils w' w.heap.size v ps ∧ OwnDirs w' w.heap.size u qs ∧ Below w.heap.size w w'
set_option maxRecDepth 100000 in
set_option maxHeartbeats 2000000 in
theorem laws_toDisk (v : Value) (fs : List Fil) (c : Int) (u : Value) (ds : List Dr) (D D' : Nat → Prop) (w : World) (hr : FilsIn w D v fs) (hr' : DirsIn w D' u ds) (hl : filsCost' fs) (hl' : drsCost' ds) :
    Calls Try.prog 21 #[.agg #[v, .int .i64 c, u]] w (NewDsk fs c ds w) := by
  have Hr := Lib.hid hr
  have Hr' := Lib.hid hr'
  obtain ⟨aa, ca, rfl, hlc, hm⟩ := hr.len
  obtain ⟨ab, cb, rfl, hlc', hm'⟩ := hr'.len
  have Hl := Lib.hid hl
  have Hl' := Lib.hid hl'
  clear hr hm hl hr' hm' hl'
  obtain ⟨Wb, hWb⟩ : ∃ Wb, Wb = ((w.alloc (.cells #[.slice aa fs.length ca, .int .i64 c, .slice ab ds.length cb] 48)).alloc (.cells #[.slice none 0 0, .int .i64 0, .slice none 0 0] 28)).alloc (.cells #[.slice none 0 0, .int .i64 0, .slice none 0 0] 28) := ⟨_, rfl⟩
  have HWe := Lib.hid hWb
  have HBw := Lib.hid (show Below w.heap.size w Wb by rw [hWb]; (repeat (with_reducible first | exact Below.refl _ _ | assumption | refine ba ?_ _ | refine bd ?_ | refine bdN ?_ _ | refine bs ?_ (by first | exact Nat.le_refl _ | (dsimp only; omega) | (simp; done)) _ | refine bt ?_ (by assumption))))
  have HWs := Lib.hid (show Wb.heap.size = w.heap.size + 3 by rw [hWb]; simp)
  have HX0 := Lib.hid (show BoxC Wb w.heap.size #[.slice aa fs.length ca, .int .i64 c, .slice ab ds.length cb] by rw [hWb]; exact (BoxC.start w _ _).below (by (repeat (with_reducible first | exact Below.refl _ _ | assumption | refine ba ?_ _ | refine bd ?_ | refine bdN ?_ _ | refine bs ?_ (by first | exact Nat.le_refl _ | (dsimp only; omega) | (simp; done)) _ | refine bt ?_ (by assumption)))))
  have HX1 := Lib.hid (show BoxC Wb (w.heap.size + 1) #[.slice none 0 0, .int .i64 0, .slice none 0 0] by rw [hWb]; exact ((BoxC.start (w.alloc (.cells #[.slice aa fs.length ca, .int .i64 c, .slice ab ds.length cb] 48)) _ _).below (by (repeat (with_reducible first | exact Below.refl _ _ | assumption | refine ba ?_ _ | refine bd ?_ | refine bdN ?_ _ | refine bs ?_ (by first | exact Nat.le_refl _ | (dsimp only; omega) | (simp; done)) _ | refine bt ?_ (by assumption))))).at (by simp))
  have HX2 := Lib.hid (show BoxC Wb (w.heap.size + 1 + 1) #[.slice none 0 0, .int .i64 0, .slice none 0 0] by rw [hWb]; exact (BoxC.start ((w.alloc (.cells #[.slice aa fs.length ca, .int .i64 c, .slice ab ds.length cb] 48)).alloc (.cells #[.slice none 0 0, .int .i64 0, .slice none 0 0] 28)) _ _).at (by simp))
  have HF1 := Lib.hid (fun (j : Nat) => (show Wb.frozen? ⟨w.heap.size + 1, j, none⟩ = false by rw [hWb]; simp [go_sem]))
  have HF2 := Lib.hid (fun (j : Nat) => (show Wb.frozen? ⟨w.heap.size + 1 + 1, j, none⟩ = false by rw [hWb]; simp [go_sem]))
  clear hWb
  go_enter Try.func21, Try.ntmps21
  go_wp2_with fail
  rw [← HWe.out]
  refine (laws_toTree _ fs D _ (Hr.out.below HBw.out) Hl.out).mono ?_
  rintro _ w5 ⟨v5, ps, rfl, hps, hown5, hb5⟩
  obtain ⟨a5, c5, rfl⟩ := hown5.len
  have Hps := Lib.hid hps
  have Hown5 := Lib.hid hown5
  have Hb5 := Lib.hid hb5
  clear hown5 hps
  generalize ps.length = pn at *
  have HY0 := Lib.hid (HX0.out.below hb5)
  have HY1 := Lib.hid (HX1.out.below hb5)
  have HY2 := Lib.hid (HX2.out.below hb5)
  have b0 : w5.cell? ⟨w.heap.size, 0, none⟩ = some (.slice aa fs.length ca) := HY0.out.2 0
  have b1 : w5.cell? ⟨w.heap.size, 1, none⟩ = some (.int .i64 c) := HY0.out.2 1
  have b2 : w5.cell? ⟨w.heap.size, 2, none⟩ = some (.slice ab ds.length cb) := HY0.out.2 2
  have o0 : w5.cell? ⟨w.heap.size + 1 + 1, 0, none⟩ = some (.slice none 0 0) := HY2.out.2 0
  have o1 : w5.cell? ⟨w.heap.size + 1 + 1, 1, none⟩ = some (.int .i64 0) := HY2.out.2 1
  have g2 := fun (j : Nat) => (show w5.frozen? ⟨w.heap.size + 1 + 1, j, none⟩ = false from (hb5.frozen (p := ⟨w.heap.size + 1 + 1, j, none⟩) (by have := HWs.out; dsimp only; omega)).trans (HF2.out j))
  have g1 := fun (j : Nat) => (show w5.frozen? ⟨w.heap.size + 1, j, none⟩ = false from (hb5.frozen (p := ⟨w.heap.size + 1, j, none⟩) (by have := HWs.out; dsimp only; omega)).trans (HF1.out j))
  have G1 := Lib.hid g1
  have G2 := Lib.hid g2
  have q0 := g2 0
  have q1 := g2 1
  have hz5 : w.heap.size + 3 ≤ w5.heap.size := by have := hb5.size; have := HWs.out; omega
  clear g1 g2 hb5
  obtain ⟨W6, hW6⟩ : ∃ W6, W6 = (w5.setCell ⟨w.heap.size + 1 + 1, 0, none⟩ (.slice a5 pn c5)).setCell ⟨w.heap.size + 1 + 1, 1, none⟩ (.int .i64 c) := ⟨_, rfl⟩
  have HW6 := Lib.hid hW6
  have HB6 := Lib.hid (show Below w.heap.size w W6 by rw [hW6]; exact bs (bs (HBw.out.trans (Hb5.out.mono HBw.out.size)) (by dsimp only; omega) _) (by dsimp only; omega) _)
  have HZ6 := Lib.hid (show W6.heap.size = w5.heap.size by rw [hW6]; simp)
  have HO6 := Lib.hid (show W6.heap[w.heap.size + 1]? = w5.heap[w.heap.size + 1]? by rw [hW6, Below.heap_setCell _ _ _ _ (by dsimp only; omega), Below.heap_setCell _ _ _ _ (by dsimp only; omega)])
  have HO7 := Lib.hid (show W6.heap[w.heap.size]? = w5.heap[w.heap.size]? by rw [hW6, Below.heap_setCell _ _ _ _ (by dsimp only; omega), Below.heap_setCell _ _ _ _ (by dsimp only; omega)])
  have k0 : W6.cell? ⟨w.heap.size + 1 + 1, 0, none⟩ = some (.slice a5 pn c5) := by rw [hW6]; simp [go_sem, o0, o1]
  have k1 : W6.cell? ⟨w.heap.size + 1 + 1, 1, none⟩ = some (.int .i64 c) := by rw [hW6]; simp [go_sem, o0, o1]
  have k2 : W6.cell? ⟨w.heap.size + 1 + 1, 2, none⟩ = some (.slice none 0 0) := by rw [hW6, World.cell?_setCell_other _ _ _ _ (by simp), World.cell?_setCell_other _ _ _ _ (by simp)]; exact HY2.out.2 2
  have HG2 := Lib.hid (fun (j : Nat) => (show W6.frozen? ⟨w.heap.size + 1 + 1, j, none⟩ = false by rw [hW6, World.frozen?_setCell, World.frozen?_setCell]; exact G2.out j))
  have HG1 := Lib.hid (fun (j : Nat) => (show W6.frozen? ⟨w.heap.size + 1, j, none⟩ = false by rw [hW6, World.frozen?_setCell, World.frozen?_setCell]; exact G1.out j))
  have HT6 := Lib.hid (show OwnFils W6 (w.heap.size + 3) (.slice a5 pn c5) ps by
    rw [hW6]; exact ((Hown5.out.mono (show w.heap.size + 3 ≤ _ by have := HWs.out; omega)).set_low (by dsimp only; omega) _).set_low (by dsimp only; omega) _)
  clear hW6
  go_wp2_with fail
  rw [← HW6.out]
  refine (laws_toDirS _ ds D' _ (Hr'.out.below HB6.out) Hl'.out).mono ?_
  rintro _ w7 ⟨v7, qs, rfl, hqs, hown7, hb7⟩
  obtain ⟨a7, c7, rfl⟩ := hown7.len
  have Hqs := Lib.hid hqs
  have Hown7 := Lib.hid (hown7.mono (show w.heap.size + 3 ≤ _ by have := HZ6.out; omega))
  have Hb7 := Lib.hid hb7
  have HT7 := Lib.hid (HT6.out.below hb7)
  clear hown7 hqs b0 b1 b2 o0 o1 q0 q1
  generalize qs.length = qn at *
  have hlt : w.heap.size + 1 + 1 < W6.heap.size := by have := HZ6.out; omega
  have m0 := (hb7.cell (p := ⟨w.heap.size + 1 + 1, 0, none⟩) hlt).trans k0
  have m1 := (hb7.cell (p := ⟨w.heap.size + 1 + 1, 1, none⟩) hlt).trans k1
  have m2 := (hb7.cell (p := ⟨w.heap.size + 1 + 1, 2, none⟩) hlt).trans k2
  have hlt1 : w.heap.size + 1 < W6.heap.size := by omega
  have hd := fun (j : Nat) => (hb7.cell (p := ⟨w.heap.size + 1, j, none⟩) hlt1).trans ((World.cell?_of_block (w := w5) HO6.out).trans (HY1.out.2 j))
  have d0 : w7.cell? ⟨w.heap.size + 1, 0, none⟩ = some (.slice none 0 0) := hd 0
  have d1 : w7.cell? ⟨w.heap.size + 1, 1, none⟩ = some (.int .i64 0) := hd 1
  have d2 : w7.cell? ⟨w.heap.size + 1, 2, none⟩ = some (.slice none 0 0) := hd 2
  have e2 : w7.frozen? ⟨w.heap.size + 1 + 1, 2, none⟩ = false := (hb7.frozen (p := ⟨w.heap.size + 1 + 1, 2, none⟩) hlt).trans (HG2.out 2)
  have f0 : w7.frozen? ⟨w.heap.size + 1, 0, none⟩ = false := (hb7.frozen (p := ⟨w.heap.size + 1, 0, none⟩) hlt1).trans (HG1.out 0)
  have f1 : w7.frozen? ⟨w.heap.size + 1, 1, none⟩ = false := (hb7.frozen (p := ⟨w.heap.size + 1, 1, none⟩) hlt1).trans (HG1.out 1)
  have f2 : w7.frozen? ⟨w.heap.size + 1, 2, none⟩ = false := (hb7.frozen (p := ⟨w.heap.size + 1, 2, none⟩) hlt1).trans (HG1.out 2)
  have hz7 : w.heap.size + 1 + 1 < w7.heap.size := by have := hb7.size; omega
  clear hd hb7 k0 k1 k2
  go_wp2_with fail
  refine bodyPost_ret (v := .agg #[.slice a5 pn c5, .int .i64 c, .slice a7 qn c7]) (by simp [results, Try.results21, go_sem, d0, d1, d2, m0, m1, m2]) rfl ⟨_, ps, _, qs, rfl, Hps.out, Hqs.out, ?_, ?_, ?_⟩
  · have h3 := HT7.out
    refine OwnFils.mono (B := w.heap.size + 3) ?_ (by omega)
    repeat (first | with_reducible exact h3 | with_reducible refine OwnFils.set_low ?_ (by dsimp only; omega) _)
  · have h3 := Hown7.out
    refine OwnDirs.mono (B := w.heap.size + 3) ?_ (by omega)
    repeat (first | with_reducible exact h3 | with_reducible refine OwnDirs.set_low ?_ (by dsimp only; omega) _)
  · have hbw := HB6.out.trans (Hb7.out.mono HB6.out.size)
    (repeat (with_reducible first | exact Below.refl _ _ | assumption | refine ba ?_ _ | refine bd ?_ | refine bdN ?_ _ | refine bs ?_ (by first | exact Nat.le_refl _ | (dsimp only; omega) | (simp; done)) _ | refine bt ?_ (by assumption)))

/-! ### Disks and finders in the words of the exact laws' walks. -/
/-- A disk's files and directories. -/
def DskIn (w : World) (D : Nat → Prop) (v : Value) (fs : List Fil) (u : Value) (ds : List Dr) : Prop := FilsIn w D v fs ∧ DirsIn w D u ds
theorem DskIn.below {w w' : World} {D : Nat → Prop} {v u : Value} {fs : List Fil} {ds : List Dr} (h : DskIn w D v fs u ds) (hb : Below w.heap.size w w') : DskIn w' D v fs u ds := ⟨h.1.below hb, h.2.below hb⟩
theorem DskIn.len {w : World} {D : Nat → Prop} {v u : Value} {fs : List Fil} {ds : List Dr} (h : DskIn w D v fs u ds) :
    (∃ a cap, v = .slice a fs.length cap ∧ fs.length ≤ cap ∧ cap ≤ maxLen) ∧ (∃ a cap, u = .slice a ds.length cap ∧ ds.length ≤ cap ∧ cap ≤ maxLen) := ⟨h.1.len, h.2.len⟩
def ShortK (B : Nat) (fs : List Fil) (ds : List Dr) : Prop := ShortT B fs ∧ ShortD B ds
def dskCost (fs : List Fil) (ds : List Dr) : Nat := filsCost fs + drsCost ds
def dskCost' (fs : List Fil) (ds : List Dr) : Prop := filsCost' fs ∧ drsCost' ds
theorem dskCosts_of {fs : List Fil} {ds : List Dr} (h : dskCost fs ds ≤ 1048576) : dskCost' fs ds := by
  unfold dskCost at h
  exact ⟨costs_of (by omega), drCosts_of (by omega)⟩
theorem shortK_of {fs : List Fil} {ds : List Dr} {B : Nat} (h : dskCost fs ds ≤ B) : ShortK B fs ds := by
  unfold dskCost at h
  exact ⟨shortT_of (by omega), shortD_of (by omega)⟩
theorem shortK_mono {A B : Nat} (h : A ≤ B) {fs : List Fil} {ds : List Dr} (hs : ShortK A fs ds) : ShortK B fs ds := ⟨shortT_mono h hs.1, shortD_mono h hs.2⟩
def sameDsk (fs fs' : List Fil) (c c' : Int) (ds ds' : List Dr) : Bool := sameFils fs fs' && decide (c = c') && sameDrs ds ds'
theorem sameDsk_self (fs : List Fil) (c : Int) (ds : List Dr) : sameDsk fs fs c c ds ds = true := by simp [sameDsk, sameFils, sameDrs]
def sameFnd (ds ds' : List Dr) (c c' d d' : Int) : Bool := sameDrs ds ds' && decide (c = c') && decide (d = d')
theorem sameFnd_self (ds : List Dr) (c d : Int) : sameFnd ds ds c c d d = true := by simp [sameFnd, sameDrs]
theorem laws_szDiskX (v : Value) (fs : List Fil) (c : Int) (u : Value) (ds : List Dr) (D : Nat → Prop) (left : Nat) (w : World) (hr : DskIn w D v fs u ds) (hz : ShortK maxLen fs ds) (hl : left ≤ 1048576) :
    Calls Try.prog 18 #[.agg #[v, .int .i64 c, u], .int .i64 left] w (SzB (dskCost fs ds) left w) := laws_szDisk v fs c u ds D D left w hr.1 hz.1 hr.2 hz.2 hl
theorem laws_toDiskX (v : Value) (fs : List Fil) (c : Int) (u : Value) (ds : List Dr) (D : Nat → Prop) (w : World) (hr : DskIn w D v fs u ds) (hl : dskCost' fs ds) :
    Calls Try.prog 21 #[.agg #[v, .int .i64 c, u]] w (NewDsk fs c ds w) := laws_toDisk v fs c u ds D D w hr.1 hr.2 hl.1 hl.2
theorem laws_eqDiskX (v v' : Value) (fs fs' : List Fil) (c c' : Int) (u u' : Value) (ds ds' : List Dr) (D D' : Nat → Prop) (w : World) (hr : DskIn w D v fs u ds) (hr' : DskIn w D' v' fs' u' ds') :
    Calls Try.prog 24 #[.agg #[v, .int .i64 c, u], .agg #[v', .int .i64 c', u']] w fun e w' => e = .returned (.bool (sameDsk fs fs' c c' ds ds')) ∧ Below w.heap.size w w' :=
  laws_eqDisk v v' fs fs' c c' u u' ds ds' D D' D D' w hr.1 hr'.1 hr.2 hr'.2
end Go.Proofs.Ytgecemngfpgcoaa
