/- Contracts of the additions to disks and the removals from them, of both sides. -/
import Derived.Test.YtgecemngfpgcoaaDskE
import Derived.Test.YtgecemngfpgcoaaExAdds
import Derived.Test.YtgecemngfpgcoaaSRem
set_option linter.unusedVariables false
set_option linter.unusedSimpArgs false
namespace Go.Proofs.Ytgecemngfpgcoaa
open Go.RowKit Go.Proofs.Ytgecemngfpgcoaa.Nm

def noFil : Fil := ⟨0, [], [], false, 0, []⟩
def diskAdd (d : Dsk) (f : Fil) (k : Int) : Dsk × Bool := if okDisk d && (addFil d.files f).2 then changed d (addFil d.files f).1 f.root f.pack k else (⟨[], 0, []⟩, false)
def diskRem (d : Dsk) (i k : Int) : Dsk × Bool := if okDisk d && (remFil d.files i).2 then changed d (remFil d.files i).1 (d.files.getD i.toNat noFil).root (d.files.getD i.toNat noFil).pack k else (⟨[], 0, []⟩, false)
theorem okDisk_all {d : Dsk} (h : okDisk d = true) : inr d.clock 0 200 = true ∧ okDirs d.dirs d.clock 0 = true ∧ okTree d.files = true := by
  unfold okDisk at h; simp only [Bool.and_eq_true] at h; exact ⟨h.1.1, h.1.2, h.2⟩
/-- The model looks at the ticks by themselves, and at the clock when they have gone by. -/
theorem changed_eq {d : Dsk} {t : List Fil} {r : Int} {p : Bs} {k : Int} (h : inr k 0 200 = true) :
    changed d t r p k = if okDisk ⟨t, d.clock + k, stampAll r (d.clock + k) ([] :: namesAbove p) d.dirs⟩ then (⟨t, d.clock + k, stampAll r (d.clock + k) ([] :: namesAbove p) d.dirs⟩, true) else (⟨[], 0, []⟩, false) := by
  cases hin : inr k 0 (200 - d.clock)
  · rw [changed_no hin]
    cases hok : okDisk ⟨t, d.clock + k, stampAll r (d.clock + k) ([] :: namesAbove p) d.dirs⟩
    · rfl
    · have h1 := (okDisk_all hok).1
      unfold inr at h h1 hin
      simp at h h1 hin
      omega
  · exact changed_is hin
theorem changed_far {d : Dsk} {t : List Fil} {r : Int} {p : Bs} {k : Int} (hc : inr d.clock 0 200 = true) (h : inr k 0 200 = false) : changed d t r p k = (⟨[], 0, []⟩, false) := by
  refine changed_no ?_
  unfold inr at h hc ⊢
  simp at h hc ⊢
  omega
theorem diskAdd_no {d : Dsk} {f : Fil} {k : Int} (h : (okDisk d && (addFil d.files f).2) = false) : diskAdd d f k = (⟨[], 0, []⟩, false) := by unfold diskAdd; rw [h]; rfl
theorem diskAdd_yes {d : Dsk} {f : Fil} {k : Int} (h : okDisk d = true) (h2 : (addFil d.files f).2 = true) : diskAdd d f k = changed d (addFil d.files f).1 f.root f.pack k := by unfold diskAdd; rw [h, h2]; rfl
theorem diskAdd_far {d : Dsk} {f : Fil} {k : Int} (h : okDisk d = true) (h2 : inr k 0 200 = false) : diskAdd d f k = (⟨[], 0, []⟩, false) := by
  cases h3 : (addFil d.files f).2
  · exact diskAdd_no (by rw [h3]; simp)
  · rw [diskAdd_yes h h3, changed_far (okDisk_all h).1 h2]
theorem diskRem_no {d : Dsk} {i k : Int} (h : (okDisk d && (remFil d.files i).2) = false) : diskRem d i k = (⟨[], 0, []⟩, false) := by unfold diskRem; rw [h]; rfl
theorem diskRem_yes {d : Dsk} {i k : Int} (h : okDisk d = true) (h2 : (remFil d.files i).2 = true) : diskRem d i k = changed d (remFil d.files i).1 (d.files.getD i.toNat noFil).root (d.files.getD i.toNat noFil).pack k := by unfold diskRem; rw [h, h2]; rfl
theorem diskRem_far {d : Dsk} {i k : Int} (h : okDisk d = true) (h2 : inr k 0 200 = false) : diskRem d i k = (⟨[], 0, []⟩, false) := by
  cases h3 : (remFil d.files i).2
  · exact diskRem_no (by rw [h3]; simp)
  · rw [diskRem_yes h h3, changed_far (okDisk_all h).1 h2]
theorem addFil_short {B : Nat} {t : List Fil} {f : Fil} (h : ShortT B t) (hf : ShortF B f) : ShortT B (addFil t f).1 := by
  unfold addFil; split
  · intro x hx
    rcases List.mem_append.1 hx with hx | hx
    · exact h x hx
    · simp at hx; subst hx; exact hf
  · intro x hx; simp at hx
theorem remFil_short {B : Nat} {t : List Fil} {i : Int} (h : ShortT B t) : ShortT B (remFil t i).1 := by
  unfold remFil; split
  · intro x hx; exact h x (List.mem_of_mem_eraseIdx hx)
  · intro x hx; simp at hx
theorem addFil_pack {t : List Fil} {f : Fil} (h : (addFil t f).2 = true) : vpk f.pack = true := by
  unfold addFil at h
  split at h
  · rename_i hc
    simp only [Bool.and_eq_true] at hc
    exact okFil_pack (okTree_file hc.2 (by simp))
  · exact absurd h (by simp)
theorem remFil_at {t : List Fil} {i : Int} (h : (remFil t i).2 = true) : ∃ k : Nat, ∃ hk : k < t.length, i = (k : Int) ∧ vpk t[k].pack = true ∧ t.getD i.toNat noFil = t[k] := by
  unfold remFil at h
  split at h
  · rename_i hc
    simp only [Bool.and_eq_true] at hc
    have h2 := hc.2
    unfold inr at h2
    simp at h2
    refine ⟨i.toNat, by omega, (Int.toNat_of_nonneg (by omega)).symm, okFil_pack (okTree_file hc.1 (List.getElem_mem _)), ?_⟩
    simp [List.getD, show i.toNat < t.length by omega]
  · exact absurd h (by simp)
theorem ChgD.mono {B B' : Nat} {r : Dsk × Bool} {w0 w w' : World} {e : Ending} (h : ChgD B r w e w') (hB : B' ≤ B) (hw : Below w0.heap.size w0 w) : ChgD B' r w0 e w' := by
  obtain ⟨v, ps, u, qs, h1, h2, h3, h4, h5, h6⟩ := h
  exact ⟨v, ps, u, qs, h1, h2, h3, h4.mono hB, h5.mono hw.size, hw.trans (h6.mono hw.size)⟩
set_option maxRecDepth 100000 in
set_option maxHeartbeats 4000000 in
theorem spec_changed (v0 v u : Value) (fs0 : List Fil) (c k r : Int) (p : Bs) (ps : List (Fil × Value)) (qs : List (Dr × Value)) (B B' : Nat) (w : World) (hf : OwnFils w B v ps) (hz : ShortT 2000000 (ps.map (·.1))) (hd : OwnDirs w B' u qs) (hc : inr c 0 200 = true) (hq : okDirs (qs.map (·.1)) c 0 = true) (hk : inr k 0 200 = true) (hp : vpk p = true) :
    Calls Try.prog 48 #[.agg #[v0, .int .i64 c, u], .agg #[v], .int .i64 r, .string (mk p), .int .i64 k] w (ChgD B (changed ⟨fs0, c, qs.map (·.1)⟩ (ps.map (·.1)) r p k) w) := by
  obtain ⟨aa, ca, rfl⟩ := hf.len
  obtain ⟨ab, cb, rfl⟩ := hd.len
  have hl : qs.length ≤ 20 := by have h := okDirs_len hq; rwa [List.length_map] at h
  have Hbl := Lib.hid (show ∀ q ∈ qs, q.1.names.length ≤ 1048576 from fun q h => by rw [(okDirs_dr' hq q.1 (List.mem_map.2 ⟨q, h, rfl⟩)).1]; simp)
  have Hdr := Lib.hid (okDirs_dr' hq)
  have Hz := Lib.hid hz
  have Hf := Lib.hid hf
  have Hd := Lib.hid hd
  have Hp := Lib.hid hp
  have Hyes := Lib.hid (changed_eq (d := ⟨fs0, c, qs.map (·.1)⟩) (t := ps.map (·.1)) (r := r) (p := p) hk)
  have hcc : 0 ≤ c ∧ c ≤ 200 := by unfold inr at hc; simpa using hc
  have hkk : 0 ≤ k ∧ k ≤ 200 := by unfold inr at hk; simpa using hk
  clear hf hd hq hz hc hk hp
  obtain ⟨Wb, hWb⟩ : ∃ W, W = ((w.alloc (.cells #[v0, .int .i64 c, .slice ab qs.length cb] 28)).alloc (.cells #[.slice aa ps.length ca] 25)).alloc (.cells #[.slice none 0 0, .int .i64 0, .slice none 0 0] 28) := ⟨_, rfl⟩
  have HBw := Lib.hid (show Below w.heap.size w Wb by rw [hWb]; (repeat (with_reducible first | exact Below.refl _ _ | assumption | refine ba ?_ _ | refine bd ?_ | refine bdN ?_ _ | refine bs ?_ (by first | exact Nat.le_refl _ | (dsimp only; omega) | (simp; done)) _ | refine bt ?_ (by assumption))))
  have HWs := Lib.hid (show Wb.heap.size = w.heap.size + 3 by rw [hWb]; simp)
  have HX0 := Lib.hid (show HB Wb w.heap.size 28 #[v0, .int .i64 c, .slice ab qs.length cb] by rw [hWb]; exact ((HB.new w _ _).alloc _).alloc _)
  have HX1 := Lib.hid (show HB Wb (w.heap.size + 1) 25 #[.slice aa ps.length ca] by rw [hWb]; have h := ((HB.new (w.alloc (.cells #[v0, .int .i64 c, .slice ab qs.length cb] 28)) #[.slice aa ps.length ca] 25).alloc (.cells #[.slice none 0 0, .int .i64 0, .slice none 0 0] 28)); rw [World.size_alloc] at h; exact h)
  have HX3 := Lib.hid (show HB Wb (w.heap.size + 1 + 1) 28 #[.slice none 0 0, .int .i64 0, .slice none 0 0] by rw [hWb]; have h := (HB.new ((w.alloc (.cells #[v0, .int .i64 c, .slice ab qs.length cb] 28)).alloc (.cells #[.slice aa ps.length ca] 25)) #[.slice none 0 0, .int .i64 0, .slice none 0 0] 28); rw [World.size_alloc, World.size_alloc] at h; exact h)
  have HWe := Lib.hid hWb
  have Hk := Lib.hid (fun (w' : World) (hC : Below Wb.heap.size Wb w') => (⟨(HX0.out.step hC).cell 1, (HX0.out.step hC).cell 2, (HX1.out.step hC).cell 0⟩ : w'.cell? ⟨w.heap.size, 1, none⟩ = some (.int .i64 c) ∧ w'.cell? ⟨w.heap.size, 2, none⟩ = some (.slice ab qs.length cb) ∧ w'.cell? ⟨w.heap.size + 1, 0, none⟩ = some (.slice aa ps.length ca)))
  clear hWb
  go_enter Try.func48, Try.ntmps48
  go_upto_region 1 with fail
  rw [← HWe.out]
  obtain ⟨a0, a1, a2⟩ := Hk.out Wb (Below.refl _ _)
  go_cut [12] (fun s10 wx => ∃ (X : Nat) (q6 : List (Dr × Value)) (a6 : Option Addr) (c6 : Nat), s10 = .pointer (some ⟨X, 0, none⟩) ∧ HB wx X 28 #[.slice aa ps.length ca, .int .i64 (IntKind.i64.wrap (c + k)), .slice a6 q6.length c6] ∧ OwnDirs wx Wb.heap.size (.slice a6 q6.length c6) q6 ∧ q6.map (·.1) = qs.map (·.1) ∧ Below Wb.heap.size Wb wx ∧ Wb.heap.size ≤ X)
  case first =>
    go_region_held3 (fun w' => w'.cell? ⟨w.heap.size, 1, none⟩ = some (.int .i64 c) ∧ w'.cell? ⟨w.heap.size, 2, none⟩ = some (.slice ab qs.length cb) ∧ w'.cell? ⟨w.heap.size + 1, 0, none⟩ = some (.slice aa ps.length ca))
      (first | (refine Hk.out _ ?_; have := Hb6.out; (repeat (with_reducible first | exact Below.refl _ _ | assumption | refine ba ?_ _ | refine bd ?_ | refine bdN ?_ _ | refine bs ?_ (by first | exact Nat.le_refl _ | (dsimp only; omega) | (simp; done)) _ | refine bt ?_ (by assumption))); done) | (refine Hk.out _ ?_; (repeat (with_reducible first | exact Below.refl _ _ | assumption | refine ba ?_ _ | refine bd ?_ | refine bdN ?_ _ | refine bs ?_ (by first | exact Nat.le_refl _ | (dsimp only; omega) | (simp; done)) _ | refine bt ?_ (by assumption))); done))
      (first | (go_at_call 88; show Calls _ _ _ (World.drew (World.alloc _ _)) _; refine (spec_copyDirs _ qs B' _ (Hd.out.below (by have := HBw.out; (repeat (with_reducible first | exact Below.refl _ _ | assumption | refine ba ?_ _ | refine bd ?_ | refine bdN ?_ _ | refine bs ?_ (by first | exact Nat.le_refl _ | (dsimp only; omega) | (simp; done)) _ | refine bt ?_ (by assumption))))) (by omega) Hbl.out).mono ?_; rintro _ w6 ⟨v6, q6, rfl, hq6, hown6, hb6⟩; have Hq6 := Lib.hid hq6; have Hown6 := Lib.hid (hown6.mono (show Wb.heap.size + 1 ≤ _ by simp)); have Hb6 := Lib.hid (show Below Wb.heap.size Wb w6 by (repeat (with_reducible first | exact Below.refl _ _ | assumption | refine ba ?_ _ | refine bd ?_ | refine bdN ?_ _ | refine bs ?_ (by first | exact Nat.le_refl _ | (dsimp only; omega) | (simp; done)) _ | refine bt ?_ (by assumption)))); obtain ⟨a6, c6, rfl⟩ := hown6.len; have HG := Lib.hid ((HB.new Wb #[.slice none 0 0, .int .i64 0, .slice none 0 0] 28).drew.step hb6); have g0 := HG.out.cell 0; have g1 := HG.out.cell 1; have g2 := HG.out.cell 2; have z0 := HG.out.frozen 0; have z1 := HG.out.frozen 1; have z2 := HG.out.frozen 2; clear hown6 hq6 hb6) | (go_at_call 88; refine (spec_copyDirs _ qs B' _ (Hd.out.below (by have := HBw.out; (repeat (with_reducible first | exact Below.refl _ _ | assumption | refine ba ?_ _ | refine bd ?_ | refine bdN ?_ _ | refine bs ?_ (by first | exact Nat.le_refl _ | (dsimp only; omega) | (simp; done)) _ | refine bt ?_ (by assumption))))) (by omega) Hbl.out).mono ?_; rintro _ w6 ⟨v6, q6, rfl, hq6, hown6, hb6⟩; have Hq6 := Lib.hid hq6; have Hown6 := Lib.hid (hown6.mono (show Below Wb.heap.size Wb _ by (repeat (with_reducible first | exact Below.refl _ _ | assumption | refine ba ?_ _ | refine bd ?_ | refine bdN ?_ _ | refine bs ?_ (by first | exact Nat.le_refl _ | (dsimp only; omega) | (simp; done)) _ | refine bt ?_ (by assumption)))).size); have Hb6 := Lib.hid (show Below Wb.heap.size Wb w6 by (repeat (with_reducible first | exact Below.refl _ _ | assumption | refine ba ?_ _ | refine bd ?_ | refine bdN ?_ _ | refine bs ?_ (by first | exact Nat.le_refl _ | (dsimp only; omega) | (simp; done)) _ | refine bt ?_ (by assumption)))); obtain ⟨a6, c6, rfl⟩ := hown6.len; clear hown6 hq6 hb6))
    · go_wp2_with fail
      go_meet
      exact ⟨_, q6, a6, c6, rfl, HB.new _ _ _, Hown6.out.below (ba (Below.refl _ _) _), Hq6.out, ba Hb6.out _, Hb6.out.size⟩
    · go_wp2_with fail
      go_meet
      refine ⟨_, q6, a6, c6, rfl, ?_, (((Hown6.out.set_low (by dsimp only; omega) _).set_low (by dsimp only; omega) _).set_low (by dsimp only; omega) _).mono (by omega), Hq6.out, bs (bs (bs Hb6.out (Nat.le_refl _) _) (Nat.le_refl _) _) (Nat.le_refl _) _, Nat.le_refl _⟩
      have h := ((HG.out.put 0 (.slice aa ps.length ca)).put 1 (.int .i64 (IntKind.i64.wrap (c + k)))).put 2 (.slice a6 q6.length c6)
      simpa using h
  case rest =>
    obtain ⟨X, q6, a6, c6, rfl, hA, hD, hm, hBel, hX⟩ := hcut
    have hwrap : IntKind.i64.wrap (c + k) = c + k := IntWalk.i64_in _ (by omega)
    rw [hwrap] at hA
    obtain ⟨m, hmm⟩ : ∃ m, m = c + k := ⟨_, rfl⟩
    rw [← hmm] at hA
    have Hyes' := Lib.hid (show changed ⟨fs0, c, qs.map (·.1)⟩ (ps.map (·.1)) r p k = if okDisk ⟨ps.map (·.1), m, stampAll r m ([] :: namesAbove p) (qs.map (·.1))⟩ then (⟨ps.map (·.1), m, stampAll r m ([] :: namesAbove p) (qs.map (·.1))⟩, true) else (⟨[], 0, []⟩, false) by rw [hmm]; exact Hyes.out)
    have HA := Lib.hid hA
    have HD := Lib.hid hD
    have Hm := Lib.hid hm
    have HB1 := Lib.hid hBel
    have hsz := hBel.size
    have hWs := HWs.out
    have hXlt : X < wc.heap.size := hA.lt
    have hq6l : q6.length ≤ 20 := by have h := congrArg List.length hm; simp at h; omega
    have Hqn := Lib.hid (show ∀ q ∈ q6, q.1.names = [] from fun q h => by
      have h1 : q.1 ∈ qs.map (·.1) := by rw [← hm]; exact List.mem_map.2 ⟨q, h, rfl⟩
      exact (Hdr.out _ h1).1)
    have x0 : wc.cell? ⟨X, 0, none⟩ = some (.slice aa ps.length ca) := hA.cell 0
    have x1 : wc.cell? ⟨X, 1, none⟩ = some (.int .i64 m) := hA.cell 1
    have x2 : wc.cell? ⟨X, 2, none⟩ = some (.slice a6 q6.length c6) := hA.cell 2
    clear hA hD hm hBel hwrap hmm Hyes
    obtain ⟨L, hL⟩ : ∃ L, L = [] :: namesAbove p := ⟨_, rfl⟩
    have HLs := Lib.hid (show ∀ q ∈ L, q.length ≤ 11 by rw [hL]; exact stamped_short p)
    have HL := Lib.hid hL
    rw [← hL] at Hyes'
    clear hL
    go_wp2_with (go_at_call 89; refine (spec_stamped _ _ m r p q6 Wb.heap.size _ ⟨_, _, _, rfl⟩ HD.out HB1.out.size Hqn.out hq6l Hp.out).mono ?_; rintro _ w7 ⟨u7, rs, rfl, hrs, hown7, hb7, hk7⟩; rw [← HL.out, Hm.out] at hrs; obtain ⟨ua, uc, rfl⟩ := hown7.len; have Hrs := Lib.hid hrs; have Hown7 := Lib.hid hown7; have Hb7 := Lib.hid hb7; have HA7 := Lib.hid (HA.out.keep hk7 (by decide)); have y0 := HA7.out.cell 0; have y1 := HA7.out.cell 1; have y2 := HA7.out.cell 2; have g0 := HA7.out.frozen 0; have g1 := HA7.out.frozen 1; have g2 := HA7.out.frozen 2; have hl7 := HA7.out.lt; clear hrs hown7 hb7 hk7 x0 x1 x2)
    obtain ⟨W8, hW8⟩ : ∃ W, W = ((w7.setCell ⟨X, 0, none⟩ (.slice aa ps.length ca)).setCell ⟨X, 1, none⟩ (.int .i64 m)).setCell ⟨X, 2, none⟩ (.slice ua rs.length uc) := ⟨_, rfl⟩
    have HB8 := Lib.hid (show Below Wb.heap.size Wb W8 by rw [hW8]; exact (((HB1.out.trans Hb7.out).setCell (p := ⟨X, 0, none⟩) hX _).setCell (p := ⟨X, 1, none⟩) hX _).setCell (p := ⟨X, 2, none⟩) hX _)
    have HX8 := Lib.hid (show HB W8 X 28 #[.slice aa ps.length ca, .int .i64 m, .slice ua rs.length uc] by
      rw [hW8]
      have h := ((HA7.out.put 0 (.slice aa ps.length ca)).put 1 (.int .i64 m)).put 2 (.slice ua rs.length uc)
      simpa using h)
    have HO8 := Lib.hid (show OwnDirs W8 Wb.heap.size (.slice ua rs.length uc) rs by
      rw [hW8]
      exact ((HA7.out.put 0 _).put 1 _).dirs (by decide) (by decide) ((HA7.out.put 0 _).dirs (by decide) (by decide) (HA7.out.dirs (by decide) (by decide) Hown7.out _ _) _ _) _ _)
    have HF8 := Lib.hid (Hf.out.below (show Below w.heap.size w W8 from HBw.out.trans (HB8.out.mono HBw.out.size)))
    have HDk := Lib.hid (show DskIn W8 (fun _ => True) (.slice aa ps.length ca) (ps.map (·.1)) (.slice ua rs.length uc) (stampAll r m L (qs.map (·.1))) from ⟨HF8.out.fils (D := fun _ => True) (fun _ _ => trivial), by have h := HO8.out.dirs (D := fun _ => True) (fun _ _ => trivial); rw [Hrs.out] at h; exact h⟩)
    have HSk := Lib.hid (show ShortK 2000000 (ps.map (·.1)) (stampAll r m L (qs.map (·.1))) from ⟨Hz.out, fun d hd => by
      have h := stampAll_allM (P := fun d => d.pack.length ≤ 11 ∧ d.names = []) L (qs.map (·.1)) (fun q hq => ⟨HLs.out q hq, rfl⟩) (fun x hx => ⟨(Hdr.out x hx).2, (Hdr.out x hx).1⟩) d hd
      exact ⟨by omega, by rw [h.2]; intro q hq; simp at hq⟩⟩)
    rw [← hW8]
    clear hW8 y0 y1 y2 g0 g1 g2 hl7
    cases hok : okDisk ⟨ps.map (·.1), m, stampAll r m L (qs.map (·.1))⟩
    · have Hno := Lib.hid (show changed ⟨fs0, c, qs.map (·.1)⟩ (ps.map (·.1)) r p k = (⟨[], 0, []⟩, false) by rw [Hyes'.out, hok]; rfl)
      have Hok := Lib.hid hok
      clear hok
      refine (spec_validDisk _ _ m _ _ (fun _ => True) _ HDk.out HSk.out).mono ?_
      rintro _ w9 ⟨rfl, hb9⟩
      rw [Hok.out]
      have Hb9 := Lib.hid hb9
      have HR := Lib.hid (HX3.out.step (HB8.out.trans (hb9.mono HB8.out.size)))
      have r0 := HR.out.cell 0
      have r1 := HR.out.cell 1
      have r2 := HR.out.cell 2
      have rf0 := HR.out.frozen 0
      have rf1 := HR.out.frozen 1
      have rf2 := HR.out.frozen 2
      have rlt := HR.out.lt
      clear hb9
      go_wp2_with fail
      refine bodyPost_ret (v := .tuple #[.agg #[.slice none 0 0, .int .i64 0, .slice none 0 0], .bool false]) (by simp [results, Try.results48, go_sem, r0, r1, r2]) rfl (chgD_no Hno.out ?_)
      have hbw : Below w.heap.size w w9 := (HBw.out.trans (HB8.out.mono HBw.out.size)).trans (Hb9.out.mono (by have := HB8.out.size; omega))
      (repeat (with_reducible first | exact Below.refl _ _ | assumption | refine ba ?_ _ | refine bd ?_ | refine bdN ?_ _ | refine bs ?_ (by first | exact Nat.le_refl _ | (dsimp only; omega) | (simp; done)) _ | refine bt ?_ (by assumption)))
    · have Hy := Lib.hid (show changed ⟨fs0, c, qs.map (·.1)⟩ (ps.map (·.1)) r p k = (⟨ps.map (·.1), m, stampAll r m L (qs.map (·.1))⟩, true) by rw [Hyes'.out, hok]; rfl)
      have Hok := Lib.hid hok
      clear hok
      refine (spec_validDisk _ _ m _ _ (fun _ => True) _ HDk.out HSk.out).mono ?_
      rintro _ w9 ⟨rfl, hb9⟩
      rw [Hok.out]
      have Hb9 := Lib.hid hb9
      have HR := Lib.hid (HX3.out.step (HB8.out.trans (hb9.mono HB8.out.size)))
      have r0 := HR.out.cell 0
      have r1 := HR.out.cell 1
      have r2 := HR.out.cell 2
      have rf0 := HR.out.frozen 0
      have rf1 := HR.out.frozen 1
      have rf2 := HR.out.frozen 2
      have rlt := HR.out.lt
      have HXz := Lib.hid (HX8.out.step hb9)
      have z0 := HXz.out.cell 0
      have z1 := HXz.out.cell 1
      have z2 := HXz.out.cell 2
      clear hb9
      go_wp2_with fail
      refine bodyPost_ret (v := .tuple #[.agg #[.slice aa ps.length ca, .int .i64 m, .slice ua rs.length uc], .bool true]) (by simp [results, Try.results48, go_sem, r0, r1, r2]) rfl ?_
      rw [Hy.out]
      refine ⟨_, ps, _, rs, rfl, rfl, Hrs.out, ?_, ?_, ?_⟩
      · have h := HF8.out.below Hb9.out
        exact fils_hb (fils_hb (fils_hb h HR.out (by decide) (by decide) _ _) (HR.out.put _ _) (by decide) (by decide) _ _) ((HR.out.put _ _).put _ _) (by decide) (by decide) _ _
      · exact OwnDirs.mono (((((HO8.out.below Hb9.out).set_low (by dsimp only; omega) _).set_low (by dsimp only; omega) _).set_low (by dsimp only; omega) _)) (by omega)
      · have hbw : Below w.heap.size w w9 := (HBw.out.trans (HB8.out.mono HBw.out.size)).trans (Hb9.out.mono (by have := HB8.out.size; omega))
        (repeat (with_reducible first | exact Below.refl _ _ | assumption | refine ba ?_ _ | refine bd ?_ | refine bdN ?_ _ | refine bs ?_ (by first | exact Nat.le_refl _ | (dsimp only; omega) | (simp; done)) _ | refine bt ?_ (by assumption)))
theorem dsk_in {w : World} {B : Nat} {v u : Value} {ps : List (Fil × Value)} {qs : List (Dr × Value)} {fs : List Fil} {ds : List Dr} (h : OwnDsk w B v ps u qs) (e1 : ps.map (·.1) = fs) (e2 : qs.map (·.1) = ds) : DskIn w (fun _ => True) v fs u ds :=
  ⟨by have h1 := h.1.fils (D := fun _ => True) (fun _ _ => trivial); rwa [e1] at h1, by have h1 := h.2.dirs (D := fun _ => True) (fun _ _ => trivial); rwa [e2] at h1⟩
set_option maxRecDepth 100000 in
set_option maxHeartbeats 4000000 in
theorem impl_DiskAdd (v : Value) (fs : List Fil) (ps : List (Fil × Value)) (c : Int) (u : Value) (ds : List Dr) (qs : List (Dr × Value)) (B B' : Nat) (r st : Int) (p n : Bs) (i : Bool) (bv : Value) (body : List Stm) (k : Int) (w : World) (h : OwnDsk w B v ps u qs) (e1 : ps.map (·.1) = fs) (e2 : qs.map (·.1) = ds) (hz : ShortK 2000000 fs ds) (hb : w.ownsRow B' 138 5 bv body.length (body.flatMap stmCells)) (hbz : ShortF 1048576 ⟨r, p, n, i, st, body⟩) :
    Calls Try.prog 23 #[.agg #[v, .int .i64 c, u], .agg #[.int .i64 r, .string (mk p), .string (mk n), .bool i, .int .i64 st, bv], .int .i64 k] w (ChgD w.heap.size (diskAdd ⟨fs, c, ds⟩ ⟨r, p, n, i, st, body⟩ k) w) := by
  obtain ⟨aa, ca, rfl⟩ := h.1.len
  obtain ⟨ab, cb, rfl⟩ := h.2.len
  obtain ⟨ac, cc, rfl⟩ := owns_shape hb
  have H := Lib.hid h
  have E1 := Lib.hid e1
  have E2 := Lib.hid e2
  have Hb := Lib.hid hb
  have Hz := Lib.hid hz
  have Hbz := Lib.hid hbz
  have hp1 : p.length ≤ 1048576 := hbz.1
  have Hin := Lib.hid (dsk_in h e1 e2)
  have Hts := Lib.hid (addFil_short hz.1 (shortF_mono (by omega) hbz))
  clear h e1 e2 hb hz hbz
  have HX0 := Lib.hid (HB.new w #[.slice aa ps.length ca, .int .i64 c, .slice ab qs.length cb] 28)
  obtain ⟨Wb, hWb⟩ : ∃ W, W = ((w.alloc (.cells #[.slice aa ps.length ca, .int .i64 c, .slice ab qs.length cb] 28)).alloc (.cells #[.int .i64 r, .string (mk p), .string (mk n), .bool i, .int .i64 st, .slice ac body.length cc] 36)).alloc (.cells #[.slice none 0 0, .int .i64 0, .slice none 0 0] 28) := ⟨_, rfl⟩
  have HBw := Lib.hid (show Below w.heap.size w Wb by rw [hWb]; (repeat (with_reducible first | exact Below.refl _ _ | assumption | refine ba ?_ _ | refine bd ?_ | refine bdN ?_ _ | refine bs ?_ (by first | exact Nat.le_refl _ | (dsimp only; omega) | (simp; done)) _ | refine bt ?_ (by assumption))))
  have HWs := Lib.hid (show Wb.heap.size = w.heap.size + 3 by rw [hWb]; simp)
  have HX0 := Lib.hid (show HB Wb w.heap.size 28 #[.slice aa ps.length ca, .int .i64 c, .slice ab qs.length cb] by rw [hWb]; exact ((HB.new w _ _).alloc _).alloc _)
  have HX1 := Lib.hid (show HB Wb (w.heap.size + 1) 36 #[.int .i64 r, .string (mk p), .string (mk n), .bool i, .int .i64 st, .slice ac body.length cc] by rw [hWb]; have h := ((HB.new (w.alloc (.cells #[.slice aa ps.length ca, .int .i64 c, .slice ab qs.length cb] 28)) #[.int .i64 r, .string (mk p), .string (mk n), .bool i, .int .i64 st, .slice ac body.length cc] 36).alloc (.cells #[.slice none 0 0, .int .i64 0, .slice none 0 0] 28)); rw [World.size_alloc] at h; exact h)
  have HX2 := Lib.hid (show HB Wb (w.heap.size + 1 + 1) 28 #[.slice none 0 0, .int .i64 0, .slice none 0 0] by rw [hWb]; have h := (HB.new ((w.alloc (.cells #[.slice aa ps.length ca, .int .i64 c, .slice ab qs.length cb] 28)).alloc (.cells #[.int .i64 r, .string (mk p), .string (mk n), .bool i, .int .i64 st, .slice ac body.length cc] 36)) #[.slice none 0 0, .int .i64 0, .slice none 0 0] 28); rw [World.size_alloc, World.size_alloc] at h; exact h)
  have HWe := Lib.hid hWb
  clear hWb
  obtain ⟨f, hf⟩ : ∃ f, f = (⟨r, p, n, i, st, body⟩ : Fil) := ⟨_, rfl⟩
  obtain ⟨R, hR⟩ : ∃ R, R = addFil fs ⟨r, p, n, i, st, body⟩ := ⟨_, rfl⟩
  have HR := Lib.hid hR
  rw [← hR] at Hts
  have Hno := Lib.hid (show (okDisk ⟨fs, c, ds⟩ && R.2) = false → diskAdd ⟨fs, c, ds⟩ ⟨r, p, n, i, st, body⟩ k = (⟨[], 0, []⟩, false) by rw [hR]; exact diskAdd_no)
  have Hyes := Lib.hid (show okDisk ⟨fs, c, ds⟩ = true → R.2 = true → diskAdd ⟨fs, c, ds⟩ ⟨r, p, n, i, st, body⟩ k = changed ⟨fs, c, ds⟩ R.1 r p k by rw [hR]; exact diskAdd_yes)
  clear hR hf
  obtain ⟨R1, R2⟩ := R
  dsimp only at Hts Hno Hyes
  go_enter Try.func23, Try.ntmps23
  go_wp2_with fail
  rw [← HWe.out]
  refine (impl_AddFileX _ fs ps B B' r st p n i _ body _ (H.out.1.below HBw.out) E1.out Hz.out.1 (owns_below Hb.out HBw.out) Hbz.out).mono ?_
  rintro _ w5 ⟨v5, ps5, rfl, hps5, hown5, hb5⟩
  rw [← HR.out] at hps5 ⊢
  dsimp only at hps5 ⊢
  obtain ⟨a5, c5, rfl⟩ := hown5.len
  obtain ⟨W5, hW5⟩ : ∃ W, W = w5.alloc (.cells #[.slice a5 ps5.length c5] 25) := ⟨_, rfl⟩
  have Hps5 := Lib.hid hps5
  have hB5 := hb5.size
  have HB5 := Lib.hid (show Below Wb.heap.size Wb W5 by rw [hW5]; exact ba hb5 _)
  have HO5 := Lib.hid (show OwnFils W5 Wb.heap.size (.slice a5 ps5.length c5) ps5 by rw [hW5]; exact hown5.below (ba (Below.refl _ _) _))
  have HXT := Lib.hid (show HB W5 w5.heap.size 25 #[.slice a5 ps5.length c5] by rw [hW5]; exact HB.new _ _ _)
  have HW5 := Lib.hid hW5
  have hW5s : W5.heap.size = w5.heap.size + 1 := by rw [hW5]; simp
  have hWbs := HWs.out
  have x0 : W5.cell? ⟨w.heap.size, 0, none⟩ = some (.slice aa ps.length ca) := (HX0.out.step HB5.out).cell 0
  have x1 : W5.cell? ⟨w.heap.size, 1, none⟩ = some (.int .i64 c) := (HX0.out.step HB5.out).cell 1
  have x2 : W5.cell? ⟨w.heap.size, 2, none⟩ = some (.slice ab qs.length cb) := (HX0.out.step HB5.out).cell 2
  have t0 : W5.cell? ⟨w5.heap.size, 0, none⟩ = some (.slice a5 ps5.length c5) := HXT.out.cell 0
  have Hbw := Lib.hid (show Below w.heap.size w W5 from HBw.out.trans (HB5.out.mono HBw.out.size))
  clear hps5 hown5 hb5 hW5
  have RET := Lib.hid (fun (w' : World) (hC : Below W5.heap.size W5 w') => (⟨(HX2.out.step HB5.out).step hC |>.cell 0, (HX2.out.step HB5.out).step hC |>.cell 1, (HX2.out.step HB5.out).step hC |>.cell 2, (HX2.out.step HB5.out).step hC |>.frozen 0, (HX2.out.step HB5.out).step hC |>.frozen 1, (HX2.out.step HB5.out).step hC |>.frozen 2, (HX2.out.step HB5.out).step hC |>.lt⟩ : w'.cell? ⟨w.heap.size + 1 + 1, 0, none⟩ = some (.slice none 0 0) ∧ w'.cell? ⟨w.heap.size + 1 + 1, 1, none⟩ = some (.int .i64 0) ∧ w'.cell? ⟨w.heap.size + 1 + 1, 2, none⟩ = some (.slice none 0 0) ∧ w'.frozen? ⟨w.heap.size + 1 + 1, 0, none⟩ = false ∧ w'.frozen? ⟨w.heap.size + 1 + 1, 1, none⟩ = false ∧ w'.frozen? ⟨w.heap.size + 1 + 1, 2, none⟩ = false ∧ w.heap.size + 1 + 1 < w'.heap.size))
  cases R2
  · have Hno' := Lib.hid (Hno.out (by simp))
    obtain ⟨r0, r1, r2, rf0, rf1, rf2, rl⟩ := RET.out W5 (Below.refl _ _)
    rw [HW5.out] at r0 r1 r2 rf0 rf1 rf2 rl
    clear x0 x1 x2 t0
    go_wp2_with fail
    refine bodyPost_ret (v := .tuple #[.agg #[.slice none 0 0, .int .i64 0, .slice none 0 0], .bool false]) (by simp [results, Try.results23, go_sem, r0, r1, r2]) rfl (chgD_no Hno'.out ?_)
    have hbw := Hbw.out
    rw [HW5.out] at hbw
    (repeat (with_reducible first | exact Below.refl _ _ | assumption | refine ba ?_ _ | refine bd ?_ | refine bdN ?_ _ | refine bs ?_ (by first | exact Nat.le_refl _ | (dsimp only; omega) | (simp; done)) _ | refine bt ?_ (by assumption)))
  · cases hok : okDisk ⟨fs, c, ds⟩
    · have Hok := Lib.hid hok
      have Hno' := Lib.hid (Hno.out (by rw [hok]; rfl))
      clear hok t0
      rw [HW5.out] at x0 x1 x2
      go_wp2_with fail
      rw [← HW5.out]
      refine (impl_ValidDisk _ fs c _ ds (fun _ => True) _ (Hin.out.below Hbw.out) Hz.out).mono ?_
      rintro _ w6 ⟨rfl, hb6⟩
      rw [Hok.out]
      have Hb6 := Lib.hid hb6
      obtain ⟨r0, r1, r2, rf0, rf1, rf2, rl⟩ := RET.out w6 hb6
      clear hb6 x0 x1 x2
      go_wp2_with fail
      refine bodyPost_ret (v := .tuple #[.agg #[.slice none 0 0, .int .i64 0, .slice none 0 0], .bool false]) (by simp [results, Try.results23, go_sem, r0, r1, r2]) rfl (chgD_no Hno'.out ?_)
      have hbw := Hbw.out.trans (Hb6.out.mono Hbw.out.size)
      (repeat (with_reducible first | exact Below.refl _ _ | assumption | refine ba ?_ _ | refine bd ?_ | refine bdN ?_ _ | refine bs ?_ (by first | exact Nat.le_refl _ | (dsimp only; omega) | (simp; done)) _ | refine bt ?_ (by assumption)))
    · have Hok := Lib.hid hok
      have Hy := Lib.hid (Hyes.out hok rfl)
      obtain ⟨o1, o2, o3⟩ := okDisk_all hok
      have O1 := Lib.hid o1
      have O2 := Lib.hid o2
      clear hok o1 o2 o3
      rw [HW5.out] at x0 x1 x2 t0
      go_wp2_with fail
      rw [← HW5.out]
      refine (impl_ValidDisk _ fs c _ ds (fun _ => True) _ (Hin.out.below Hbw.out) Hz.out).mono ?_
      rintro _ w6 ⟨rfl, hb6⟩
      rw [Hok.out]
      have Hb6 := Lib.hid hb6
      have hX0 := (HX0.out.step HB5.out).step hb6
      have hX1 := (HX1.out.step HB5.out).step hb6
      have hXT := HXT.out.step hb6
      clear x0 x1 x2 t0
      have x0 := hX0.cell 0
      have x1 := hX0.cell 1
      have x2 := hX0.cell 2
      have y0 := hX1.cell 0
      have y1 := hX1.cell 1
      have y2 := hX1.cell 2
      have y3 := hX1.cell 3
      have y4 := hX1.cell 4
      have y5 := hX1.cell 5
      have t0 := hXT.cell 0
      clear hb6 hX0 hX1 hXT
      go_wp2_with fail
      refine (impl_changedDisk _ _ _ fs c k r st p n i _ ps5 qs Wb.heap.size B _ (HO5.out.below Hb6.out) (by rw [Hps5.out]; exact Hts.out) (H.out.2.below (Hbw.out.trans (Hb6.out.mono Hbw.out.size))) O1.out (by rw [E2.out]; exact O2.out) (by omega)).mono ?_
      rintro e w7 hch
      rw [Hps5.out, E2.out, ← Hy.out] at hch
      have hsz := Hb6.out.size
      obtain ⟨v7, ps7, u7, qs7, rfl, hps7, hqs7, hf7, hd7, hb7⟩ := hch
      obtain ⟨r0, r1, r2, rf0, rf1, rf2, rl⟩ := RET.out w7 (Hb6.out.trans (hb7.mono hsz))
      obtain ⟨a7, c7, rfl⟩ := hf7.len
      obtain ⟨b7, d7, rfl⟩ := hd7.len
      have Hps7 := Lib.hid hps7
      have Hqs7 := Lib.hid hqs7
      have Hf7 := Lib.hid hf7
      have Hd7 := Lib.hid hd7
      have Hb7 := Lib.hid hb7
      clear hps7 hqs7 hf7 hd7 hb7 x0 x1 x2 y0 y1 y2 y3 y4 y5 t0
      generalize diskAdd ⟨fs, c, ds⟩ ⟨r, p, n, i, st, body⟩ k = res at *
      go_wp2_with fail
      refine bodyPost_ret (v := .tuple #[.agg #[.slice a7 ps7.length c7, .int .i64 res.1.clock, .slice b7 qs7.length d7], .bool res.2]) (by simp [results, Try.results23, go_sem, r0, r1, r2]) rfl ?_
      refine ⟨_, ps7, _, qs7, rfl, Hps7.out, Hqs7.out, ?_, ?_, ?_⟩
      · exact OwnFils.mono (B := Wb.heap.size) (((Hf7.out.set_low (by dsimp only; omega) _).set_low (by dsimp only; omega) _).set_low (by dsimp only; omega) _) (by omega)
      · exact OwnDirs.mono (B := Wb.heap.size) ((((Hd7.out.mono (by omega)).set_low (by dsimp only; omega) _).set_low (by dsimp only; omega) _).set_low (by dsimp only; omega) _) (by omega)
      · have hbw := (Hbw.out.trans (Hb6.out.mono Hbw.out.size)).trans (Hb7.out.mono (by omega))
        (repeat (with_reducible first | exact Below.refl _ _ | assumption | refine ba ?_ _ | refine bd ?_ | refine bdN ?_ _ | refine bs ?_ (by first | exact Nat.le_refl _ | (dsimp only; omega) | (simp; done)) _ | refine bt ?_ (by assumption)))
--@@ written by mkdska.py
theorem cells_kept3 {w : World} {Z : Nat} {a b c : Value} {p : Addr} {v : Value} (h : w.cell? p = some v) (hp : p.block ≠ Z) : (((w.setCell ⟨Z, 0, none⟩ a).setCell ⟨Z, 1, none⟩ b).setCell ⟨Z, 2, none⟩ c).cell? p = some v := by
  rw [World.cell?_of_block (w := w) (by rw [Below.heap_setCell _ _ _ _ hp, Below.heap_setCell _ _ _ _ hp, Below.heap_setCell _ _ _ _ hp])]; exact h
set_option maxRecDepth 100000 in
set_option maxHeartbeats 4000000 in
theorem spec_DiskAdd (v : Value) (fs : List Fil) (ps : List (Fil × Value)) (c : Int) (u : Value) (ds : List Dr) (qs : List (Dr × Value)) (B B' : Nat) (r st : Int) (p n : Bs) (i : Bool) (bv : Value) (body : List Stm) (k : Int) (w : World) (h : OwnDsk w B v ps u qs) (e1 : ps.map (·.1) = fs) (e2 : qs.map (·.1) = ds) (hz : ShortK 2000000 fs ds) (hc0 : dskCost' fs ds) (hbk : body.length ≤ 1048576) (hb : w.ownsRow B' 138 5 bv body.length (body.flatMap stmCells)) (hbz : ShortF 1048576 ⟨r, p, n, i, st, body⟩) :
    Calls Try.prog 20 #[.agg #[v, .int .i64 c, u], .agg #[.int .i64 r, .string (mk p), .string (mk n), .bool i, .int .i64 st, bv], .int .i64 k] w (ChgD w.heap.size (diskAdd ⟨fs, c, ds⟩ ⟨r, p, n, i, st, body⟩ k) w) := by
  obtain ⟨aa, ca, rfl⟩ := h.1.len
  obtain ⟨ab, cb, rfl⟩ := h.2.len
  obtain ⟨ac, cc, rfl⟩ := owns_shape hb
  have Hb := Lib.hid hb
  have Hbz := Lib.hid hbz
  have hp1 : p.length ≤ 1048576 := hbz.1
  have Hts := Lib.hid (addFil_short hz.1 (shortF_mono (by omega) hbz))
  have H := Lib.hid h
  have E1 := Lib.hid e1
  have E2 := Lib.hid e2
  have Hz := Lib.hid hz
  have Hc0 := Lib.hid hc0
  have Hin := Lib.hid (dsk_in h e1 e2)
  clear h e1 e2 hz hc0 hb hbz
  obtain ⟨Wb, hWb⟩ : ∃ W, W = ((w.alloc (.cells #[.slice aa ps.length ca, .int .i64 c, .slice ab qs.length cb] 28)).alloc (.cells #[.int .i64 r, .string (mk p), .string (mk n), .bool i, .int .i64 st, .slice ac body.length cc] 36)).alloc (.cells #[.slice none 0 0, .int .i64 0, .slice none 0 0] 28) := ⟨_, rfl⟩
  have HBw := Lib.hid (show Below w.heap.size w Wb by rw [hWb]; (repeat (with_reducible first | exact Below.refl _ _ | assumption | refine ba ?_ _ | refine bd ?_ | refine bdN ?_ _ | refine bs ?_ (by first | exact Nat.le_refl _ | (dsimp only; omega) | (simp; done)) _ | refine bt ?_ (by assumption))))
  have HWs := Lib.hid (show Wb.heap.size = w.heap.size + 3 by rw [hWb]; simp)
  have HX0 := Lib.hid (show HB Wb w.heap.size 28 #[.slice aa ps.length ca, .int .i64 c, .slice ab qs.length cb] by rw [hWb]; exact ((HB.new w _ _).alloc _).alloc _)
  have HX1 := Lib.hid (show HB Wb (w.heap.size + 1) 36 #[.int .i64 r, .string (mk p), .string (mk n), .bool i, .int .i64 st, .slice ac body.length cc] by rw [hWb]; have h := ((HB.new (w.alloc (.cells #[.slice aa ps.length ca, .int .i64 c, .slice ab qs.length cb] 28)) #[.int .i64 r, .string (mk p), .string (mk n), .bool i, .int .i64 st, .slice ac body.length cc] 36).alloc (.cells #[.slice none 0 0, .int .i64 0, .slice none 0 0] 28)); rw [World.size_alloc] at h; exact h)
  have HX2 := Lib.hid (show HB Wb (w.heap.size + 1 + 1) 28 #[.slice none 0 0, .int .i64 0, .slice none 0 0] by rw [hWb]; have h := (HB.new ((w.alloc (.cells #[.slice aa ps.length ca, .int .i64 c, .slice ab qs.length cb] 28)).alloc (.cells #[.int .i64 r, .string (mk p), .string (mk n), .bool i, .int .i64 st, .slice ac body.length cc] 36)) #[.slice none 0 0, .int .i64 0, .slice none 0 0] 28); rw [World.size_alloc, World.size_alloc] at h; exact h)
  have HWe := Lib.hid hWb
  clear hWb
  have hWbs := HWs.out
  have RET := Lib.hid (fun (w' : World) (hC : Below Wb.heap.size Wb w') => (⟨(HX2.out.step hC).cell 0, (HX2.out.step hC).cell 1, (HX2.out.step hC).cell 2, (HX2.out.step hC).frozen 0, (HX2.out.step hC).frozen 1, (HX2.out.step hC).frozen 2, (HX2.out.step hC).lt⟩ : w'.cell? ⟨w.heap.size + 1 + 1, 0, none⟩ = some (.slice none 0 0) ∧ w'.cell? ⟨w.heap.size + 1 + 1, 1, none⟩ = some (.int .i64 0) ∧ w'.cell? ⟨w.heap.size + 1 + 1, 2, none⟩ = some (.slice none 0 0) ∧ w'.frozen? ⟨w.heap.size + 1 + 1, 0, none⟩ = false ∧ w'.frozen? ⟨w.heap.size + 1 + 1, 1, none⟩ = false ∧ w'.frozen? ⟨w.heap.size + 1 + 1, 2, none⟩ = false ∧ w.heap.size + 1 + 1 < w'.heap.size))
  obtain ⟨R, hR⟩ : ∃ R, R = addFil fs ⟨r, p, n, i, st, body⟩ := ⟨_, rfl⟩
  have HR := Lib.hid hR
  rw [← hR] at Hts
  have Hat := Lib.hid (fun (h2 : R.2 = true) => addFil_pack (t := fs) (f := ⟨r, p, n, i, st, body⟩) (by rw [← hR]; exact h2))
  have Hno := Lib.hid (show (okDisk ⟨fs, c, ds⟩ && R.2) = false → diskAdd ⟨fs, c, ds⟩ ⟨r, p, n, i, st, body⟩ k = (⟨[], 0, []⟩, false) by rw [hR]; exact diskAdd_no)
  have Hyes := Lib.hid (show okDisk ⟨fs, c, ds⟩ = true → R.2 = true → diskAdd ⟨fs, c, ds⟩ ⟨r, p, n, i, st, body⟩ k = changed ⟨fs, c, ds⟩ R.1 r p k by rw [hR]; exact diskAdd_yes)
  clear hR
  obtain ⟨R1, R2⟩ := R
  dsimp only at Hts Hno Hyes Hat
  go_enter Try.func20, Try.ntmps20
  cases hok : okDisk ⟨fs, c, ds⟩
  · have Hok := Lib.hid hok
    have Hno' := Lib.hid (Hno.out (by rw [hok]; rfl))
    clear hok
    go_wp2_with fail
    rw [← HWe.out]
    refine (spec_validDisk _ fs c _ ds (fun _ => True) _ (Hin.out.below HBw.out) Hz.out).mono ?_
    rintro _ w4 ⟨rfl, hb4⟩
    rw [Hok.out]
    have Hb4 := Lib.hid hb4
    obtain ⟨r0, r1, r2, rf0, rf1, rf2, rl⟩ := RET.out w4 hb4
    clear hb4
    go_wp2_with fail
    refine bodyPost_ret (v := .tuple #[.agg #[.slice none 0 0, .int .i64 0, .slice none 0 0], .bool false]) (by simp [results, Try.results20, go_sem, r0, r1, r2]) rfl (chgD_no Hno'.out ?_)
    have hbw := HBw.out.trans (Hb4.out.mono HBw.out.size)
    (repeat (with_reducible first | exact Below.refl _ _ | assumption | refine ba ?_ _ | refine bd ?_ | refine bdN ?_ _ | refine bs ?_ (by first | exact Nat.le_refl _ | (dsimp only; omega) | (simp; done)) _ | refine bt ?_ (by assumption)))
  · cases hkk : inr k 0 200
    · have Hok := Lib.hid hok
      have Hkk := Lib.hid hkk
      have Hno' := Lib.hid (show diskAdd ⟨fs, c, ds⟩ ⟨r, p, n, i, st, body⟩ k = (⟨[], 0, []⟩, false) from diskAdd_far hok hkk)
      clear hok hkk
      go_wp2_with fail
      rw [← HWe.out]
      refine (spec_validDisk _ fs c _ ds (fun _ => True) _ (Hin.out.below HBw.out) Hz.out).mono ?_
      rintro _ w4 ⟨rfl, hb4⟩
      rw [Hok.out]
      have Hb4 := Lib.hid hb4
      obtain ⟨r0, r1, r2, rf0, rf1, rf2, rl⟩ := RET.out w4 hb4
      clear hb4
      go_wp2_with ((go_at_call 46; refine (spec_inRange' _ _ _ _).mono ?_; rintro _ _ ⟨rfl, rfl⟩); rw [Hkk.out])
      refine bodyPost_ret (v := .tuple #[.agg #[.slice none 0 0, .int .i64 0, .slice none 0 0], .bool false]) (by simp [results, Try.results20, go_sem, r0, r1, r2]) rfl (chgD_no Hno'.out ?_)
      have hbw := HBw.out.trans (Hb4.out.mono HBw.out.size)
      (repeat (with_reducible first | exact Below.refl _ _ | assumption | refine ba ?_ _ | refine bd ?_ | refine bdN ?_ _ | refine bs ?_ (by first | exact Nat.le_refl _ | (dsimp only; omega) | (simp; done)) _ | refine bt ?_ (by assumption)))
    · have Hok := Lib.hid hok
      have Hkk := Lib.hid hkk
      have Hyy := Lib.hid (fun h => Hyes.out hok h)
      have Hno2 := Lib.hid (fun (h : R2 = false) => Hno.out (by rw [h]; simp))
      obtain ⟨o1, o2, o3⟩ := okDisk_all hok
      have O1 := Lib.hid o1
      have O2 := Lib.hid o2
      clear hok hkk o1 o2 o3
      go_wp2_with fail
      rw [← HWe.out]
      refine (spec_validDisk _ fs c _ ds (fun _ => True) _ (Hin.out.below HBw.out) Hz.out).mono ?_
      rintro _ w4 ⟨rfl, hb4⟩
      rw [Hok.out]
      have Hb4 := Lib.hid hb4
      have HBc := Lib.hid hb4
      have HBx := Lib.hid (HBw.out.trans (hb4.mono HBw.out.size))
      have hX0 := HX0.out.step hb4
      have hX1 := HX1.out.step hb4
      have y0 := hX1.cell 0
      have y1 := hX1.cell 1
      have y2 := hX1.cell 2
      have y3 := hX1.cell 3
      have y4 := hX1.cell 4
      have y5 := hX1.cell 5
      have x0 := hX0.cell 0
      have x1 := hX0.cell 1
      have x2 := hX0.cell 2
      clear hX0 hb4 hX1
      go_wp2_with ((go_at_call 46; refine (spec_inRange' _ _ _ _).mono ?_; rintro _ _ ⟨rfl, rfl⟩); rw [Hkk.out])
      refine (spec_AddFileX _ fs ps B B' r st p n i _ body _ (H.out.1.below HBx.out) E1.out Hz.out.1 Hc0.out.1 (owns_below Hb.out HBx.out) Hbz.out hbk).mono ?_
      rintro _ w5 ⟨v5, ps5, rfl, hps5, hown5, hb5⟩
      rw [← HR.out] at hps5 ⊢
      dsimp only at hps5 ⊢
      obtain ⟨a5, c5, rfl⟩ := hown5.len
      obtain ⟨W5, hW5⟩ : ∃ W, W = w5.alloc (.cells #[.slice a5 ps5.length c5] 25) := ⟨_, rfl⟩
      have Hps5 := Lib.hid hps5
      have HB5 := Lib.hid (show Below Wb.heap.size Wb W5 by rw [hW5]; exact ba (HBc.out.trans (hb5.mono HBc.out.size)) _)
      have hsz5 := HB5.out.size
      have hw5z : Wb.heap.size ≤ w5.heap.size := (HBc.out.trans (hb5.mono HBc.out.size)).size
      have HO5 := Lib.hid (show OwnFils W5 Wb.heap.size (.slice a5 ps5.length c5) ps5 by rw [hW5]; exact (hown5.mono (by exact HBc.out.size)).below (ba (Below.refl _ _) _))
      have HXT := Lib.hid (show HB W5 w5.heap.size 25 #[.slice a5 ps5.length c5] by rw [hW5]; exact HB.new _ _ _)
      have HW5 := Lib.hid hW5
      have Hbw := Lib.hid (show Below w.heap.size w W5 from HBw.out.trans (HB5.out.mono HBw.out.size))
      clear hps5 hown5 hb5 hW5
      clear x0 x1 x2 y0 y1 y2 y3 y4 y5
      have hX0 := HX0.out.step HB5.out
      have hX1 := HX1.out.step HB5.out
      have y0 := hX1.cell 0
      have y1 := hX1.cell 1
      have y2 := hX1.cell 2
      have y3 := hX1.cell 3
      have y4 := hX1.cell 4
      have y5 := hX1.cell 5
      have x0 := hX0.cell 0
      have x1 := hX0.cell 1
      have x2 := hX0.cell 2
      have t0 := HXT.out.cell 0
      clear hX0 hX1
      cases R2
      · have Hno' := Lib.hid (Hno2.out rfl)
        obtain ⟨r0, r1, r2, rf0, rf1, rf2, rl⟩ := RET.out W5 HB5.out
        rw [HW5.out] at r0 r1 r2 rf0 rf1 rf2 rl
        clear x0 x1 x2 t0
        go_wp2_with fail
        refine bodyPost_ret (v := .tuple #[.agg #[.slice none 0 0, .int .i64 0, .slice none 0 0], .bool false]) (by simp [results, Try.results20, go_sem, r0, r1, r2]) rfl (chgD_no Hno'.out ?_)
        have hbw := Hbw.out
        rw [HW5.out] at hbw
        (repeat (with_reducible first | exact Below.refl _ _ | assumption | refine ba ?_ _ | refine bd ?_ | refine bdN ?_ _ | refine bs ?_ (by first | exact Nat.le_refl _ | (dsimp only; omega) | (simp; done)) _ | refine bt ?_ (by assumption)))
      · have Hy := Lib.hid (Hyy.out rfl)
        have H56 := Lib.hid (Below.refl W5.heap.size W5)
        have HB6 := HB5
        have hsz6 := HB6.out.size
        rw [HW5.out] at x0 x1 x2 y0 y1 y2 y3 y4 y5 t0
        go_wp2_with fail
        rw [← HW5.out]
        refine (spec_changed _ _ _ fs c k r p ps5 qs Wb.heap.size B _ (HO5.out.below H56.out) (by rw [Hps5.out]; exact Hts.out) (H.out.2.below (HBw.out.trans (HB6.out.mono HBw.out.size))) O1.out (by rw [E2.out]; exact O2.out) Hkk.out (Hat.out (by simp))).mono ?_
        rintro e w7 hch
        rw [Hps5.out, E2.out, ← Hy.out] at hch
        obtain ⟨v7, ps7, u7, qs7, rfl, hps7, hqs7, hf7, hd7, hb7⟩ := hch
        obtain ⟨r0, r1, r2, rf0, rf1, rf2, rl⟩ := RET.out w7 (HB6.out.trans (hb7.mono hsz6))
        obtain ⟨a7, c7, rfl⟩ := hf7.len
        obtain ⟨b7, d7, rfl⟩ := hd7.len
        have Hps7 := Lib.hid hps7
        have Hqs7 := Lib.hid hqs7
        have Hf7 := Lib.hid hf7
        have Hd7 := Lib.hid hd7
        have Hb7 := Lib.hid hb7
        clear hps7 hqs7 hf7 hd7 hb7 x0 x1 x2 t0 y0 y1 y2 y3 y4 y5
        generalize diskAdd ⟨fs, c, ds⟩ ⟨r, p, n, i, st, body⟩ k = res at *
        go_wp2_with fail
        refine bodyPost_ret (v := .tuple #[.agg #[.slice a7 ps7.length c7, .int .i64 res.1.clock, .slice b7 qs7.length d7], .bool res.2]) (by simp [results, Try.results20, go_sem, r0, r1, r2]) rfl ?_
        refine ⟨_, ps7, _, qs7, rfl, Hps7.out, Hqs7.out, ?_, ?_, ?_⟩
        · exact OwnFils.mono (B := Wb.heap.size) (((Hf7.out.set_low (by dsimp only; omega) _).set_low (by dsimp only; omega) _).set_low (by dsimp only; omega) _) (by omega)
        · exact OwnDirs.mono (B := Wb.heap.size) ((((Hd7.out.mono (by omega)).set_low (by dsimp only; omega) _).set_low (by dsimp only; omega) _).set_low (by dsimp only; omega) _) (by omega)
        · have hbw := (HBw.out.trans (HB6.out.mono HBw.out.size)).trans (Hb7.out.mono (by omega))
          (repeat (with_reducible first | exact Below.refl _ _ | assumption | refine ba ?_ _ | refine bd ?_ | refine bdN ?_ _ | refine bs ?_ (by first | exact Nat.le_refl _ | (dsimp only; omega) | (simp; done)) _ | refine bt ?_ (by assumption)))
set_option maxRecDepth 100000 in
set_option maxHeartbeats 4000000 in
theorem impl_DiskRemove (v : Value) (fs : List Fil) (ps : List (Fil × Value)) (c : Int) (u : Value) (ds : List Dr) (qs : List (Dr × Value)) (B : Nat) (x k : Int) (w : World) (h : OwnDsk w B v ps u qs) (e1 : ps.map (·.1) = fs) (e2 : qs.map (·.1) = ds) (hz : ShortK 2000000 fs ds) (hc0 : dskCost' fs ds) :
    Calls Try.prog 11 #[.agg #[v, .int .i64 c, u], .int .i64 x, .int .i64 k] w (ChgD w.heap.size (diskRem ⟨fs, c, ds⟩ x k) w) := by
  obtain ⟨aa, ca, rfl⟩ := h.1.len
  obtain ⟨ab, cb, rfl⟩ := h.2.len
  have Hts := Lib.hid (remFil_short (i := x) hz.1)
  have H := Lib.hid h
  have E1 := Lib.hid e1
  have E2 := Lib.hid e2
  have Hz := Lib.hid hz
  have Hc0 := Lib.hid hc0
  have Hin := Lib.hid (dsk_in h e1 e2)
  clear h e1 e2 hz hc0
  obtain ⟨Wb, hWb⟩ : ∃ W, W = (w.alloc (.cells #[.slice aa ps.length ca, .int .i64 c, .slice ab qs.length cb] 28)).alloc (.cells #[.slice none 0 0, .int .i64 0, .slice none 0 0] 28) := ⟨_, rfl⟩
  have HBw := Lib.hid (show Below w.heap.size w Wb by rw [hWb]; (repeat (with_reducible first | exact Below.refl _ _ | assumption | refine ba ?_ _ | refine bd ?_ | refine bdN ?_ _ | refine bs ?_ (by first | exact Nat.le_refl _ | (dsimp only; omega) | (simp; done)) _ | refine bt ?_ (by assumption))))
  have HWs := Lib.hid (show Wb.heap.size = w.heap.size + 2 by rw [hWb]; simp)
  have HX0 := Lib.hid (show HB Wb w.heap.size 28 #[.slice aa ps.length ca, .int .i64 c, .slice ab qs.length cb] by rw [hWb]; exact (HB.new w _ _).alloc _)
  have HX2 := Lib.hid (show HB Wb (w.heap.size + 1) 28 #[.slice none 0 0, .int .i64 0, .slice none 0 0] by rw [hWb]; have h := (HB.new (w.alloc (.cells #[.slice aa ps.length ca, .int .i64 c, .slice ab qs.length cb] 28)) #[.slice none 0 0, .int .i64 0, .slice none 0 0] 28); rw [World.size_alloc] at h; exact h)
  have HWe := Lib.hid hWb
  clear hWb
  have hWbs := HWs.out
  have RET := Lib.hid (fun (w' : World) (hC : Below Wb.heap.size Wb w') => (⟨(HX2.out.step hC).cell 0, (HX2.out.step hC).cell 1, (HX2.out.step hC).cell 2, (HX2.out.step hC).frozen 0, (HX2.out.step hC).frozen 1, (HX2.out.step hC).frozen 2, (HX2.out.step hC).lt⟩ : w'.cell? ⟨w.heap.size + 1, 0, none⟩ = some (.slice none 0 0) ∧ w'.cell? ⟨w.heap.size + 1, 1, none⟩ = some (.int .i64 0) ∧ w'.cell? ⟨w.heap.size + 1, 2, none⟩ = some (.slice none 0 0) ∧ w'.frozen? ⟨w.heap.size + 1, 0, none⟩ = false ∧ w'.frozen? ⟨w.heap.size + 1, 1, none⟩ = false ∧ w'.frozen? ⟨w.heap.size + 1, 2, none⟩ = false ∧ w.heap.size + 1 < w'.heap.size))
  obtain ⟨R, hR⟩ : ∃ R, R = remFil fs x := ⟨_, rfl⟩
  have HR := Lib.hid hR
  rw [← hR] at Hts
  have Hat := Lib.hid (fun (h2 : R.2 = true) => remFil_at (t := fs) (i := x) (by rw [← hR]; exact h2))
  have Hno := Lib.hid (show (okDisk ⟨fs, c, ds⟩ && R.2) = false → diskRem ⟨fs, c, ds⟩ x k = (⟨[], 0, []⟩, false) by rw [hR]; exact diskRem_no)
  have Hyes := Lib.hid (show okDisk ⟨fs, c, ds⟩ = true → R.2 = true → diskRem ⟨fs, c, ds⟩ x k = changed ⟨fs, c, ds⟩ R.1 (fs.getD x.toNat noFil).root (fs.getD x.toNat noFil).pack k by rw [hR]; exact diskRem_yes)
  clear hR
  obtain ⟨R1, R2⟩ := R
  dsimp only at Hts Hno Hyes Hat
  go_enter Try.func11, Try.ntmps11
  go_wp2_with fail
  rw [← HWe.out]
  have HBx := HBw
  refine (impl_RemoveFileX _ fs ps B x _ (H.out.1.below HBx.out) E1.out Hz.out.1 Hc0.out.1).mono ?_
  rintro _ w5 ⟨v5, ps5, rfl, hps5, hown5, hb5⟩
  rw [← HR.out] at hps5 ⊢
  dsimp only at hps5 ⊢
  obtain ⟨a5, c5, rfl⟩ := hown5.len
  obtain ⟨W5, hW5⟩ : ∃ W, W = w5.alloc (.cells #[.slice a5 ps5.length c5] 25) := ⟨_, rfl⟩
  have Hps5 := Lib.hid hps5
  have HB5 := Lib.hid (show Below Wb.heap.size Wb W5 by rw [hW5]; exact ba (hb5) _)
  have hsz5 := HB5.out.size
  have hw5z : Wb.heap.size ≤ w5.heap.size := (hb5).size
  have HO5 := Lib.hid (show OwnFils W5 Wb.heap.size (.slice a5 ps5.length c5) ps5 by rw [hW5]; exact (hown5.mono (by exact Nat.le_refl _)).below (ba (Below.refl _ _) _))
  have HXT := Lib.hid (show HB W5 w5.heap.size 25 #[.slice a5 ps5.length c5] by rw [hW5]; exact HB.new _ _ _)
  have HW5 := Lib.hid hW5
  have Hbw := Lib.hid (show Below w.heap.size w W5 from HBw.out.trans (HB5.out.mono HBw.out.size))
  clear hps5 hown5 hb5 hW5
  have hX0 := HX0.out.step HB5.out
  have x0 := hX0.cell 0
  have x1 := hX0.cell 1
  have x2 := hX0.cell 2
  have t0 := HXT.out.cell 0
  clear hX0
  cases R2
  · have Hno' := Lib.hid (Hno.out (by simp))
    obtain ⟨r0, r1, r2, rf0, rf1, rf2, rl⟩ := RET.out W5 HB5.out
    rw [HW5.out] at r0 r1 r2 rf0 rf1 rf2 rl
    clear x0 x1 x2 t0
    go_wp2_with fail
    refine bodyPost_ret (v := .tuple #[.agg #[.slice none 0 0, .int .i64 0, .slice none 0 0], .bool false]) (by simp [results, Try.results11, go_sem, r0, r1, r2]) rfl (chgD_no Hno'.out ?_)
    have hbw := Hbw.out
    rw [HW5.out] at hbw
    (repeat (with_reducible first | exact Below.refl _ _ | assumption | refine ba ?_ _ | refine bd ?_ | refine bdN ?_ _ | refine bs ?_ (by first | exact Nat.le_refl _ | (dsimp only; omega) | (simp; done)) _ | refine bt ?_ (by assumption)))
  · cases hok : okDisk ⟨fs, c, ds⟩
    · have Hok := Lib.hid hok
      have Hno' := Lib.hid (Hno.out (by rw [hok]; rfl))
      clear hok t0
      rw [HW5.out] at x0 x1 x2
      go_wp2_with fail
      rw [← HW5.out]
      refine (impl_ValidDisk _ fs c _ ds (fun _ => True) _ (Hin.out.below Hbw.out) Hz.out).mono ?_
      rintro _ w6 ⟨rfl, hb6⟩
      rw [Hok.out]
      have Hb6 := Lib.hid hb6
      obtain ⟨r0, r1, r2, rf0, rf1, rf2, rl⟩ := RET.out w6 (HB5.out.trans (hb6.mono hsz5))
      clear hb6 x0 x1 x2
      go_wp2_with fail
      refine bodyPost_ret (v := .tuple #[.agg #[.slice none 0 0, .int .i64 0, .slice none 0 0], .bool false]) (by simp [results, Try.results11, go_sem, r0, r1, r2]) rfl (chgD_no Hno'.out ?_)
      have hbw := Hbw.out.trans (Hb6.out.mono Hbw.out.size)
      (repeat (with_reducible first | exact Below.refl _ _ | assumption | refine ba ?_ _ | refine bd ?_ | refine bdN ?_ _ | refine bs ?_ (by first | exact Nat.le_refl _ | (dsimp only; omega) | (simp; done)) _ | refine bt ?_ (by assumption)))
    · have Hok := Lib.hid hok
      have Hy := Lib.hid (Hyes.out hok rfl)
      obtain ⟨o1, o2, o3⟩ := okDisk_all hok
      have O1 := Lib.hid o1
      have O2 := Lib.hid o2
      clear hok o1 o2 o3
      rw [HW5.out] at x0 x1 x2 t0
      go_wp2_with fail
      rw [← HW5.out]
      refine (impl_ValidDisk _ fs c _ ds (fun _ => True) _ (Hin.out.below Hbw.out) Hz.out).mono ?_
      rintro _ w6 ⟨rfl, hb6⟩
      rw [Hok.out]
      have H56 := Lib.hid hb6
      have HB6 := Lib.hid (HB5.out.trans (hb6.mono hsz5))
      have hsz6 := HB6.out.size
      clear hb6 x0 x1 x2 t0
      obtain ⟨kk, hkk, rfl, hvp, hget⟩ := Hat.out (by simp)
      rw [hget] at Hy
      have hkp : kk < ps.length := by rw [← E1.out, List.length_map] at hkk; exact hkk
      have hfk : fs[kk] = ps[kk].1 := by simp only [← E1.out]; rw [List.getElem_map]
      have hshort : ps[kk].1.pack.length ≤ 2000000 := by rw [← hfk]; exact (Hz.out.1 _ (List.getElem_mem hkk)).1
      rw [hfk] at Hy hvp
      obtain ⟨g6, cap6, e6, hg6, hg62⟩ := H.out.1.1.form (by omega)
      simp only [Value.slice.injEq] at e6
      obtain ⟨rfl, hnn6, rfl⟩ := e6
      clear hnn6
      have Hfc := Lib.hid (fun (w' : World) (hC : Below w.heap.size w w') => (own6 (owns_below H.out.1.1 hC) kk hkp).1)
      have hgl6 : g6 < w.heap.size := (H.out.1.1.lt g6 rfl).2
      have hkI : (kk : Int) < (ps.length : Int) := by omega
      have hkJ : (0 : Int) ≤ (kk : Int) := by omega
      obtain ⟨bva, bvn, bvc, hbv⟩ : ∃ a n c, ps[kk].2 = .slice a n c := by obtain ⟨a, c, e⟩ := owns_shape (H.out.1.2.1 _ (List.getElem_mem hkp)); exact ⟨a, _, c, e⟩
      rw [hbv] at Hfc
      clear hget hfk hbv
      generalize ps[kk].1 = ff at *
      obtain ⟨gr, gp, gn, gi, gs, gb⟩ := ff
      dsimp only at Hfc Hy hvp hshort
      have Hkp := Lib.hid (fun (w' : World) (hC : Below w6.heap.size w6 w') => (⟨(HX0.out.step (HB6.out.trans (hC.mono hsz6))).cell 0, (HX0.out.step (HB6.out.trans (hC.mono hsz6))).cell 1, (HX0.out.step (HB6.out.trans (hC.mono hsz6))).cell 2, (HXT.out.step (H56.out.trans (hC.mono H56.out.size))).cell 0, (Hfc.out _ ((HBw.out.trans (HB6.out.mono HBw.out.size)).trans (hC.mono (by omega)))).1, (Hfc.out _ ((HBw.out.trans (HB6.out.mono HBw.out.size)).trans (hC.mono (by omega)))).2.1, (Hfc.out _ ((HBw.out.trans (HB6.out.mono HBw.out.size)).trans (hC.mono (by omega)))).2.2.1, (Hfc.out _ ((HBw.out.trans (HB6.out.mono HBw.out.size)).trans (hC.mono (by omega)))).2.2.2.1, (Hfc.out _ ((HBw.out.trans (HB6.out.mono HBw.out.size)).trans (hC.mono (by omega)))).2.2.2.2.1, (Hfc.out _ ((HBw.out.trans (HB6.out.mono HBw.out.size)).trans (hC.mono (by omega)))).2.2.2.2.2⟩ : w'.cell? ⟨w.heap.size, 0, none⟩ = some (.slice (some ⟨g6, 0, none⟩) ps.length ca) ∧ w'.cell? ⟨w.heap.size, 1, none⟩ = some (.int .i64 c) ∧ w'.cell? ⟨w.heap.size, 2, none⟩ = some (.slice ab qs.length cb) ∧ w'.cell? ⟨w5.heap.size, 0, none⟩ = some (.slice a5 ps5.length c5) ∧ w'.cell? ⟨g6, kk * 6, none⟩ = some (.int .i64 gr) ∧ w'.cell? ⟨g6, kk * 6 + 1, none⟩ = some (.string (mk gp)) ∧ w'.cell? ⟨g6, kk * 6 + 2, none⟩ = some (.string (mk gn)) ∧ w'.cell? ⟨g6, kk * 6 + 3, none⟩ = some (.bool gi) ∧ w'.cell? ⟨g6, kk * 6 + 4, none⟩ = some (.int .i64 gs) ∧ w'.cell? ⟨g6, kk * 6 + 5, none⟩ = some (.slice bva bvn bvc)))
      obtain ⟨x0, x1, x2, t0, y0, y1, y2, y3, y4, y5⟩ := Hkp.out _ (Below.refl _ _)
      go_wp2_with fail
      go_region_law (go_simp; go_at_call 44; refine (impl_changedDisk _ _ _ fs c k gr gs gp gn gi _ ps5 qs Wb.heap.size B _ ((HO5.out.below H56.out).below (by (repeat (with_reducible first | exact Below.refl _ _ | assumption | refine ba ?_ _ | refine bd ?_ | refine bdN ?_ _ | refine bs ?_ (by first | exact Nat.le_refl _ | (dsimp only; omega) | (simp; done)) _ | refine bt ?_ (by assumption))))) (by rw [Hps5.out]; exact Hts.out) ((H.out.2.below (HBw.out.trans (HB6.out.mono HBw.out.size))).below (by (repeat (with_reducible first | exact Below.refl _ _ | assumption | refine ba ?_ _ | refine bd ?_ | refine bdN ?_ _ | refine bs ?_ (by first | exact Nat.le_refl _ | (dsimp only; omega) | (simp; done)) _ | refine bt ?_ (by assumption))))) O1.out (by rw [E2.out]; exact O2.out) (by have := vpk_len hvp; omega)).mono ?_; rintro e w7 hch; rw [Hps5.out, E2.out, ← Hy.out] at hch; obtain ⟨v7, ps7, u7, qs7, rfl, hps7, hqs7, hf7, hd7, hb7⟩ := hch; have Hb7 := Lib.hid (show Below w6.heap.size w6 w7 by (repeat (with_reducible first | exact Below.refl _ _ | assumption | refine ba ?_ _ | refine bd ?_ | refine bdN ?_ _ | refine bs ?_ (by first | exact Nat.le_refl _ | (dsimp only; omega) | (simp; done)) _ | refine bt ?_ (by assumption)))); obtain ⟨r0, r1, r2, rf0, rf1, rf2, rl⟩ := RET.out w7 (HB6.out.trans (Hb7.out.mono hsz6)); obtain ⟨a7, c7, rfl⟩ := hf7.len; obtain ⟨b7, d7, rfl⟩ := hd7.len; have Hps7 := Lib.hid hps7; have Hqs7 := Lib.hid hqs7; have Hf7 := Lib.hid hf7; have Hd7 := Lib.hid (hd7.mono (show Wb.heap.size ≤ _ from Nat.le_trans hsz6 (show Below w6.heap.size w6 _ by (repeat (with_reducible first | exact Below.refl _ _ | assumption | refine ba ?_ _ | refine bd ?_ | refine bdN ?_ _ | refine bs ?_ (by first | exact Nat.le_refl _ | (dsimp only; omega) | (simp; done)) _ | refine bt ?_ (by assumption)))).size)); clear hps7 hqs7 hf7 hd7 hb7)
      all_goals
        generalize diskRem ⟨fs, c, ds⟩ (kk : Int) k = res at *
        clear x0 x1 x2 t0 y0 y1 y2 y3 y4 y5
        go_wp2_with fail
        refine bodyPost_ret (v := .tuple #[.agg #[.slice a7 ps7.length c7, .int .i64 res.1.clock, .slice b7 qs7.length d7], .bool res.2]) (by simp [results, Try.results11, go_sem, r0, r1, r2]) rfl ?_
        refine ⟨_, ps7, _, qs7, rfl, Hps7.out, Hqs7.out, ?_, ?_, ?_⟩
        · exact OwnFils.mono (B := Wb.heap.size) (((Hf7.out.set_low (by dsimp only; omega) _).set_low (by dsimp only; omega) _).set_low (by dsimp only; omega) _) (by omega)
        · exact OwnDirs.mono (B := Wb.heap.size) (((Hd7.out.set_low (by dsimp only; omega) _).set_low (by dsimp only; omega) _).set_low (by dsimp only; omega) _) (by omega)
        · have hbw := (HBw.out.trans (HB6.out.mono HBw.out.size)).trans (Hb7.out.mono (by omega))
          (repeat (with_reducible first | exact Below.refl _ _ | assumption | refine ba ?_ _ | refine bd ?_ | refine bdN ?_ _ | refine bs ?_ (by first | exact Nat.le_refl _ | (dsimp only; omega) | (simp; done)) _ | refine bt ?_ (by assumption)))
set_option maxRecDepth 100000 in
set_option maxHeartbeats 4000000 in
theorem spec_DiskRemove (v : Value) (fs : List Fil) (ps : List (Fil × Value)) (c : Int) (u : Value) (ds : List Dr) (qs : List (Dr × Value)) (B : Nat) (x k : Int) (w : World) (h : OwnDsk w B v ps u qs) (e1 : ps.map (·.1) = fs) (e2 : qs.map (·.1) = ds) (hz : ShortK 2000000 fs ds) (hc0 : dskCost' fs ds) :
    Calls Try.prog 12 #[.agg #[v, .int .i64 c, u], .int .i64 x, .int .i64 k] w (ChgD w.heap.size (diskRem ⟨fs, c, ds⟩ x k) w) := by
  obtain ⟨aa, ca, rfl⟩ := h.1.len
  obtain ⟨ab, cb, rfl⟩ := h.2.len
  have Hts := Lib.hid (remFil_short (i := x) hz.1)
  have H := Lib.hid h
  have E1 := Lib.hid e1
  have E2 := Lib.hid e2
  have Hz := Lib.hid hz
  have Hc0 := Lib.hid hc0
  have Hin := Lib.hid (dsk_in h e1 e2)
  clear h e1 e2 hz hc0
  obtain ⟨Wb, hWb⟩ : ∃ W, W = (w.alloc (.cells #[.slice aa ps.length ca, .int .i64 c, .slice ab qs.length cb] 28)).alloc (.cells #[.slice none 0 0, .int .i64 0, .slice none 0 0] 28) := ⟨_, rfl⟩
  have HBw := Lib.hid (show Below w.heap.size w Wb by rw [hWb]; (repeat (with_reducible first | exact Below.refl _ _ | assumption | refine ba ?_ _ | refine bd ?_ | refine bdN ?_ _ | refine bs ?_ (by first | exact Nat.le_refl _ | (dsimp only; omega) | (simp; done)) _ | refine bt ?_ (by assumption))))
  have HWs := Lib.hid (show Wb.heap.size = w.heap.size + 2 by rw [hWb]; simp)
  have HX0 := Lib.hid (show HB Wb w.heap.size 28 #[.slice aa ps.length ca, .int .i64 c, .slice ab qs.length cb] by rw [hWb]; exact (HB.new w _ _).alloc _)
  have HX2 := Lib.hid (show HB Wb (w.heap.size + 1) 28 #[.slice none 0 0, .int .i64 0, .slice none 0 0] by rw [hWb]; have h := (HB.new (w.alloc (.cells #[.slice aa ps.length ca, .int .i64 c, .slice ab qs.length cb] 28)) #[.slice none 0 0, .int .i64 0, .slice none 0 0] 28); rw [World.size_alloc] at h; exact h)
  have HWe := Lib.hid hWb
  clear hWb
  have hWbs := HWs.out
  have RET := Lib.hid (fun (w' : World) (hC : Below Wb.heap.size Wb w') => (⟨(HX2.out.step hC).cell 0, (HX2.out.step hC).cell 1, (HX2.out.step hC).cell 2, (HX2.out.step hC).frozen 0, (HX2.out.step hC).frozen 1, (HX2.out.step hC).frozen 2, (HX2.out.step hC).lt⟩ : w'.cell? ⟨w.heap.size + 1, 0, none⟩ = some (.slice none 0 0) ∧ w'.cell? ⟨w.heap.size + 1, 1, none⟩ = some (.int .i64 0) ∧ w'.cell? ⟨w.heap.size + 1, 2, none⟩ = some (.slice none 0 0) ∧ w'.frozen? ⟨w.heap.size + 1, 0, none⟩ = false ∧ w'.frozen? ⟨w.heap.size + 1, 1, none⟩ = false ∧ w'.frozen? ⟨w.heap.size + 1, 2, none⟩ = false ∧ w.heap.size + 1 < w'.heap.size))
  obtain ⟨R, hR⟩ : ∃ R, R = remFil fs x := ⟨_, rfl⟩
  have HR := Lib.hid hR
  rw [← hR] at Hts
  have Hat := Lib.hid (fun (h2 : R.2 = true) => remFil_at (t := fs) (i := x) (by rw [← hR]; exact h2))
  have Hno := Lib.hid (show (okDisk ⟨fs, c, ds⟩ && R.2) = false → diskRem ⟨fs, c, ds⟩ x k = (⟨[], 0, []⟩, false) by rw [hR]; exact diskRem_no)
  have Hyes := Lib.hid (show okDisk ⟨fs, c, ds⟩ = true → R.2 = true → diskRem ⟨fs, c, ds⟩ x k = changed ⟨fs, c, ds⟩ R.1 (fs.getD x.toNat noFil).root (fs.getD x.toNat noFil).pack k by rw [hR]; exact diskRem_yes)
  clear hR
  obtain ⟨R1, R2⟩ := R
  dsimp only at Hts Hno Hyes Hat
  go_enter Try.func12, Try.ntmps12
  cases hok : okDisk ⟨fs, c, ds⟩
  · have Hok := Lib.hid hok
    have Hno' := Lib.hid (Hno.out (by rw [hok]; rfl))
    clear hok
    go_wp2_with fail
    rw [← HWe.out]
    refine (spec_validDisk _ fs c _ ds (fun _ => True) _ (Hin.out.below HBw.out) Hz.out).mono ?_
    rintro _ w4 ⟨rfl, hb4⟩
    rw [Hok.out]
    have Hb4 := Lib.hid hb4
    obtain ⟨r0, r1, r2, rf0, rf1, rf2, rl⟩ := RET.out w4 hb4
    clear hb4
    go_wp2_with fail
    refine bodyPost_ret (v := .tuple #[.agg #[.slice none 0 0, .int .i64 0, .slice none 0 0], .bool false]) (by simp [results, Try.results12, go_sem, r0, r1, r2]) rfl (chgD_no Hno'.out ?_)
    have hbw := HBw.out.trans (Hb4.out.mono HBw.out.size)
    (repeat (with_reducible first | exact Below.refl _ _ | assumption | refine ba ?_ _ | refine bd ?_ | refine bdN ?_ _ | refine bs ?_ (by first | exact Nat.le_refl _ | (dsimp only; omega) | (simp; done)) _ | refine bt ?_ (by assumption)))
  · cases hkk : inr k 0 200
    · have Hok := Lib.hid hok
      have Hkk := Lib.hid hkk
      have Hno' := Lib.hid (show diskRem ⟨fs, c, ds⟩ x k = (⟨[], 0, []⟩, false) from diskRem_far hok hkk)
      clear hok hkk
      go_wp2_with fail
      rw [← HWe.out]
      refine (spec_validDisk _ fs c _ ds (fun _ => True) _ (Hin.out.below HBw.out) Hz.out).mono ?_
      rintro _ w4 ⟨rfl, hb4⟩
      rw [Hok.out]
      have Hb4 := Lib.hid hb4
      obtain ⟨r0, r1, r2, rf0, rf1, rf2, rl⟩ := RET.out w4 hb4
      clear hb4
      go_wp2_with ((go_at_call 46; refine (spec_inRange' _ _ _ _).mono ?_; rintro _ _ ⟨rfl, rfl⟩); rw [Hkk.out])
      refine bodyPost_ret (v := .tuple #[.agg #[.slice none 0 0, .int .i64 0, .slice none 0 0], .bool false]) (by simp [results, Try.results12, go_sem, r0, r1, r2]) rfl (chgD_no Hno'.out ?_)
      have hbw := HBw.out.trans (Hb4.out.mono HBw.out.size)
      (repeat (with_reducible first | exact Below.refl _ _ | assumption | refine ba ?_ _ | refine bd ?_ | refine bdN ?_ _ | refine bs ?_ (by first | exact Nat.le_refl _ | (dsimp only; omega) | (simp; done)) _ | refine bt ?_ (by assumption)))
    · have Hok := Lib.hid hok
      have Hkk := Lib.hid hkk
      have Hyy := Lib.hid (fun h => Hyes.out hok h)
      have Hno2 := Lib.hid (fun (h : R2 = false) => Hno.out (by rw [h]; simp))
      obtain ⟨o1, o2, o3⟩ := okDisk_all hok
      have O1 := Lib.hid o1
      have O2 := Lib.hid o2
      clear hok hkk o1 o2 o3
      go_wp2_with fail
      rw [← HWe.out]
      refine (spec_validDisk _ fs c _ ds (fun _ => True) _ (Hin.out.below HBw.out) Hz.out).mono ?_
      rintro _ w4 ⟨rfl, hb4⟩
      rw [Hok.out]
      have Hb4 := Lib.hid hb4
      have HBc := Lib.hid hb4
      have HBx := Lib.hid (HBw.out.trans (hb4.mono HBw.out.size))
      have hX0 := HX0.out.step hb4
      have x0 := hX0.cell 0
      have x1 := hX0.cell 1
      have x2 := hX0.cell 2
      clear hX0 hb4
      go_wp2_with ((go_at_call 46; refine (spec_inRange' _ _ _ _).mono ?_; rintro _ _ ⟨rfl, rfl⟩); rw [Hkk.out])
      refine (spec_RemoveFileX _ fs ps B x _ (H.out.1.below HBx.out) E1.out Hz.out.1 Hc0.out.1).mono ?_
      rintro _ w5 ⟨v5, ps5, rfl, hps5, hown5, hb5⟩
      rw [← HR.out] at hps5 ⊢
      dsimp only at hps5 ⊢
      obtain ⟨a5, c5, rfl⟩ := hown5.len
      obtain ⟨W5, hW5⟩ : ∃ W, W = w5.alloc (.cells #[.slice a5 ps5.length c5] 25) := ⟨_, rfl⟩
      have Hps5 := Lib.hid hps5
      have HB5 := Lib.hid (show Below Wb.heap.size Wb W5 by rw [hW5]; exact ba (HBc.out.trans (hb5.mono HBc.out.size)) _)
      have hsz5 := HB5.out.size
      have hw5z : Wb.heap.size ≤ w5.heap.size := (HBc.out.trans (hb5.mono HBc.out.size)).size
      have HO5 := Lib.hid (show OwnFils W5 Wb.heap.size (.slice a5 ps5.length c5) ps5 by rw [hW5]; exact (hown5.mono (by exact HBc.out.size)).below (ba (Below.refl _ _) _))
      have HXT := Lib.hid (show HB W5 w5.heap.size 25 #[.slice a5 ps5.length c5] by rw [hW5]; exact HB.new _ _ _)
      have HW5 := Lib.hid hW5
      have Hbw := Lib.hid (show Below w.heap.size w W5 from HBw.out.trans (HB5.out.mono HBw.out.size))
      clear hps5 hown5 hb5 hW5
      clear x0 x1 x2
      have hX0 := HX0.out.step HB5.out
      have x0 := hX0.cell 0
      have x1 := hX0.cell 1
      have x2 := hX0.cell 2
      have t0 := HXT.out.cell 0
      clear hX0
      cases R2
      · have Hno' := Lib.hid (Hno2.out rfl)
        obtain ⟨r0, r1, r2, rf0, rf1, rf2, rl⟩ := RET.out W5 HB5.out
        rw [HW5.out] at r0 r1 r2 rf0 rf1 rf2 rl
        clear x0 x1 x2 t0
        go_wp2_with fail
        refine bodyPost_ret (v := .tuple #[.agg #[.slice none 0 0, .int .i64 0, .slice none 0 0], .bool false]) (by simp [results, Try.results12, go_sem, r0, r1, r2]) rfl (chgD_no Hno'.out ?_)
        have hbw := Hbw.out
        rw [HW5.out] at hbw
        (repeat (with_reducible first | exact Below.refl _ _ | assumption | refine ba ?_ _ | refine bd ?_ | refine bdN ?_ _ | refine bs ?_ (by first | exact Nat.le_refl _ | (dsimp only; omega) | (simp; done)) _ | refine bt ?_ (by assumption)))
      · have Hy := Lib.hid (Hyy.out rfl)
        have H56 := Lib.hid (Below.refl W5.heap.size W5)
        have HB6 := HB5
        have hsz6 := HB6.out.size
        clear x0 x1 x2 t0
        obtain ⟨kk, hkk, rfl, hvp, hget⟩ := Hat.out (by simp)
        rw [hget] at Hy
        have hkp : kk < ps.length := by rw [← E1.out, List.length_map] at hkk; exact hkk
        have hfk : fs[kk] = ps[kk].1 := by simp only [← E1.out]; rw [List.getElem_map]
        have hshort : ps[kk].1.pack.length ≤ 2000000 := by rw [← hfk]; exact (Hz.out.1 _ (List.getElem_mem hkk)).1
        rw [hfk] at Hy hvp
        obtain ⟨g6, cap6, e6, hg6, hg62⟩ := H.out.1.1.form (by omega)
        simp only [Value.slice.injEq] at e6
        obtain ⟨rfl, hnn6, rfl⟩ := e6
        clear hnn6
        have Hfc := Lib.hid (fun (w' : World) (hC : Below w.heap.size w w') => (own6 (owns_below H.out.1.1 hC) kk hkp).1)
        have hgl6 : g6 < w.heap.size := (H.out.1.1.lt g6 rfl).2
        have hkI : (kk : Int) < (ps.length : Int) := by omega
        have hkJ : (0 : Int) ≤ (kk : Int) := by omega
        obtain ⟨bva, bvn, bvc, hbv⟩ : ∃ a n c, ps[kk].2 = .slice a n c := by obtain ⟨a, c, e⟩ := owns_shape (H.out.1.2.1 _ (List.getElem_mem hkp)); exact ⟨a, _, c, e⟩
        rw [hbv] at Hfc
        clear hget hfk hbv
        generalize ps[kk].1 = ff at *
        obtain ⟨gr, gp, gn, gi, gs, gb⟩ := ff
        dsimp only at Hfc Hy hvp hshort
        have Hkp := Lib.hid (fun (w' : World) (hC : Below W5.heap.size W5 w') => (⟨(HX0.out.step (HB6.out.trans (hC.mono hsz6))).cell 0, (HX0.out.step (HB6.out.trans (hC.mono hsz6))).cell 1, (HX0.out.step (HB6.out.trans (hC.mono hsz6))).cell 2, (HXT.out.step (H56.out.trans (hC.mono H56.out.size))).cell 0, (Hfc.out _ ((HBw.out.trans (HB6.out.mono HBw.out.size)).trans (hC.mono (by omega)))).1, (Hfc.out _ ((HBw.out.trans (HB6.out.mono HBw.out.size)).trans (hC.mono (by omega)))).2.1⟩ : w'.cell? ⟨w.heap.size, 0, none⟩ = some (.slice (some ⟨g6, 0, none⟩) ps.length ca) ∧ w'.cell? ⟨w.heap.size, 1, none⟩ = some (.int .i64 c) ∧ w'.cell? ⟨w.heap.size, 2, none⟩ = some (.slice ab qs.length cb) ∧ w'.cell? ⟨w5.heap.size, 0, none⟩ = some (.slice a5 ps5.length c5) ∧ w'.cell? ⟨g6, kk * 6, none⟩ = some (.int .i64 gr) ∧ w'.cell? ⟨g6, kk * 6 + 1, none⟩ = some (.string (mk gp))))
        obtain ⟨x0, x1, x2, t0, y0, y1⟩ := Hkp.out _ (Below.refl _ _)
        rw [HW5.out] at x0 x1 x2 t0 y0 y1
        go_wp2_with fail
        have HK0 := Lib.hid (Hkp.out W5 (Below.refl _ _))
        have HK1 := Lib.hid (Hkp.out W5.drew (bd (Below.refl _ _)))
        have HK2 := Lib.hid (Hkp.out W5 (Below.refl _ _))
        have HK3 := Lib.hid (Hkp.out W5.drew (bd (Below.refl _ _)))
        rw [HW5.out] at HK2 HK3
        go_region_held3 (fun w' => w'.cell? ⟨w.heap.size, 0, none⟩ = some (.slice (some ⟨g6, 0, none⟩) ps.length ca) ∧ w'.cell? ⟨w.heap.size, 1, none⟩ = some (.int .i64 c) ∧ w'.cell? ⟨w.heap.size, 2, none⟩ = some (.slice ab qs.length cb) ∧ w'.cell? ⟨w5.heap.size, 0, none⟩ = some (.slice a5 ps5.length c5) ∧ w'.cell? ⟨g6, kk * 6, none⟩ = some (.int .i64 gr) ∧ w'.cell? ⟨g6, kk * 6 + 1, none⟩ = some (.string (mk gp)))
          (first | exact HK2.out | exact HK3.out | exact HK0.out | exact HK1.out | exact HK7.out | exact HS7.out _ _ _)
          (first | (go_at_call 48; rw [← HW5.out]; refine (spec_changed _ _ _ fs c k gr gp ps5 qs Wb.heap.size B _ ((HO5.out.below H56.out).below (by (repeat (with_reducible first | exact Below.refl _ _ | assumption | refine ba ?_ _ | refine bd ?_ | refine bdN ?_ _ | refine bs ?_ (by first | exact Nat.le_refl _ | (dsimp only; omega) | (simp; done)) _ | refine bt ?_ (by assumption))))) (by rw [Hps5.out]; exact Hts.out) ((H.out.2.below (HBw.out.trans (HB6.out.mono HBw.out.size))).below (by (repeat (with_reducible first | exact Below.refl _ _ | assumption | refine ba ?_ _ | refine bd ?_ | refine bdN ?_ _ | refine bs ?_ (by first | exact Nat.le_refl _ | (dsimp only; omega) | (simp; done)) _ | refine bt ?_ (by assumption))))) O1.out (by rw [E2.out]; exact O2.out) Hkk.out hvp).mono ?_; rintro e w7 hch; rw [Hps5.out, E2.out, ← Hy.out] at hch; obtain ⟨v7, ps7, u7, qs7, rfl, hps7, hqs7, hf7, hd7, hb7⟩ := hch; have Hb7 := Lib.hid (show Below W5.heap.size W5 w7 by (repeat (with_reducible first | exact Below.refl _ _ | assumption | refine ba ?_ _ | refine bd ?_ | refine bdN ?_ _ | refine bs ?_ (by first | exact Nat.le_refl _ | (dsimp only; omega) | (simp; done)) _ | refine bt ?_ (by assumption)))); obtain ⟨r0, r1, r2, rf0, rf1, rf2, rl⟩ := RET.out w7 (HB6.out.trans (Hb7.out.mono hsz6)); obtain ⟨a7, c7, rfl⟩ := hf7.len; obtain ⟨b7, d7, rfl⟩ := hd7.len; have Hps7 := Lib.hid hps7; have Hqs7 := Lib.hid hqs7; have Hf7 := Lib.hid hf7; have Hd7 := Lib.hid (hd7.mono (show Wb.heap.size ≤ _ from Nat.le_trans hsz6 (show Below W5.heap.size W5 _ by (repeat (with_reducible first | exact Below.refl _ _ | assumption | refine ba ?_ _ | refine bd ?_ | refine bdN ?_ _ | refine bs ?_ (by first | exact Nat.le_refl _ | (dsimp only; omega) | (simp; done)) _ | refine bt ?_ (by assumption)))).size)); have HK7 := Lib.hid (Hkp.out w7 Hb7.out); have HS7 := Lib.hid (fun (sa sb sc : Value) => (⟨cells_kept3 HK7.out.1 (by dsimp only; omega), cells_kept3 HK7.out.2.1 (by dsimp only; omega), cells_kept3 HK7.out.2.2.1 (by dsimp only; omega), cells_kept3 HK7.out.2.2.2.1 (by dsimp only; omega), cells_kept3 HK7.out.2.2.2.2.1 (by dsimp only; omega), cells_kept3 HK7.out.2.2.2.2.2 (by dsimp only; omega)⟩ : (((w7.setCell ⟨w.heap.size + 1, 0, none⟩ sa).setCell ⟨w.heap.size + 1, 1, none⟩ sb).setCell ⟨w.heap.size + 1, 2, none⟩ sc).cell? ⟨w.heap.size, 0, none⟩ = some (.slice (some ⟨g6, 0, none⟩) ps.length ca) ∧ (((w7.setCell ⟨w.heap.size + 1, 0, none⟩ sa).setCell ⟨w.heap.size + 1, 1, none⟩ sb).setCell ⟨w.heap.size + 1, 2, none⟩ sc).cell? ⟨w.heap.size, 1, none⟩ = some (.int .i64 c) ∧ (((w7.setCell ⟨w.heap.size + 1, 0, none⟩ sa).setCell ⟨w.heap.size + 1, 1, none⟩ sb).setCell ⟨w.heap.size + 1, 2, none⟩ sc).cell? ⟨w.heap.size, 2, none⟩ = some (.slice ab qs.length cb) ∧ (((w7.setCell ⟨w.heap.size + 1, 0, none⟩ sa).setCell ⟨w.heap.size + 1, 1, none⟩ sb).setCell ⟨w.heap.size + 1, 2, none⟩ sc).cell? ⟨w5.heap.size, 0, none⟩ = some (.slice a5 ps5.length c5) ∧ (((w7.setCell ⟨w.heap.size + 1, 0, none⟩ sa).setCell ⟨w.heap.size + 1, 1, none⟩ sb).setCell ⟨w.heap.size + 1, 2, none⟩ sc).cell? ⟨g6, kk * 6, none⟩ = some (.int .i64 gr) ∧ (((w7.setCell ⟨w.heap.size + 1, 0, none⟩ sa).setCell ⟨w.heap.size + 1, 1, none⟩ sb).setCell ⟨w.heap.size + 1, 2, none⟩ sc).cell? ⟨g6, kk * 6 + 1, none⟩ = some (.string (mk gp)))); clear hps7 hqs7 hf7 hd7 hb7))
        all_goals
          generalize diskRem ⟨fs, c, ds⟩ (kk : Int) k = res at *
          clear x0 x1 x2 t0 y0 y1
          go_wp2_with fail
          refine bodyPost_ret (v := .tuple #[.agg #[.slice a7 ps7.length c7, .int .i64 res.1.clock, .slice b7 qs7.length d7], .bool res.2]) (by simp [results, Try.results12, go_sem, r0, r1, r2]) rfl ?_
          refine ⟨_, ps7, _, qs7, rfl, Hps7.out, Hqs7.out, ?_, ?_, ?_⟩
          · exact OwnFils.mono (B := Wb.heap.size) (((Hf7.out.set_low (by dsimp only; omega) _).set_low (by dsimp only; omega) _).set_low (by dsimp only; omega) _) (by omega)
          · exact OwnDirs.mono (B := Wb.heap.size) (((Hd7.out.set_low (by dsimp only; omega) _).set_low (by dsimp only; omega) _).set_low (by dsimp only; omega) _) (by omega)
          · have hbw := (HBw.out.trans (HB6.out.mono HBw.out.size)).trans (Hb7.out.mono (by omega))
            (repeat (with_reducible first | exact Below.refl _ _ | assumption | refine ba ?_ _ | refine bd ?_ | refine bdN ?_ _ | refine bs ?_ (by first | exact Nat.le_refl _ | (dsimp only; omega) | (simp; done)) _ | refine bt ?_ (by assumption)))
end Go.Proofs.Ytgecemngfpgcoaa
