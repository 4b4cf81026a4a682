/- Contracts of the program's functions that say which files have another body in a store. -/
import Derived.Test.YtomdmkhgkaalnaaUsable
import Derived.Test.YtomdmkhgkaalnaaEqBody
import Derived.Test.YtomdmkhgkaalnaaInts
import Derived.Test.YtomdmkhgkaalnaaTrees
import Derived.Test.YtomdmkhgkaalnaaHasF
import Derived.WalkSpells
set_option linter.unusedVariables false
set_option linter.unusedSimpArgs false
namespace Go.Proofs.Ytomdmkhgkaalnaa
open Go.RowKit Go.Proofs.Ytomdmkhgkaalnaa.Nm
open Go.Sort (grow)

theorem wrong_no {T : TypeId} {xs : List Int} {w w' : World} (h : xs = []) (hb : Below w.heap.size w w') : NewInts T xs w (.returned (.slice none 0 0)) w' := by
  subst h; exact ⟨_, rfl, World.ownsRow_nil _ _ _ _, hb⟩
theorem wrong_first {w wr W w7 : World} {cs : Array Value} {T : TypeId} {row : Option Nat} (h : Boxed w cs T wr) (hb : Below wr.heap.size wr W) (hg : W.grownBy w7 row) (hr : ∀ g, row = some g → w.heap.size + 1 ≤ g) : Boxed w cs T w7 :=
  (h.step hb).grown hg (h.step hb).size (fun g e => by simpa using hr g e)
theorem wrong_one {w : World} {x : Value} {t : TypeId} {b : Nat} (hb : b = w.heap.size) : ∀ j u, [x][j]? = some u → (w.alloc (.cells #[x] t)).cell? ((⟨b, 0, none⟩ : Addr).add j) = some u := by
  subst hb
  intro j u h
  cases j with
  | zero => simp at h; subst h; simp [go_sem, Addr.add]
  | succ n => simp at h
/-- What a store has of a file, if it can be used. -/
def usAt (cs : List Cmp) (f : Fil) : Int :=
  match cs[(keyAt cplace cs (fplace f)).toNat]? with
  | some c => if 0 ≤ keyAt cplace cs (fplace f) ∧ isUsable c f = true then keyAt cplace cs (fplace f) else -1
  | none => -1
theorem usAt_none {cs : List Cmp} {f : Fil} (h : keyAt cplace cs (fplace f) = -1) : usAt cs f = -1 := by
  unfold usAt; rw [h]; split <;> simp
theorem usAt_bad {cs : List Cmp} {f : Fil} {k : Nat} (hk : k < cs.length) (h : keyAt cplace cs (fplace f) = (k : Int)) (hu : isUsable cs[k] f = false) : usAt cs f = -1 := by
  unfold usAt; rw [h]; simp [hk, hu]
theorem usAt_good {cs : List Cmp} {f : Fil} {k : Nat} (hk : k < cs.length) (h : keyAt cplace cs (fplace f) = (k : Int)) (hu : isUsable cs[k] f = true) : usAt cs f = (k : Int) := by
  unfold usAt; rw [h]; simp [hk, hu]
theorem sourceOf_file {cs : List Cmp} {f : Fil} (hv : ∀ c ∈ cs, vn c.module = true) (hf : okFil f = true) : keyAt sourceOf cs (place f) = keyAt cplace cs (fplace f) := by
  have h2 := (srcPlace_fil hf).1
  rw [← h2]
  exact keyAt_map (key := cplace) (f := srcPlace) (fun x hx => by rw [h2]; exact srcPlace_is (hv x hx) hf)
/-- Whether a file has another body in a store. -/
def isWrong (cs : List Cmp) (f : Fil) : Bool :=
  match cs[(usAt cs f).toNat]? with
  | some c => decide (0 ≤ usAt cs f) && !decide (c.body = f.body)
  | none => false
def wrongGo (cs : List Cmp) : List Fil → Int → List Int
  | [], _ => []
  | f :: r, i => (if isWrong cs f then [i] else []) ++ wrongGo cs r (i + 1)
def wrongs (cs : List Cmp) (t : List Fil) : List Int := if okStore cs && okTree t then wrongGo cs t 0 else []
theorem wrongGo_app (cs : List Cmp) (a b : List Fil) (i : Int) : wrongGo cs (a ++ b) i = wrongGo cs a i ++ wrongGo cs b (i + a.length) := by
  induction a generalizing i with
  | nil => simp [wrongGo]
  | cons x r ih => simp only [List.cons_append, wrongGo, ih, List.append_assoc, List.length_cons]; congr 3; omega
theorem wrongGo_len (cs : List Cmp) : ∀ (l : List Fil) (i : Int), (wrongGo cs l i).length ≤ l.length
  | [], _ => by simp [wrongGo]
  | x :: r, i => by
    have := wrongGo_len cs r (i + 1)
    unfold wrongGo; split <;> simp <;> omega
theorem wrongGo_snoc (cs : List Cmp) (l : List Fil) (k : Nat) (h : k < l.length) : wrongGo cs (l.take (k + 1)) 0 = wrongGo cs (l.take k) 0 ++ (if isWrong cs l[k] then [(k : Int)] else []) := by
  rw [List.take_succ_eq_append_getElem h, wrongGo_app]
  have e : (l.take k).length = k := by rw [List.length_take]; omega
  rw [e]
  simp [wrongGo]
theorem okTree_inW {t : List Fil} (h : okTree t = true) {f : Fil} (hf : f ∈ t) : okFil f = true := List.all_eq_true.1 (okTree_all h).1 f hf
theorem wrongs_at {cs : List Cmp} {t : List Fil} (h1 : okStore cs = true) (h2 : okTree t = true) : wrongs cs t = wrongGo cs (t.take t.length) 0 := by
  unfold wrongs; rw [h1, h2, List.take_length]; rfl
theorem wrongs_none {cs : List Cmp} {t : List Fil} (h : (okStore cs && okTree t) = false) : wrongs cs t = [] := by unfold wrongs; rw [h]; rfl
theorem wrongs_len (cs : List Cmp) (t : List Fil) : (wrongs cs t).length ≤ 12 := by
  unfold wrongs
  split
  · rename_i h
    simp only [Bool.and_eq_true] at h
    exact Nat.le_trans (wrongGo_len _ _ _) (okTree_all h.2).2.2
  · simp
theorem isWrong_none {cs : List Cmp} {f : Fil} (h : usAt cs f = -1) : isWrong cs f = false := by
  unfold isWrong; rw [h]; split <;> simp
theorem isWrong_at {cs : List Cmp} {f : Fil} {k : Nat} (hk : k < cs.length) (h : usAt cs f = (k : Int)) : isWrong cs f = !decide (cs[k].body = f.body) := by
  unfold isWrong; rw [h]; simp [hk]
theorem usAt_range (cs : List Cmp) (f : Fil) : usAt cs f = -1 ∨ ∃ k, k < cs.length ∧ usAt cs f = (k : Int) := by
  rcases keyAt_is (key := cplace) cs (fplace f) with ⟨h1, _⟩ | ⟨k, hk, h1, _⟩
  · exact .inl (usAt_none h1)
  · cases hu : isUsable cs[k] f
    · exact .inl (usAt_bad hk h1 hu)
    · exact .inr ⟨k, hk, usAt_good hk h1 hu⟩

set_option maxRecDepth 100000 in
set_option maxHeartbeats 4000000 in
theorem impl_usableAt (a : Option Addr) (n cap : Nat) (cs : List Cmp) (D : Nat → Prop) (r st : Int) (p nm : Bs) (i : Bool) (bv : Value) (body : List Stm) (B : Nat) (w : World) (hr : CmpsIn w D (.slice a n cap) cs) (hz : ShortCs 1048576 cs) (hf : w.ownsRow B 124 5 bv body.length (body.flatMap stmCells)) (hzf : ShortF 1048576 ⟨r, p, nm, i, st, body⟩) (hl : body.length ≤ 1048576)
    (hs : okStore cs = true) (hok : okFil ⟨r, p, nm, i, st, body⟩ = true) :
    Calls Try.prog 101 #[.slice a n cap, .agg #[.int .i64 r, .string (mk p), .string (mk nm), .bool i, .int .i64 st, bv]] w fun e w' => e = .returned (.int .i64 (usAt cs ⟨r, p, nm, i, st, body⟩)) ∧ Below w.heap.size w w' := by
  have Hr := Lib.hid hr
  have Hz := Lib.hid hz
  have Hz8 := Lib.hid (shortCs_mono (B := 8000000) (by omega) hz)
  have Hf := Lib.hid hf
  have Hzf := Lib.hid hzf
  have Hkey := Lib.hid (sourceOf_file (fun c hc => okCmp_vn ((okStore_facts hs).1 c hc)) hok)
  obtain ⟨aa, ca, e, hlc, hm⟩ := hr.len
  simp only [Value.slice.injEq] at e
  obtain ⟨rfl, rfl, rfl⟩ := e
  obtain ⟨ab, cb, rfl⟩ := owns_shape hf
  clear hr hz hf hzf hs hok hm hlc
  have HB0 := Lib.hid (BoxC.start w #[.int .i64 r, .string (mk p), .string (mk nm), .bool i, .int .i64 st, .slice ab body.length cb] 55)
  have hpl : plVal (r, p, nm, i) = .agg #[.int .i64 r, .string (mk p), .string (mk nm), .bool i] := rfl
  have hcall : ∀ (W : World), Below (w.alloc (.cells #[.int .i64 r, .string (mk p), .string (mk nm), .bool i, .int .i64 st, .slice ab body.length cb] 55)).heap.size (w.alloc (.cells #[.int .i64 r, .string (mk p), .string (mk nm), .bool i, .int .i64 st, .slice ab body.length cb] 55)) W → Calls Try.prog 83 #[.slice a cs.length cap, plVal (r, p, nm, i)] W fun e w'' => e = .returned (.int .i64 (keyAt cplace cs (fplace ⟨r, p, nm, i, st, body⟩))) ∧ Below W.heap.size W w'' := fun W hW => by
    have h := impl_compiledAt _ cs D _ (place ⟨r, p, nm, i, st, body⟩) W rfl (Hr.out.below (bt (by (repeat (with_reducible first | exact Below.refl _ _ | assumption | refine ba ?_ _ | refine bd ?_ | refine bdN ?_ _ | refine bs ?_ (by first | exact Nat.le_refl _ | (dsimp only; omega) | (simp; done)) _ | refine bt ?_ (by assumption)))) hW)) Hz8.out
    rw [Hkey.out] at h
    exact h
  have Hcall := Lib.hid hcall
  clear hcall hpl
  have hrg := keyAt_is (key := cplace) cs (fplace ⟨r, p, nm, i, st, body⟩)
  have Hno := Lib.hid (usAt_none (cs := cs) (f := ⟨r, p, nm, i, st, body⟩))
  have Hbad := Lib.hid (fun k hk => usAt_bad (cs := cs) (f := ⟨r, p, nm, i, st, body⟩) (k := k) hk)
  have Hgood := Lib.hid (fun k hk => usAt_good (cs := cs) (f := ⟨r, p, nm, i, st, body⟩) (k := k) hk)
  obtain ⟨kk, hkk⟩ : ∃ kk, kk = keyAt cplace cs (fplace ⟨r, p, nm, i, st, body⟩) := ⟨_, rfl⟩
  rw [← hkk] at hrg Hno Hcall
  have Hbad2 := Lib.hid (fun (k : Nat) (hk : k < cs.length) (e : kk = (k : Int)) (hu : isUsable cs[k] ⟨r, p, nm, i, st, body⟩ = false) => Hbad.out k hk (hkk ▸ e) hu)
  have Hgood2 := Lib.hid (fun (k : Nat) (hk : k < cs.length) (e : kk = (k : Int)) (hu : isUsable cs[k] ⟨r, p, nm, i, st, body⟩ = true) => Hgood.out k hk (hkk ▸ e) hu)
  clear hkk Hbad Hgood
  obtain ⟨ans, hans⟩ : ∃ x, x = usAt cs ⟨r, p, nm, i, st, body⟩ := ⟨_, rfl⟩
  rw [← hans]
  have Hans := Lib.hid hans
  clear hans
  rcases hrg with ⟨rfl, _⟩ | ⟨k, hk, rfl, _, _⟩
  · have Hv := Lib.hid (show ans = -1 by rw [Hans.out]; exact Hno.out rfl)
    go_enter Try.func101, Try.ntmps101
    go_wp2_with (first
      | (go_at_call 91; refine (impl_placeOf _ _ _ _ _ _ _).mono ?_; rintro _ w5 ⟨rfl, hb5⟩)
      | (go_at_call 83; refine (Hcall.out _ (by (repeat (with_reducible first | exact Below.refl _ _ | assumption | refine ba ?_ _ | refine bd ?_ | refine bdN ?_ _ | refine bs ?_ (by first | exact Nat.le_refl _ | (dsimp only; omega) | (simp; done)) _ | refine bt ?_ (by assumption))))).mono ?_; rintro _ w6 ⟨rfl, hb6⟩; have hx := HB0.out.below (show Below _ _ w6 by (repeat (with_reducible first | exact Below.refl _ _ | assumption | refine ba ?_ _ | refine bd ?_ | refine bdN ?_ _ | refine bs ?_ (by first | exact Nat.le_refl _ | (dsimp only; omega) | (simp; done)) _ | refine bt ?_ (by assumption)))); have x0 : w6.cell? ⟨w.heap.size, 0, none⟩ = some (.int .i64 r) := hx.2 0))
    have Hb6 := Lib.hid (show Below (w.alloc (.cells #[.int .i64 r, .string (mk p), .string (mk nm), .bool i, .int .i64 st, .slice ab body.length cb] 55)).heap.size (w.alloc (.cells #[.int .i64 r, .string (mk p), .string (mk nm), .bool i, .int .i64 st, .slice ab body.length cb] 55)) w6 by (repeat (with_reducible first | exact Below.refl _ _ | assumption | refine ba ?_ _ | refine bd ?_ | refine bdN ?_ _ | refine bs ?_ (by first | exact Nat.le_refl _ | (dsimp only; omega) | (simp; done)) _ | refine bt ?_ (by assumption))))
    have H06 := Lib.hid (bt (show Below w.heap.size w (w.alloc (.cells #[.int .i64 r, .string (mk p), .string (mk nm), .bool i, .int .i64 st, .slice ab body.length cb] 55)) by (repeat (with_reducible first | exact Below.refl _ _ | assumption | refine ba ?_ _ | refine bd ?_ | refine bdN ?_ _ | refine bs ?_ (by first | exact Nat.le_refl _ | (dsimp only; omega) | (simp; done)) _ | refine bt ?_ (by assumption)))) Hb6.out)
    clear hb5 hb6
    have X6 := Lib.hid (HB0.out.below Hb6.out)
    clear x0 hx
    refine wp_region_quiet_below (by kernel_rfl) (by kernel_rfl) ?_
    repeat (go_big_quiet_step (fail))
    refine wpQuiet_nil ?_
    intro _ hw'
    obtain ⟨⟨dq, osq⟩, hw2⟩ := hw'
    subst hw2
    have Hb7 := Lib.hid (bt H06.out (below_regrown w6 dq osq))
    go_wp2_with fail
    go_ret
    rw [Hv.out]
    exact ⟨rfl, Hb7.out⟩
  · obtain ⟨b, off, cap', cv, e, hD, hb, hcb, c0, c1, c2, c3, c4, c5, c6, c7⟩ := Hr.out.at_ hk
    simp only [Value.slice.injEq] at e
    obtain ⟨rfl, _, rfl⟩ := e
    have hzc := Hz.out _ (List.getElem_mem hk)
    obtain ⟨c, hc⟩ : ∃ c, c = cs[k] := ⟨_, rfl⟩
    have hk1 : (k : Int) < (cs.length : Int) := by omega
    have hk0 : (0 : Int) ≤ (k : Int) := by omega
    have hkn : ((k : Int) == -1) = false := by rw [beq_eq_false_iff_ne]; omega
    have hkm : ((k : Int) = -1) = False := eq_false (by omega)
    obtain ⟨us, hus⟩ : ∃ u, u = isUsable cs[k] ⟨r, p, nm, i, st, body⟩ := ⟨_, rfl⟩
    have Hv := Lib.hid (show ans = if us then (k : Int) else -1 by
      rw [Hans.out]
      cases us
      · exact Hbad2.out k hk rfl hus.symm
      · exact Hgood2.out k hk rfl hus.symm)
    rw [← hc] at c0 c1 c2 c3 c4 c5 c6 hcb hzc hus
    clear hc Hbad2 Hgood2 Hno
    obtain ⟨x0, x1, x2, x3, x4, x5, x6, cb'⟩ := c
    dsimp only at c0 c1 c2 c3 c4 c5 c6 hcb
    have Hus := Lib.hid hus
    have Hcb := Lib.hid hcb
    have Hzc := Lib.hid hzc
    obtain ⟨cva, cvc, rfl, _, _⟩ := hcb.len
    clear hus hcb hzc
    go_enter Try.func101, Try.ntmps101
    go_wp2_with (first
      | (go_at_call 91; refine (impl_placeOf _ _ _ _ _ _ _).mono ?_; rintro _ w5 ⟨rfl, hb5⟩)
      | (go_at_call 83; refine (Hcall.out _ (by (repeat (with_reducible first | exact Below.refl _ _ | assumption | refine ba ?_ _ | refine bd ?_ | refine bdN ?_ _ | refine bs ?_ (by first | exact Nat.le_refl _ | (dsimp only; omega) | (simp; done)) _ | refine bt ?_ (by assumption))))).mono ?_; rintro _ w6 ⟨rfl, hb6⟩))
    have Hb6 := Lib.hid (show Below (w.alloc (.cells #[.int .i64 r, .string (mk p), .string (mk nm), .bool i, .int .i64 st, .slice ab body.length cb] 55)).heap.size (w.alloc (.cells #[.int .i64 r, .string (mk p), .string (mk nm), .bool i, .int .i64 st, .slice ab body.length cb] 55)) w6 by (repeat (with_reducible first | exact Below.refl _ _ | assumption | refine ba ?_ _ | refine bd ?_ | refine bdN ?_ _ | refine bs ?_ (by first | exact Nat.le_refl _ | (dsimp only; omega) | (simp; done)) _ | refine bt ?_ (by assumption))))
    have H06 := Lib.hid (bt (show Below w.heap.size w (w.alloc (.cells #[.int .i64 r, .string (mk p), .string (mk nm), .bool i, .int .i64 st, .slice ab body.length cb] 55)) by (repeat (with_reducible first | exact Below.refl _ _ | assumption | refine ba ?_ _ | refine bd ?_ | refine bdN ?_ _ | refine bs ?_ (by first | exact Nat.le_refl _ | (dsimp only; omega) | (simp; done)) _ | refine bt ?_ (by assumption)))) Hb6.out)
    clear hb5 hb6
    have X6 := Lib.hid (HB0.out.below Hb6.out)
    have j0 := cell_regrown (show w6.cell? ⟨w.heap.size, 0, none⟩ = some (.int .i64 r) from X6.out.2 0)
    have j1 := cell_regrown (show w6.cell? ⟨w.heap.size, 1, none⟩ = some (.string (mk p)) from X6.out.2 1)
    have j2 := cell_regrown (show w6.cell? ⟨w.heap.size, 2, none⟩ = some (.string (mk nm)) from X6.out.2 2)
    have j3 := cell_regrown (show w6.cell? ⟨w.heap.size, 3, none⟩ = some (.bool i) from X6.out.2 3)
    have j4 := cell_regrown (show w6.cell? ⟨w.heap.size, 4, none⟩ = some (.int .i64 st) from X6.out.2 4)
    have j5 := cell_regrown (show w6.cell? ⟨w.heap.size, 5, none⟩ = some (.slice ab body.length cb) from X6.out.2 5)
    have k0 := cell_regrown ((H06.out.cell (p := ⟨b, off + k * 8, none⟩) hb).trans c0)
    have k1 := cell_regrown ((H06.out.cell (p := ⟨b, off + k * 8 + 1, none⟩) hb).trans c1)
    have k2 := cell_regrown ((H06.out.cell (p := ⟨b, off + k * 8 + 2, none⟩) hb).trans c2)
    have k3 := cell_regrown ((H06.out.cell (p := ⟨b, off + k * 8 + 3, none⟩) hb).trans c3)
    have k4 := cell_regrown ((H06.out.cell (p := ⟨b, off + k * 8 + 4, none⟩) hb).trans c4)
    have k5 := cell_regrown ((H06.out.cell (p := ⟨b, off + k * 8 + 5, none⟩) hb).trans c5)
    have k6 := cell_regrown ((H06.out.cell (p := ⟨b, off + k * 8 + 6, none⟩) hb).trans c6)
    have k7 := cell_regrown ((H06.out.cell (p := ⟨b, off + k * 8 + 7, none⟩) hb).trans c7)
    have cU : ∀ d os, Calls Try.prog 34 #[.agg #[.int .i64 x0, .string (mk x1), .bool x2, .int .i64 x3, .int .i64 x4, .int .i64 x5, .int .i64 x6, .slice cva cb'.length cvc], .agg #[.int .i64 r, .string (mk p), .string (mk nm), .bool i, .int .i64 st, .slice ab body.length cb]] (grow (redrawn w6 d) os) fun e w'' => e = .returned (.bool us) ∧ ∃ p : Regrown, w'' = grow (redrawn w6 p.d) p.os := fun d os =>
      Calls.regrown_of (by rw [Hus.out]; exact impl_IsUsable x0 x1 x2 x3 x4 x5 x6 _ cb' r st p nm i _ body D B _ (Hcb.out.below (bt H06.out (below_regrown w6 d os))) (owns_below Hf.out (bt H06.out (below_regrown w6 d os))) Hzc.out Hzf.out hl)
    clear c0 c1 c2 c3 c4 c5 c6 c7
    cases us
    all_goals
      refine wp_region_quiet_below (by kernel_rfl) (by kernel_rfl) ?_
      repeat (go_big_quiet_step (exact cU _ _))
      refine wpQuiet_nil ?_
      intro _ hw'
      obtain ⟨⟨dq, osq⟩, hw2⟩ := hw'
      subst hw2
      have Hb7 := Lib.hid (bt H06.out (below_regrown w6 dq osq))
      clear cU j0 j1 j2 j3 j4 j5 k0 k1 k2 k3 k4 k5 k6 k7
      go_wp2_with fail
      go_ret
      rw [Hv.out]
      exact ⟨rfl, Hb7.out⟩

/-! ### The contract of the program's WrongFiles. -/
set_option maxRecDepth 100000 in
set_option maxHeartbeats 4000000 in
theorem impl_WrongFiles (lv : Value) (cs : List Cmp) (D : Nat → Prop) (v : Value) (fs : List Fil) (ps : List (Fil × Value)) (B : Nat) (w : World) (hr : CmpsIn w D lv cs) (hz : ShortCs 1048576 cs) (h : RowsFB w B v ps) (hps : ps.map (·.1) = fs) (hfz : ShortT 1048576 fs) (hfl : filsCost' fs) :
    Calls Try.prog 47 #[lv, .agg #[v]] w (NewInts 3 (wrongs cs fs) w) := by
  subst hps
  obtain ⟨i0, hi, hz0, hz1, hz2⟩ := info_parts infoI
  have Hi := Lib.hid hi
  have Hz0 := Lib.hid hz0
  have Hz1 := Lib.hid hz1
  have Hz2 := Lib.hid hz2
  have Hr := Lib.hid hr
  have Hz := Lib.hid hz
  have Hz20 := Lib.hid (shortCs_mono (B := 2000000) (by omega) hz)
  have H := Lib.hid h
  have Hfz := Lib.hid hfz
  have Hfl := Lib.hid hfl
  have HF := Lib.hid (h.fils (D := fun _ => True) (fun _ _ => trivial))
  have Hfz8 := Lib.hid (shortT_mono (B := 8000000) (by omega) hfz)
  obtain ⟨la, lc, rfl, hll, hlm⟩ := hr.len
  unfold maxLen at hlm
  obtain ⟨aa, ca, rfl⟩ := h.len
  clear hr hz h hfz hfl hi hz0 hz1 hz2
  have Hb0 := Lib.hid (Boxed.start w #[.slice aa ps.length ca] 33)
  cases h1 : okStore cs
  · have H1 := Lib.hid h1
    have Hs := Lib.hid (wrongs_none (cs := cs) (t := ps.map (·.1)) (by rw [h1]; rfl))
    clear h1
    go_enter Try.func47, Try.ntmps47
    go_wp2_with (go_at_call 31; refine (impl_ValidStore _ cs D _ (Hr.out.below (by (repeat (with_reducible first | exact Below.refl _ _ | assumption | refine ba ?_ _ | refine bd ?_ | refine bdN ?_ _ | refine bs ?_ (by first | exact Nat.le_refl _ | (dsimp only; omega) | (simp; done)) _ | refine bt ?_ (by assumption))))) Hz20.out).mono ?_; rintro _ w5 ⟨rfl, hb5⟩; rw [H1.out])
    go_ret
    exact wrong_no Hs.out (by (repeat (with_reducible first | exact Below.refl _ _ | assumption | refine ba ?_ _ | refine bd ?_ | refine bdN ?_ _ | refine bs ?_ (by first | exact Nat.le_refl _ | (dsimp only; omega) | (simp; done)) _ | refine bt ?_ (by assumption))))
  cases h2 : okTree (ps.map (·.1))
  · have H1 := Lib.hid h1
    have H2 := Lib.hid h2
    have Hs := Lib.hid (wrongs_none (cs := cs) (t := ps.map (·.1)) (by rw [h2, Bool.and_false]))
    clear h1 h2
    go_enter Try.func47, Try.ntmps47
    go_wp2_with (first
      | (go_at_call 31; refine (impl_ValidStore _ cs D _ (Hr.out.below (by (repeat (with_reducible first | exact Below.refl _ _ | assumption | refine ba ?_ _ | refine bd ?_ | refine bdN ?_ _ | refine bs ?_ (by first | exact Nat.le_refl _ | (dsimp only; omega) | (simp; done)) _ | refine bt ?_ (by assumption))))) Hz20.out).mono ?_; rintro _ w5 ⟨rfl, hb5⟩; rw [H1.out]; have Hx5 := Lib.hid (Hb0.out.step hb5); have x0 : w5.cell? ⟨w.heap.size, 0, none⟩ = some (.slice aa ps.length ca) := Hx5.out.cell 0; have xs := Hx5.out.lt)
      | (go_at_call 51; refine (impl_ValidTree _ _ _ _ (HF.out.below (by have := Hx5.out.below; (repeat (with_reducible first | exact Below.refl _ _ | assumption | refine ba ?_ _ | refine bd ?_ | refine bdN ?_ _ | refine bs ?_ (by first | exact Nat.le_refl _ | (dsimp only; omega) | (simp; done)) _ | refine bt ?_ (by assumption))))) Hfz8.out).mono ?_; rintro _ w6 ⟨rfl, hb6⟩; rw [H2.out]))
    go_ret
    exact wrong_no Hs.out (bt Hx5.out.below hb6)
  have H1 := Lib.hid h1
  have H2 := Lib.hid h2
  have Hs := Lib.hid (wrongs_at h1 h2)
  have h12 : ps.length ≤ 12 := by have := (okTree_all h2).2.2; simpa using this
  have Hin := Lib.hid (fun f hf => okTree_inW h2 (f := f) hf)
  clear h1 h2
  go_enter Try.func47, Try.ntmps47
  go_wp2_with (first
    | (go_at_call 31; refine (impl_ValidStore _ cs D _ (Hr.out.below (by (repeat (with_reducible first | exact Below.refl _ _ | assumption | refine ba ?_ _ | refine bd ?_ | refine bdN ?_ _ | refine bs ?_ (by first | exact Nat.le_refl _ | (dsimp only; omega) | (simp; done)) _ | refine bt ?_ (by assumption))))) Hz20.out).mono ?_; rintro _ w5 ⟨rfl, hb5⟩; rw [H1.out]; have Hx5 := Lib.hid (Hb0.out.step hb5); have x0 : w5.cell? ⟨w.heap.size, 0, none⟩ = some (.slice aa ps.length ca) := Hx5.out.cell 0; have xs := Hx5.out.lt)
    | (go_at_call 51; refine (impl_ValidTree _ _ _ _ (HF.out.below (by have := Hx5.out.below; (repeat (with_reducible first | exact Below.refl _ _ | assumption | refine ba ?_ _ | refine bd ?_ | refine bdN ?_ _ | refine bs ?_ (by first | exact Nat.le_refl _ | (dsimp only; omega) | (simp; done)) _ | refine bt ?_ (by assumption))))) Hfz8.out).mono ?_; rintro _ w6 ⟨rfl, hb6⟩; rw [H2.out]; have Hx6 := Lib.hid (Hx5.out.step hb6); have hz6 := Hx6.out.lt; have y0 : w6.cell? ⟨w.heap.size, 0, none⟩ = some (.slice aa ps.length ca) := Hx6.out.cell 0))
  clear x0 xs hb5 hb6 y0
  go_loopw [5, 20] (fun dv kv wr => ∃ (k : Nat), k ≤ ps.length ∧ kv = .int .i64 k ∧ wr.ownsRow (w.heap.size + 1) 3 1 dv (wrongGo cs ((ps.map (·.1)).take k) 0).length ((wrongGo cs ((ps.map (·.1)).take k) 0).map iv) ∧ Boxed w #[.slice aa ps.length ca] 33 wr) (fun _ kv _ => ps.length - (intOf kv).toNat)
  case atStart => exact ⟨0, by omega, rfl, World.ownsRow_nil _ _ _ _, Hx6.out⟩
  case round =>
    obtain ⟨k, hk, rfl, hown, hbx⟩ := hrel
    have hbel := hbx.below
    have hsz := hbx.lt
    have Hown := Lib.hid hown
    have Hbx := Lib.hid hbx
    clear hown hbx Hx6 Hx5
    by_cases hlt : k < ps.length
    · have hlt' : k < (ps.map (·.1)).length := by simpa using hlt
      have Hsn := Lib.hid (wrongGo_snoc cs (ps.map (·.1)) k hlt')
      have hll2 : (wrongGo cs ((ps.map (·.1)).take k) 0).length ≤ 12 := Nat.le_trans (wrongGo_len _ _ _) (by rw [List.length_take]; omega)
      have hrow := (H.out.below hbel).1
      obtain ⟨g, cap, e1, hg, hg2⟩ := hrow.form (by omega)
      simp only [Value.slice.injEq] at e1
      obtain ⟨rfl, _, rfl⟩ := e1
      obtain ⟨⟨c0, c1, c2, c3, c4, c5⟩, _⟩ := own6 hrow k hlt
      have Hbody := Lib.hid ((H.out.below hbel).2.1 _ (List.getElem_mem hlt))
      have hmem : ps[k].1 ∈ ps.map (·.1) := List.mem_map.2 ⟨_, List.getElem_mem hlt, rfl⟩
      have Hzk := Lib.hid (Hfz.out _ hmem)
      have hlk := Hfl.out.2 _ hmem
      have Hok := Lib.hid (Hin.out _ hmem)
      rw [List.getElem_map] at Hsn
      obtain ⟨p, hp⟩ : ∃ p, p = ps[k] := ⟨_, rfl⟩
      rw [← hp] at c0 c1 c2 c3 c4 c5 Hbody Hzk Hok Hsn hlk
      clear hp hrow hg hg2 hmem hlt'
      obtain ⟨⟨fr, fp, fn, fi, fst, fb⟩, bv⟩ := p
      dsimp only at c0 c1 c2 c3 c4 c5 Hbody Hzk Hok Hsn hlk
      obtain ⟨ab, cb, rfl⟩ := owns_shape Hbody.out
      have Hbel := Lib.hid hbel
      have Hfb := Lib.hid (show StmsIn wr (fun _ => True) (.slice ab fb.length cb) fb from StmsIn.of_owns Hbody.out (fun _ _ => trivial))
      have hk1 : (k : Int) < (ps.length : Int) := by omega
      have hk0 : (0 : Int) ≤ (k : Int) := by omega
      clear hbel
      generalize wrongGo cs ((ps.map (·.1)).take k) 0 = L at *
      obtain ⟨W1, hW1⟩ : ∃ W1, W1 = wr.alloc (.cells #[.int .i64 fr, .string (mk fp), .string (mk fn), .bool fi, .int .i64 fst, .slice ab fb.length cb] 55) := ⟨_, rfl⟩
      have HbW := Lib.hid (show Below wr.heap.size wr W1 by rw [hW1]; (repeat (with_reducible first | exact Below.refl _ _ | assumption | refine ba ?_ _ | refine bd ?_ | refine bdN ?_ _ | refine bs ?_ (by first | exact Nat.le_refl _ | (dsimp only; omega) | (simp; done)) _ | refine bt ?_ (by assumption))))
      have X1 := Lib.hid (show BoxC W1 wr.heap.size #[.int .i64 fr, .string (mk fp), .string (mk fn), .bool fi, .int .i64 fst, .slice ab fb.length cb] by rw [hW1]; exact BoxC.start wr _ _)
      have HWe := Lib.hid hW1
      clear hW1
      have Hrg := Lib.hid (usAt_range cs ⟨fr, fp, fn, fi, fst, fb⟩)
      have Hw1 := Lib.hid (isWrong_none (cs := cs) (f := ⟨fr, fp, fn, fi, fst, fb⟩))
      have Hw2 := Lib.hid (fun q hq => isWrong_at (cs := cs) (f := ⟨fr, fp, fn, fi, fst, fb⟩) (k := q) hq)
      have hcall := Lib.hid (fun (W : World) (hW : Below wr.heap.size wr W) => impl_usableAt la cs.length lc cs D fr fst fp fn fi _ fb 0 W (Hr.out.below (bt Hbel.out hW)) Hz.out (owns_mono (owns_below Hbody.out hW) (Nat.zero_le _)) Hzk.out hlk H1.out Hok.out)
      obtain ⟨ua, hua⟩ : ∃ u, u = usAt cs ⟨fr, fp, fn, fi, fst, fb⟩ := ⟨_, rfl⟩
      rw [← hua] at Hrg Hw1 Hw2 hcall
      clear hua
      go_upto_region 7 with fail
      rw [← HWe.out]
      have q0 : W1.cell? ⟨wr.heap.size, 0, none⟩ = some (.int .i64 fr) := X1.out.2 0
      have q1 : W1.cell? ⟨wr.heap.size, 1, none⟩ = some (.string (mk fp)) := X1.out.2 1
      have q2 : W1.cell? ⟨wr.heap.size, 2, none⟩ = some (.string (mk fn)) := X1.out.2 2
      have q3 : W1.cell? ⟨wr.heap.size, 3, none⟩ = some (.bool fi) := X1.out.2 3
      have q4 : W1.cell? ⟨wr.heap.size, 4, none⟩ = some (.int .i64 fst) := X1.out.2 4
      have q5 : W1.cell? ⟨wr.heap.size, 5, none⟩ = some (.slice ab fb.length cb) := X1.out.2 5
      clear c0 c1 c2 c3 c4 c5
      go_wp2_with fail
      refine (hcall.out _ HbW.out).mono ?_
      rintro _ w7 ⟨rfl, hb7⟩
      have H7 := Lib.hid (bt HbW.out hb7)
      have X7 := Lib.hid (X1.out.below hb7)
      clear q0 q1 q2 q3 q4 q5 hb7
      rcases Hrg.out with rfl | ⟨q, hq, rfl⟩
      · have Hs2 := Lib.hid (show wrongGo cs ((ps.map (·.1)).take (k + 1)) 0 = L by rw [Hsn.out, Hw1.out rfl]; simp)
        go_wp2_with fail
        refine wp_region_quiet_below (by kernel_rfl) (by kernel_rfl) ?_
        repeat (go_big_quiet_step (fail))
        refine wpQuiet_nil ?_
        intro _ hw'
        obtain ⟨⟨dq, osq⟩, hw2⟩ := hw'
        obtain ⟨W8, hW8⟩ : ∃ W, W = grow (redrawn w7 dq) osq := ⟨_, rfl⟩
        rw [hw2, ← hW8]
        have HW8 := Lib.hid (show Below wr.heap.size wr W8 by rw [hW8]; exact bt H7.out (below_regrown w7 dq osq))
        clear hw2 hW8
        go_wp2_with fail
        go_roundw
        case rel => exact ⟨k + 1, by omega, by go_num, by rw [Hs2.out]; exact owns_below Hown.out HW8.out, Hbx.out.step HW8.out⟩
        case measure => simp [intOf]; omega
      · obtain ⟨b, off, cap', cv, e, hD, hb, hcb, _, _, _, _, _, _, _, d7⟩ := Hr.out.at_ hq
        simp only [Value.slice.injEq] at e
        obtain ⟨rfl, _, rfl⟩ := e
        have hq1 : (q : Int) < (cs.length : Int) := by omega
        have hq0 : (0 : Int) ≤ (q : Int) := by omega
        have hqn : ((q : Int) == -1) = false := by rw [beq_eq_false_iff_ne]; omega
        have hqm : ((q : Int) != -1) = true := by rw [bne, hqn]; rfl
        have Hww := Lib.hid (Hw2.out q hq rfl)
        obtain ⟨x, hx⟩ : ∃ x, x = cs[q].body := ⟨_, rfl⟩
        rw [← hx] at hcb Hww
        have Hcb := Lib.hid hcb
        obtain ⟨cva, cvc, rfl, _, _⟩ := hcb.len
        obtain ⟨eb, heb⟩ : ∃ e, e = decide (x = fb) := ⟨_, rfl⟩
        have Heb := Lib.hid heb
        have Hsn2 := Lib.hid (show wrongGo cs ((ps.map (·.1)).take (k + 1)) 0 = L ++ (if (!eb) = true then [(k : Int)] else []) by rw [Hsn.out, Hww.out, ← heb])
        have Hwr := Lib.hid (bt Hbel.out H7.out)
        have k7 := cell_regrown ((Hwr.out.cell (p := ⟨b, off + q * 8 + 7, none⟩) hb).trans d7)
        have j5 := cell_regrown (show w7.cell? ⟨wr.heap.size, 5, none⟩ = some (.slice ab fb.length cb) from X7.out.2 5)
        clear hx hcb heb d7
        have cE : ∀ d os, Calls Try.prog 108 #[.slice cva x.length cvc, .slice ab fb.length cb] (grow (redrawn w7 d) os) fun e w'' => e = .returned (.bool eb) ∧ ∃ p : Regrown, w'' = grow (redrawn w7 p.d) p.os := fun d os =>
          Calls.regrown_of (by rw [Heb.out]; exact slices_EqualB _ _ x fb D (fun _ => True) _ (Hcb.out.below (bt Hwr.out (below_regrown w7 d os))) (Hfb.out.below (bt H7.out (below_regrown w7 d os))))
        cases eb
        · have Hs2 := Lib.hid (show wrongGo cs ((ps.map (·.1)).take (k + 1)) 0 = L ++ [(k : Int)] by rw [Hsn2.out]; simp)
          go_wp2_with fail
          refine wp_region_quiet_below (by kernel_rfl) (by kernel_rfl) ?_
          repeat (go_big_quiet_step (exact cE _ _))
          refine wpQuiet_nil ?_
          intro _ hw'
          obtain ⟨⟨dq, osq⟩, hw2⟩ := hw'
          obtain ⟨W8, hW8⟩ : ∃ W, W = grow (redrawn w7 dq) osq := ⟨_, rfl⟩
          rw [hw2, ← hW8]
          have HW8 := Lib.hid (show Below wr.heap.size wr W8 by rw [hW8]; exact bt H7.out (below_regrown w7 dq osq))
          clear hw2 hW8
          clear cE k7 j5
          have hz9 := HW8.out.size
          go_wp2_with (at_builtin; refine wpList_append_own _ rfl _ _ 69 rfl (w.heap.size + 1) 3 i0 (.int .i64 0) 1 8 Try.underlying69 Hi.out Hz0.out Hz1.out Hz2.out rfl (by decide) _ L.length _ rfl ((owns_below Hown.out HW8.out).alloc _) ⟨_, 0, none⟩ 1 1 [.int .i64 k] rfl rfl (wrong_one (by first | rfl | simp)) (fun x hx => by simp at hx; subst hx; rfl) (by unfold maxLen; omega) (by omega) (by simp; omega) ?_; intro v9 w9 hown9 hgrow9 hnil9)
          have Hx9 := Lib.hid (wrong_first Hbx.out (ba HW8.out _) hgrow9 (fun g hg => (Hown.out.lt g hg).1))
          have Hown9 := Lib.hid (show w9.ownsRow (w.heap.size + 1) 3 1 v9 (L ++ [(k : Int)]).length ((L ++ [(k : Int)]).map iv) by rw [List.length_append, List.map_append]; exact hown9)
          clear hown9 hgrow9 hnil9
          go_roundw
          case rel => exact ⟨k + 1, by omega, by go_num, by rw [Hs2.out]; exact Hown9.out, Hx9.out⟩
          case measure => simp [intOf]; omega
        · have Hs2 := Lib.hid (show wrongGo cs ((ps.map (·.1)).take (k + 1)) 0 = L by rw [Hsn2.out]; simp)
          go_wp2_with fail
          refine wp_region_quiet_below (by kernel_rfl) (by kernel_rfl) ?_
          repeat (go_big_quiet_step (exact cE _ _))
          refine wpQuiet_nil ?_
          intro _ hw'
          obtain ⟨⟨dq, osq⟩, hw2⟩ := hw'
          obtain ⟨W8, hW8⟩ : ∃ W, W = grow (redrawn w7 dq) osq := ⟨_, rfl⟩
          rw [hw2, ← hW8]
          have HW8 := Lib.hid (show Below wr.heap.size wr W8 by rw [hW8]; exact bt H7.out (below_regrown w7 dq osq))
          clear hw2 hW8
          clear cE k7 j5
          go_wp2_with fail
          go_roundw
          case rel => exact ⟨k + 1, by omega, by go_num, by rw [Hs2.out]; exact owns_below Hown.out HW8.out, Hbx.out.step HW8.out⟩
          case measure => simp [intOf]; omega
    · obtain rfl : k = ps.length := by omega
      go_wp2_with fail
      go_ret
      exact ⟨_, rfl, owns_mono (by rw [Hs.out, List.length_map]; exact Hown.out) (by omega), hbel⟩

/-! ### The contract of the model's WrongFiles. -/
theorem wrong_lit {w : World} {base e size : Nat} (cs : Array Value) (n : Nat) (hs : cs.size = n * size) (hb : base ≤ w.heap.size) (hm : n ≤ maxLen) (hn : cs = #[]) : (w.alloc (.cells cs e)).ownsRow base e size (.slice (some ⟨w.heap.size, 0, none⟩) n n) n cs.toList := World.ownsRow_lit w cs n hb hm hs
set_option maxRecDepth 100000 in
set_option maxHeartbeats 4000000 in
theorem spec_WrongFiles (lv : Value) (cs : List Cmp) (D : Nat → Prop) (v : Value) (fs : List Fil) (ps : List (Fil × Value)) (B : Nat) (w : World) (hr : CmpsIn w D lv cs) (hz : ShortCs 1048576 cs) (h : RowsFB w B v ps) (hps : ps.map (·.1) = fs) (hfz : ShortT 1048576 fs) (hfl : filsCost' fs) :
    Calls Try.prog 50 #[lv, .agg #[v]] w (NewInts 3 (wrongs cs fs) w) := by
  subst hps
  obtain ⟨i0, hi, hz0, hz1, hz2⟩ := info_parts infoI
  have Hi := Lib.hid hi
  have Hz0 := Lib.hid hz0
  have Hz1 := Lib.hid hz1
  have Hz2 := Lib.hid hz2
  have Hr := Lib.hid hr
  have Hz := Lib.hid hz
  have Hz20 := Lib.hid (shortCs_mono (B := 2000000) (by omega) hz)
  have H := Lib.hid h
  have Hfz := Lib.hid hfz
  have Hfl := Lib.hid hfl
  have HF := Lib.hid (h.fils (D := fun _ => True) (fun _ _ => trivial))
  have Hfz8 := Lib.hid (shortT_mono (B := 3000000) (by omega) hfz)
  obtain ⟨la, lc, rfl, hll, hlm⟩ := hr.len
  unfold maxLen at hlm
  obtain ⟨aa, ca, rfl⟩ := h.len
  clear hr hz h hfz hfl hi hz0 hz1 hz2
  have Hb0 := Lib.hid (Boxed.start w #[.slice aa ps.length ca] 33)
  cases h1 : okStore cs
  · have H1 := Lib.hid h1
    have Hs := Lib.hid (wrongs_none (cs := cs) (t := ps.map (·.1)) (by rw [h1]; rfl))
    clear h1
    go_enter Try.func50, Try.ntmps50
    go_wp2_with (go_at_call 58; refine (spec_validStore _ cs D _ (Hr.out.below (by (repeat (with_reducible first | exact Below.refl _ _ | assumption | refine ba ?_ _ | refine bd ?_ | refine bdN ?_ _ | refine bs ?_ (by first | exact Nat.le_refl _ | (dsimp only; omega) | (simp; done)) _ | refine bt ?_ (by assumption))))) Hz20.out).mono ?_; rintro _ w5 ⟨rfl, hb5⟩; rw [H1.out])
    go_ret
    exact wrong_no Hs.out (by (repeat (with_reducible first | exact Below.refl _ _ | assumption | refine ba ?_ _ | refine bd ?_ | refine bdN ?_ _ | refine bs ?_ (by first | exact Nat.le_refl _ | (dsimp only; omega) | (simp; done)) _ | refine bt ?_ (by assumption))))
  cases h2 : okTree (ps.map (·.1))
  · have H1 := Lib.hid h1
    have H2 := Lib.hid h2
    have Hs := Lib.hid (wrongs_none (cs := cs) (t := ps.map (·.1)) (by rw [h2, Bool.and_false]))
    clear h1 h2
    go_enter Try.func50, Try.ntmps50
    go_wp2_with (first
      | (go_at_call 58; refine (spec_validStore _ cs D _ (Hr.out.below (by (repeat (with_reducible first | exact Below.refl _ _ | assumption | refine ba ?_ _ | refine bd ?_ | refine bdN ?_ _ | refine bs ?_ (by first | exact Nat.le_refl _ | (dsimp only; omega) | (simp; done)) _ | refine bt ?_ (by assumption))))) Hz20.out).mono ?_; rintro _ w5 ⟨rfl, hb5⟩; rw [H1.out]; have Hx5 := Lib.hid (Hb0.out.step hb5); have x0 : w5.cell? ⟨w.heap.size, 0, none⟩ = some (.slice aa ps.length ca) := Hx5.out.cell 0; have xs := Hx5.out.lt)
      | (go_at_call 59; refine (spec_validTree _ _ _ _ (HF.out.below (by have := Hx5.out.below; (repeat (with_reducible first | exact Below.refl _ _ | assumption | refine ba ?_ _ | refine bd ?_ | refine bdN ?_ _ | refine bs ?_ (by first | exact Nat.le_refl _ | (dsimp only; omega) | (simp; done)) _ | refine bt ?_ (by assumption))))) Hfz8.out).mono ?_; rintro _ w6 ⟨rfl, hb6⟩; rw [H2.out]))
    go_ret
    exact wrong_no Hs.out (bt Hx5.out.below hb6)
  have H1 := Lib.hid h1
  have H2 := Lib.hid h2
  have Hs := Lib.hid (wrongs_at h1 h2)
  have h12 : ps.length ≤ 12 := by have := (okTree_all h2).2.2; simpa using this
  have Hin := Lib.hid (fun f hf => okTree_inW h2 (f := f) hf)
  clear h1 h2
  go_enter Try.func50, Try.ntmps50
  go_wp2_with (first
    | (go_at_call 58; refine (spec_validStore _ cs D _ (Hr.out.below (by (repeat (with_reducible first | exact Below.refl _ _ | assumption | refine ba ?_ _ | refine bd ?_ | refine bdN ?_ _ | refine bs ?_ (by first | exact Nat.le_refl _ | (dsimp only; omega) | (simp; done)) _ | refine bt ?_ (by assumption))))) Hz20.out).mono ?_; rintro _ w5 ⟨rfl, hb5⟩; rw [H1.out]; have Hx5 := Lib.hid (Hb0.out.step hb5); have x0 : w5.cell? ⟨w.heap.size, 0, none⟩ = some (.slice aa ps.length ca) := Hx5.out.cell 0; have xs := Hx5.out.lt)
    | (go_at_call 59; refine (spec_validTree _ _ _ _ (HF.out.below (by have := Hx5.out.below; (repeat (with_reducible first | exact Below.refl _ _ | assumption | refine ba ?_ _ | refine bd ?_ | refine bdN ?_ _ | refine bs ?_ (by first | exact Nat.le_refl _ | (dsimp only; omega) | (simp; done)) _ | refine bt ?_ (by assumption))))) Hfz8.out).mono ?_; rintro _ w6 ⟨rfl, hb6⟩; rw [H2.out]; have Hx6 := Lib.hid (Hx5.out.step hb6); have hz6 := Hx6.out.lt))
  clear x0 xs hb5 hb6
  go_loopw [5, 6] (fun dv kv wr => ∃ (k : Nat), k ≤ ps.length ∧ kv = .int .i64 k ∧ wr.ownsRow (w.heap.size + 1) 3 1 dv (wrongGo cs ((ps.map (·.1)).take k) 0).length ((wrongGo cs ((ps.map (·.1)).take k) 0).map iv) ∧ Boxed w #[.slice aa ps.length ca] 33 wr) (fun _ kv _ => ps.length - (intOf kv).toNat)
  case atStart => exact ⟨0, by omega, rfl, wrong_lit #[] 0 (by simp) (by omega) (by unfold maxLen; omega) rfl, Hx6.out.step (ba (Below.refl _ _) _)⟩
  case round =>
    obtain ⟨k, hk, rfl, hown, hbx⟩ := hrel
    have hbel := hbx.below
    have hsz := hbx.lt
    have f0 : wr.cell? ⟨w.heap.size, 0, none⟩ = some (.slice aa ps.length ca) := hbx.cell 0
    have hsz0 : w.heap.size < wr.heap.size := by omega
    have Hown := Lib.hid hown
    have Hbx := Lib.hid hbx
    clear hown hbx Hx6 Hx5
    by_cases hlt : k < ps.length
    · have hlt' : k < (ps.map (·.1)).length := by simpa using hlt
      have Hsn := Lib.hid (wrongGo_snoc cs (ps.map (·.1)) k hlt')
      have hll2 : (wrongGo cs ((ps.map (·.1)).take k) 0).length ≤ 12 := Nat.le_trans (wrongGo_len _ _ _) (by rw [List.length_take]; omega)
      have hrow := (H.out.below hbel).1
      obtain ⟨g, cap, e1, hg, hg2⟩ := hrow.form (by omega)
      simp only [Value.slice.injEq] at e1
      obtain ⟨rfl, _, rfl⟩ := e1
      obtain ⟨⟨c0, c1, c2, c3, c4, c5⟩, _⟩ := own6 hrow k hlt
      have Hbody := Lib.hid ((H.out.below hbel).2.1 _ (List.getElem_mem hlt))
      have hmem : ps[k].1 ∈ ps.map (·.1) := List.mem_map.2 ⟨_, List.getElem_mem hlt, rfl⟩
      have Hzk := Lib.hid (Hfz.out _ hmem)
      have hlk := Hfl.out.2 _ hmem
      have Hok := Lib.hid (Hin.out _ hmem)
      rw [List.getElem_map] at Hsn
      obtain ⟨p, hp⟩ : ∃ p, p = ps[k] := ⟨_, rfl⟩
      rw [← hp] at c0 c1 c2 c3 c4 c5 Hbody Hzk Hok Hsn hlk
      clear hp hrow hg hg2 hmem hlt'
      obtain ⟨⟨fr, fp, fn, fi, fst, fb⟩, bv⟩ := p
      dsimp only at c0 c1 c2 c3 c4 c5 Hbody Hzk Hok Hsn hlk
      obtain ⟨ab, cb, rfl⟩ := owns_shape Hbody.out
      have Hbel := Lib.hid hbel
      have Hfb := Lib.hid (show StmsIn wr (fun _ => True) (.slice ab fb.length cb) fb from StmsIn.of_owns Hbody.out (fun _ _ => trivial))
      have hk1 : (k : Int) < (ps.length : Int) := by omega
      have hk0 : (0 : Int) ≤ (k : Int) := by omega
      clear hbel
      generalize wrongGo cs ((ps.map (·.1)).take k) 0 = L at *
      obtain ⟨W1, hW1⟩ : ∃ W1, W1 = wr.alloc (.cells #[.int .i64 fr, .string (mk fp), .string (mk fn), .bool fi, .int .i64 fst, .slice ab fb.length cb] 55) := ⟨_, rfl⟩
      have HbW := Lib.hid (show Below wr.heap.size wr W1 by rw [hW1]; (repeat (with_reducible first | exact Below.refl _ _ | assumption | refine ba ?_ _ | refine bd ?_ | refine bdN ?_ _ | refine bs ?_ (by first | exact Nat.le_refl _ | (dsimp only; omega) | (simp; done)) _ | refine bt ?_ (by assumption))))
      have X1 := Lib.hid (show BoxC W1 wr.heap.size #[.int .i64 fr, .string (mk fp), .string (mk fn), .bool fi, .int .i64 fst, .slice ab fb.length cb] by rw [hW1]; exact BoxC.start wr _ _)
      have HWe := Lib.hid hW1
      clear hW1
      obtain ⟨nm, hnm⟩ : ∃ n, n = modName ⟨fr, fp, fn, fi, fst, fb⟩ := ⟨_, rfl⟩
      have Hnm := Lib.hid hnm
      obtain ⟨kk, hkk⟩ : ∃ q, q = keyAt cplace cs (fr, nm, fi) := ⟨_, rfl⟩
      have Hkk := Lib.hid hkk
      have Hfpl := Lib.hid (show fplace ⟨fr, fp, fn, fi, fst, fb⟩ = (fr, nm, fi) by rw [hnm]; rfl)
      have Hobody := Lib.hid (show okBody fb = true from okFil_body Hok.out)
      clear hnm hkk
      go_upto_region 8 with fail
      rw [← HWe.out]
      clear c0 c1 c2 c3 c4 c5 f0 hsz0
      have j0 := cell_regrown (show W1.cell? ⟨wr.heap.size, 0, none⟩ = some (.int .i64 fr) from X1.out.2 0)
      have j1 := cell_regrown (show W1.cell? ⟨wr.heap.size, 1, none⟩ = some (.string (mk fp)) from X1.out.2 1)
      have j2 := cell_regrown (show W1.cell? ⟨wr.heap.size, 2, none⟩ = some (.string (mk fn)) from X1.out.2 2)
      have j3 := cell_regrown (show W1.cell? ⟨wr.heap.size, 3, none⟩ = some (.bool fi) from X1.out.2 3)
      have j4 := cell_regrown (show W1.cell? ⟨wr.heap.size, 4, none⟩ = some (.int .i64 fst) from X1.out.2 4)
      have j5 := cell_regrown (show W1.cell? ⟨wr.heap.size, 5, none⟩ = some (.slice ab fb.length cb) from X1.out.2 5)
      have cM : ∀ d os, Calls Try.prog 60 #[.agg #[.int .i64 fr, .string (mk fp), .string (mk fn), .bool fi, .int .i64 fst, .slice ab fb.length cb]] (grow (redrawn W1 d) os) fun e w'' => e = .returned (.string (mk nm)) ∧ ∃ p : Regrown, w'' = grow (redrawn W1 p.d) p.os := fun d os =>
        Calls.regrown_of (by rw [Hnm.out]; exact spec_moduleName fr fst fp fn fi _ fb _ (Nat.le_trans Hzk.out.1 (by omega)) (Nat.le_trans Hzk.out.2.1 (by omega)))
      have cA : ∀ d os, Calls Try.prog 109 #[.slice la cs.length lc, .int .i64 fr, .string (mk nm), .bool fi] (grow (redrawn W1 d) os) fun e w'' => e = .returned (.int .i64 kk) ∧ ∃ p : Regrown, w'' = grow (redrawn W1 p.d) p.os := fun d os =>
        Calls.regrown_of (by rw [Hkk.out]; exact spec_compiledAt la cs.length lc cs D fr nm fi _ (Hr.out.below (bt Hbel.out (bt HbW.out (below_regrown W1 d os)))))
      refine wp_region_quiet_below (by kernel_rfl) (by kernel_rfl) ?_
      repeat (go_big_quiet_step (first | exact cM _ _ | exact cA _ _))
      refine wpQuiet_nil ?_
      intro _ hw'
      obtain ⟨⟨dq, osq⟩, hw2⟩ := hw'
      obtain ⟨W2, hW2⟩ : ∃ W, W = grow (redrawn W1 dq) osq := ⟨_, rfl⟩
      rw [hw2, ← hW2]
      have HW2 := Lib.hid (show Below wr.heap.size wr W2 by rw [hW2]; exact bt HbW.out (below_regrown W1 dq osq))
      have H12 := Lib.hid (show Below W1.heap.size W1 W2 by rw [hW2]; exact below_regrown W1 dq osq)
      clear hw2 hW2
      clear cM cA j0 j1 j2 j3 j4 j5
      have X2 := Lib.hid (X1.out.below H12.out)
      have Hwr := Lib.hid (bt Hbel.out HW2.out)
      have hrg := keyAt_is (key := cplace) cs (fr, nm, fi)
      rw [← Hkk.out] at hrg
      rcases hrg with ⟨rfl, _⟩ | ⟨q, hq, rfl, hkey, _⟩
      · have Hs2 := Lib.hid (show wrongGo cs ((ps.map (·.1)).take (k + 1)) 0 = L by rw [Hsn.out, isWrong_none (usAt_none (by rw [Hfpl.out]; exact Hkk.out.symm))]; simp)
        have hzz : decide ((0 : Int) ≤ -1) = false := by decide
        go_wp2_with fail
        refine wp_region_quiet_below (by kernel_rfl) (by kernel_rfl) ?_
        repeat (go_big_quiet_step (fail))
        refine wpQuiet_nil ?_
        intro _ hw'
        obtain ⟨⟨dq, osq⟩, hw2⟩ := hw'
        obtain ⟨W8, hW8⟩ : ∃ W, W = grow (redrawn W2 dq) osq := ⟨_, rfl⟩
        rw [hw2, ← hW8]
        have HW8 := Lib.hid (show Below wr.heap.size wr W8 by rw [hW8]; exact bt HW2.out (below_regrown W2 dq osq))
        clear hw2 hW8
        go_wp2_with fail
        go_roundw
        case rel => exact ⟨k + 1, by omega, by go_num, by rw [Hs2.out]; exact owns_below Hown.out HW8.out, Hbx.out.step HW8.out⟩
        case measure => simp [intOf]; omega
      · obtain ⟨b, off, cap', cv, e, hD, hb, hcb, d0, d1, d2, d3, d4, d5, d6, d7⟩ := Hr.out.at_ hq
        simp only [Value.slice.injEq] at e
        obtain ⟨rfl, _, rfl⟩ := e
        have hq1 : (q : Int) < (cs.length : Int) := by omega
        have hq0 : (0 : Int) ≤ (q : Int) := by omega
        have hqd : decide ((0 : Int) ≤ (q : Int)) = true := decide_eq_true hq0
        have hokc := (okStore_facts H1.out).1 _ (List.getElem_mem hq)
        have Hus1 := Lib.hid (show isUsable cs[q] ⟨fr, fp, fn, fi, fst, fb⟩ = usable cs[q] ⟨fr, fp, fn, fi, fst, fb⟩ by
          unfold isUsable; rw [hokc, Hok.out, Hfpl.out, hkey]; simp)
        have Hbad := Lib.hid (fun (h : isUsable cs[q] ⟨fr, fp, fn, fi, fst, fb⟩ = false) => isWrong_none (usAt_bad (f := ⟨fr, fp, fn, fi, fst, fb⟩) hq (by rw [Hfpl.out]; exact Hkk.out.symm) h))
        have Hgood := Lib.hid (fun (h : isUsable cs[q] ⟨fr, fp, fn, fi, fst, fb⟩ = true) => isWrong_at (f := ⟨fr, fp, fn, fi, fst, fb⟩) hq (usAt_good hq (by rw [Hfpl.out]; exact Hkk.out.symm) h))
        obtain ⟨x, hx⟩ : ∃ x, x = cs[q] := ⟨_, rfl⟩
        rw [← hx] at d0 d1 d2 d3 d4 d5 d6 hcb Hus1 Hbad Hgood
        clear hx hokc hkey
        obtain ⟨x0, x1, x2, x3, x4, x5, x6, x7⟩ := x
        dsimp only at d0 d1 d2 d3 d4 d5 d6 hcb Hgood
        have Hcb := Lib.hid hcb
        obtain ⟨cva, cvc, rfl, _, _⟩ := hcb.len
        obtain ⟨eb, heb⟩ : ∃ e, e = decide (x7 = fb) := ⟨_, rfl⟩
        obtain ⟨us, hus⟩ : ∃ u, u = usable ⟨x0, x1, x2, x3, x4, x5, x6, x7⟩ ⟨fr, fp, fn, fi, fst, fb⟩ := ⟨_, rfl⟩
        have Heb := Lib.hid heb
        have Hus := Lib.hid hus
        have Hsn2 := Lib.hid (show wrongGo cs ((ps.map (·.1)).take (k + 1)) 0 = L ++ (if (us && !eb) = true then [(k : Int)] else []) by
          rw [Hsn.out]
          cases us
          · rw [Hbad.out (by rw [Hus1.out, ← hus])]; simp
          · rw [Hgood.out (by rw [Hus1.out, ← hus]), ← heb]; simp)
        have k0 := cell_regrown ((Hwr.out.cell (p := ⟨b, off + q * 8, none⟩) hb).trans d0)
        have k1 := cell_regrown ((Hwr.out.cell (p := ⟨b, off + q * 8 + 1, none⟩) hb).trans d1)
        have k2 := cell_regrown ((Hwr.out.cell (p := ⟨b, off + q * 8 + 2, none⟩) hb).trans d2)
        have k3 := cell_regrown ((Hwr.out.cell (p := ⟨b, off + q * 8 + 3, none⟩) hb).trans d3)
        have k4 := cell_regrown ((Hwr.out.cell (p := ⟨b, off + q * 8 + 4, none⟩) hb).trans d4)
        have k5 := cell_regrown ((Hwr.out.cell (p := ⟨b, off + q * 8 + 5, none⟩) hb).trans d5)
        have k6 := cell_regrown ((Hwr.out.cell (p := ⟨b, off + q * 8 + 6, none⟩) hb).trans d6)
        have k7 := cell_regrown ((Hwr.out.cell (p := ⟨b, off + q * 8 + 7, none⟩) hb).trans d7)
        have j0 := cell_regrown (show W2.cell? ⟨wr.heap.size, 0, none⟩ = some (.int .i64 fr) from X2.out.2 0)
        have j1 := cell_regrown (show W2.cell? ⟨wr.heap.size, 1, none⟩ = some (.string (mk fp)) from X2.out.2 1)
        have j2 := cell_regrown (show W2.cell? ⟨wr.heap.size, 2, none⟩ = some (.string (mk fn)) from X2.out.2 2)
        have j3 := cell_regrown (show W2.cell? ⟨wr.heap.size, 3, none⟩ = some (.bool fi) from X2.out.2 3)
        have j4 := cell_regrown (show W2.cell? ⟨wr.heap.size, 4, none⟩ = some (.int .i64 fst) from X2.out.2 4)
        have j5 := cell_regrown (show W2.cell? ⟨wr.heap.size, 5, none⟩ = some (.slice ab fb.length cb) from X2.out.2 5)
        clear hcb heb hus d0 d1 d2 d3 d4 d5 d6 d7
        have cU : ∀ d os, Calls Try.prog 95 #[.agg #[.int .i64 x0, .string (mk x1), .bool x2, .int .i64 x3, .int .i64 x4, .int .i64 x5, .int .i64 x6, .slice cva x7.length cvc], .agg #[.int .i64 fr, .string (mk fp), .string (mk fn), .bool fi, .int .i64 fst, .slice ab fb.length cb]] (grow (redrawn W2 d) os) fun e w'' => e = .returned (.bool us) ∧ ∃ p : Regrown, w'' = grow (redrawn W2 p.d) p.os := fun d os =>
          Calls.regrown_of (by rw [Hus.out]; exact spec_usable x0 x1 x2 x3 x4 x5 x6 _ x7 fr fst fp fn fi _ fb (fun _ => True) _ (Hfb.out.below (bt HW2.out (below_regrown W2 d os))) (short_mono (by omega) Hzk.out.2.2) Hobody.out)
        have cE : ∀ d os, Calls Try.prog 110 #[.slice cva x7.length cvc, .slice ab fb.length cb] (grow (redrawn W2 d) os) fun e w'' => e = .returned (.bool eb) ∧ ∃ p : Regrown, w'' = grow (redrawn W2 p.d) p.os := fun d os =>
          Calls.regrown_of (by rw [Heb.out]; exact spec_sameBody _ _ x7 fb D (fun _ => True) _ (Hcb.out.below (bt Hwr.out (below_regrown W2 d os))) (Hfb.out.below (bt HW2.out (below_regrown W2 d os))))
        cases us
        · have Hs2 := Lib.hid (show wrongGo cs ((ps.map (·.1)).take (k + 1)) 0 = L by rw [Hsn2.out]; simp)
          go_wp2_with fail
          refine wp_region_quiet_below (by kernel_rfl) (by kernel_rfl) ?_
          repeat (go_big_quiet_step (first | exact cU _ _ | exact cE _ _))
          refine wpQuiet_nil ?_
          intro _ hw'
          obtain ⟨⟨dq, osq⟩, hw2⟩ := hw'
          obtain ⟨W8, hW8⟩ : ∃ W, W = grow (redrawn W2 dq) osq := ⟨_, rfl⟩
          rw [hw2, ← hW8]
          have HW8 := Lib.hid (show Below wr.heap.size wr W8 by rw [hW8]; exact bt HW2.out (below_regrown W2 dq osq))
          clear hw2 hW8
          clear cU cE k0 k1 k2 k3 k4 k5 k6 k7 j0 j1 j2 j3 j4 j5
          go_wp2_with fail
          go_roundw
          case rel => exact ⟨k + 1, by omega, by go_num, by rw [Hs2.out]; exact owns_below Hown.out HW8.out, Hbx.out.step HW8.out⟩
          case measure => simp [intOf]; omega
        cases eb
        · have Hs2 := Lib.hid (show wrongGo cs ((ps.map (·.1)).take (k + 1)) 0 = L ++ [(k : Int)] by rw [Hsn2.out]; simp)
          go_wp2_with fail
          refine wp_region_quiet_below (by kernel_rfl) (by kernel_rfl) ?_
          repeat (go_big_quiet_step (first | exact cU _ _ | exact cE _ _))
          refine wpQuiet_nil ?_
          intro _ hw'
          obtain ⟨⟨dq, osq⟩, hw2⟩ := hw'
          obtain ⟨W8, hW8⟩ : ∃ W, W = grow (redrawn W2 dq) osq := ⟨_, rfl⟩
          rw [hw2, ← hW8]
          have HW8 := Lib.hid (show Below wr.heap.size wr W8 by rw [hW8]; exact bt HW2.out (below_regrown W2 dq osq))
          clear hw2 hW8
          clear cU cE k0 k1 k2 k3 k4 k5 k6 k7 j0 j1 j2 j3 j4 j5
          have hz9 := HW8.out.size
          go_wp2_with (at_builtin; refine wpList_append_own _ rfl _ _ 69 rfl (w.heap.size + 1) 3 i0 (.int .i64 0) 1 8 Try.underlying69 Hi.out Hz0.out Hz1.out Hz2.out rfl (by decide) _ L.length _ rfl ((owns_below Hown.out HW8.out).alloc _) ⟨_, 0, none⟩ 1 1 [.int .i64 k] rfl rfl (wrong_one (by first | rfl | simp)) (fun x hx => by simp at hx; subst hx; rfl) (by unfold maxLen; omega) (by omega) (by simp; omega) ?_; intro v9 w9 hown9 hgrow9 hnil9)
          have Hx9 := Lib.hid (wrong_first Hbx.out (ba HW8.out _) hgrow9 (fun g hg => (Hown.out.lt g hg).1))
          have Hown9 := Lib.hid (show w9.ownsRow (w.heap.size + 1) 3 1 v9 (L ++ [(k : Int)]).length ((L ++ [(k : Int)]).map iv) by rw [List.length_append, List.map_append]; exact hown9)
          clear hown9 hgrow9 hnil9
          go_roundw
          case rel => exact ⟨k + 1, by omega, by go_num, by rw [Hs2.out]; exact Hown9.out, Hx9.out⟩
          case measure => simp [intOf]; omega
        · have Hs2 := Lib.hid (show wrongGo cs ((ps.map (·.1)).take (k + 1)) 0 = L by rw [Hsn2.out]; simp)
          go_wp2_with fail
          refine wp_region_quiet_below (by kernel_rfl) (by kernel_rfl) ?_
          repeat (go_big_quiet_step (first | exact cU _ _ | exact cE _ _))
          refine wpQuiet_nil ?_
          intro _ hw'
          obtain ⟨⟨dq, osq⟩, hw2⟩ := hw'
          obtain ⟨W8, hW8⟩ : ∃ W, W = grow (redrawn W2 dq) osq := ⟨_, rfl⟩
          rw [hw2, ← hW8]
          have HW8 := Lib.hid (show Below wr.heap.size wr W8 by rw [hW8]; exact bt HW2.out (below_regrown W2 dq osq))
          clear hw2 hW8
          clear cU cE k0 k1 k2 k3 k4 k5 k6 k7 j0 j1 j2 j3 j4 j5
          go_wp2_with fail
          go_roundw
          case rel => exact ⟨k + 1, by omega, by go_num, by rw [Hs2.out]; exact owns_below Hown.out HW8.out, Hbx.out.step HW8.out⟩
          case measure => simp [intOf]; omega
    · obtain rfl : k = ps.length := by omega
      go_wp2_with fail
      go_ret
      exact ⟨_, rfl, owns_mono (by rw [Hs.out, List.length_map]; exact Hown.out) (by omega), hbel⟩
end Go.Proofs.Ytomdmkhgkaalnaa
