/- Contracts of the program's functions that say which files have another body in a store. -/
import Derived.Test.YtomdmkhgkaalnaaUsable
import Derived.Test.YtomdmkhgkaalnaaEqBody
import Derived.Test.YtomdmkhgkaalnaaInts
import Derived.Test.YtomdmkhgkaalnaaTrees
set_option linter.unusedVariables false
set_option linter.unusedSimpArgs false
namespace Go.Proofs.Ytomdmkhgkaalnaa
open Go.RowKit Go.Proofs.Ytomdmkhgkaalnaa.Nm
open Go.Sort (grow)

theorem wrong_no {T : TypeId} {xs : List Int} {w w' : World} (h : xs = []) (hb : Below w.heap.size w w') : NewInts T xs w (.returned (.slice none 0 0)) w' := by
  subst h; exact ⟨_, rfl, World.ownsRow_nil _ _ _ _, hb⟩
theorem wrong_first {w wr W w7 : World} {cs : Array Value} {T : TypeId} {row : Option Nat} (h : Boxed w cs T wr) (hb : Below wr.heap.size wr W) (hg : W.grownBy w7 row) (hr : ∀ g, row = some g → w.heap.size + 1 ≤ g) : Boxed w cs T w7 :=
  (h.step hb).grown hg (h.step hb).size (fun g e => by simpa using hr g e)
theorem wrong_one {w : World} {x : Value} {t : TypeId} {b : Nat} (hb : b = w.heap.size) : ∀ j u, [x][j]? = some u → (w.alloc (.cells #[x] t)).cell? ((⟨b, 0, none⟩ : Addr).add j) = some u := by
  subst hb
  intro j u h
  cases j with
  | zero => simp at h; subst h; simp [go_sem, Addr.add]
  | succ n => simp at h
/-- What a store has of a file, if it can be used. -/
def usAt (cs : List Cmp) (f : Fil) : Int :=
  match cs[(keyAt cplace cs (fplace f)).toNat]? with
  | some c => if 0 ≤ keyAt cplace cs (fplace f) ∧ isUsable c f = true then keyAt cplace cs (fplace f) else -1
  | none => -1
theorem usAt_none {cs : List Cmp} {f : Fil} (h : keyAt cplace cs (fplace f) = -1) : usAt cs f = -1 := by
  unfold usAt; rw [h]; split <;> simp
theorem usAt_bad {cs : List Cmp} {f : Fil} {k : Nat} (hk : k < cs.length) (h : keyAt cplace cs (fplace f) = (k : Int)) (hu : isUsable cs[k] f = false) : usAt cs f = -1 := by
  unfold usAt; rw [h]; simp [hk, hu]
theorem usAt_good {cs : List Cmp} {f : Fil} {k : Nat} (hk : k < cs.length) (h : keyAt cplace cs (fplace f) = (k : Int)) (hu : isUsable cs[k] f = true) : usAt cs f = (k : Int) := by
  unfold usAt; rw [h]; simp [hk, hu]
theorem sourceOf_file {cs : List Cmp} {f : Fil} (hv : ∀ c ∈ cs, vn c.module = true) (hf : okFil f = true) : keyAt sourceOf cs (place f) = keyAt cplace cs (fplace f) := by
  have h2 := (srcPlace_fil hf).1
  rw [← h2]
  exact keyAt_map (key := cplace) (f := srcPlace) (fun x hx => by rw [h2]; exact srcPlace_is (hv x hx) hf)
/-- Whether a file has another body in a store. -/
def isWrong (cs : List Cmp) (f : Fil) : Bool :=
  match cs[(usAt cs f).toNat]? with
  | some c => decide (0 ≤ usAt cs f) && !decide (c.body = f.body)
  | none => false
def wrongGo (cs : List Cmp) : List Fil → Int → List Int
  | [], _ => []
  | f :: r, i => (if isWrong cs f then [i] else []) ++ wrongGo cs r (i + 1)
def wrongs (cs : List Cmp) (t : List Fil) : List Int := if okStore cs && okTree t then wrongGo cs t 0 else []
theorem wrongGo_app (cs : List Cmp) (a b : List Fil) (i : Int) : wrongGo cs (a ++ b) i = wrongGo cs a i ++ wrongGo cs b (i + a.length) := by
  induction a generalizing i with
  | nil => simp [wrongGo]
  | cons x r ih => simp only [List.cons_append, wrongGo, ih, List.append_assoc, List.length_cons]; congr 3; omega
theorem wrongGo_len (cs : List Cmp) : ∀ (l : List Fil) (i : Int), (wrongGo cs l i).length ≤ l.length
  | [], _ => by simp [wrongGo]
  | x :: r, i => by
    have := wrongGo_len cs r (i + 1)
    unfold wrongGo; split <;> simp <;> omega
theorem wrongGo_snoc (cs : List Cmp) (l : List Fil) (k : Nat) (h : k < l.length) : wrongGo cs (l.take (k + 1)) 0 = wrongGo cs (l.take k) 0 ++ (if isWrong cs l[k] then [(k : Int)] else []) := by
  rw [List.take_succ_eq_append_getElem h, wrongGo_app]
  have e : (l.take k).length = k := by rw [List.length_take]; omega
  rw [e]
  simp [wrongGo]
theorem okTree_inW {t : List Fil} (h : okTree t = true) {f : Fil} (hf : f ∈ t) : okFil f = true := List.all_eq_true.1 (okTree_all h).1 f hf
theorem wrongs_at {cs : List Cmp} {t : List Fil} (h1 : okStore cs = true) (h2 : okTree t = true) : wrongs cs t = wrongGo cs (t.take t.length) 0 := by
  unfold wrongs; rw [h1, h2, List.take_length]; rfl
theorem wrongs_none {cs : List Cmp} {t : List Fil} (h : (okStore cs && okTree t) = false) : wrongs cs t = [] := by unfold wrongs; rw [h]; rfl
theorem wrongs_len (cs : List Cmp) (t : List Fil) : (wrongs cs t).length ≤ 12 := by
  unfold wrongs
  split
  · rename_i h
    simp only [Bool.and_eq_true] at h
    exact Nat.le_trans (wrongGo_len _ _ _) (okTree_all h.2).2.2
  · simp
theorem isWrong_none {cs : List Cmp} {f : Fil} (h : usAt cs f = -1) : isWrong cs f = false := by
  unfold isWrong; rw [h]; split <;> simp
theorem isWrong_at {cs : List Cmp} {f : Fil} {k : Nat} (hk : k < cs.length) (h : usAt cs f = (k : Int)) : isWrong cs f = !decide (cs[k].body = f.body) := by
  unfold isWrong; rw [h]; simp [hk]
theorem usAt_range (cs : List Cmp) (f : Fil) : usAt cs f = -1 ∨ ∃ k, k < cs.length ∧ usAt cs f = (k : Int) := by
  rcases keyAt_is (key := cplace) cs (fplace f) with ⟨h1, _⟩ | ⟨k, hk, h1, _⟩
  · exact .inl (usAt_none h1)
  · cases hu : isUsable cs[k] f
    · exact .inl (usAt_bad hk h1 hu)
    · exact .inr ⟨k, hk, usAt_good hk h1 hu⟩

set_option maxRecDepth 100000 in
set_option maxHeartbeats 4000000 in
theorem impl_usableAt (a : Option Addr) (n cap : Nat) (cs : List Cmp) (D : Nat → Prop) (r st : Int) (p nm : Bs) (i : Bool) (bv : Value) (body : List Stm) (B : Nat) (w : World) (hr : CmpsIn w D (.slice a n cap) cs) (hz : ShortCs 1048576 cs) (hf : w.ownsRow B 124 5 bv body.length (body.flatMap stmCells)) (hzf : ShortF 1048576 ⟨r, p, nm, i, st, body⟩) (hl : body.length ≤ 1048576)
    (hs : okStore cs = true) (hok : okFil ⟨r, p, nm, i, st, body⟩ = true) :
    Calls Try.prog 101 #[.slice a n cap, .agg #[.int .i64 r, .string (mk p), .string (mk nm), .bool i, .int .i64 st, bv]] w fun e w' => e = .returned (.int .i64 (usAt cs ⟨r, p, nm, i, st, body⟩)) ∧ Below w.heap.size w w' := by
  have Hr := Lib.hid hr
  have Hz := Lib.hid hz
  have Hz8 := Lib.hid (shortCs_mono (B := 8000000) (by omega) hz)
  have Hf := Lib.hid hf
  have Hzf := Lib.hid hzf
  have Hkey := Lib.hid (sourceOf_file (fun c hc => okCmp_vn ((okStore_facts hs).1 c hc)) hok)
  obtain ⟨aa, ca, e, hlc, hm⟩ := hr.len
  simp only [Value.slice.injEq] at e
  obtain ⟨rfl, rfl, rfl⟩ := e
  obtain ⟨ab, cb, rfl⟩ := owns_shape hf
  clear hr hz hf hzf hs hok hm hlc
  have HB0 := Lib.hid (BoxC.start w #[.int .i64 r, .string (mk p), .string (mk nm), .bool i, .int .i64 st, .slice ab body.length cb] 55)
  have hpl : plVal (r, p, nm, i) = .agg #[.int .i64 r, .string (mk p), .string (mk nm), .bool i] := rfl
  have hcall : ∀ (W : World), Below (w.alloc (.cells #[.int .i64 r, .string (mk p), .string (mk nm), .bool i, .int .i64 st, .slice ab body.length cb] 55)).heap.size (w.alloc (.cells #[.int .i64 r, .string (mk p), .string (mk nm), .bool i, .int .i64 st, .slice ab body.length cb] 55)) W → Calls Try.prog 83 #[.slice a cs.length cap, plVal (r, p, nm, i)] W fun e w'' => e = .returned (.int .i64 (keyAt cplace cs (fplace ⟨r, p, nm, i, st, body⟩))) ∧ Below W.heap.size W w'' := fun W hW => by
    have h := impl_compiledAt _ cs D _ (place ⟨r, p, nm, i, st, body⟩) W rfl (Hr.out.below (bt (by (repeat (with_reducible first | exact Below.refl _ _ | assumption | refine ba ?_ _ | refine bd ?_ | refine bdN ?_ _ | refine bs ?_ (by first | exact Nat.le_refl _ | (dsimp only; omega) | (simp; done)) _ | refine bt ?_ (by assumption)))) hW)) Hz8.out
    rw [Hkey.out] at h
    exact h
  have Hcall := Lib.hid hcall
  clear hcall hpl
  have hrg := keyAt_is (key := cplace) cs (fplace ⟨r, p, nm, i, st, body⟩)
  have Hno := Lib.hid (usAt_none (cs := cs) (f := ⟨r, p, nm, i, st, body⟩))
  have Hbad := Lib.hid (fun k hk => usAt_bad (cs := cs) (f := ⟨r, p, nm, i, st, body⟩) (k := k) hk)
  have Hgood := Lib.hid (fun k hk => usAt_good (cs := cs) (f := ⟨r, p, nm, i, st, body⟩) (k := k) hk)
  obtain ⟨kk, hkk⟩ : ∃ kk, kk = keyAt cplace cs (fplace ⟨r, p, nm, i, st, body⟩) := ⟨_, rfl⟩
  rw [← hkk] at hrg Hno Hcall
  have Hbad2 := Lib.hid (fun (k : Nat) (hk : k < cs.length) (e : kk = (k : Int)) (hu : isUsable cs[k] ⟨r, p, nm, i, st, body⟩ = false) => Hbad.out k hk (hkk ▸ e) hu)
  have Hgood2 := Lib.hid (fun (k : Nat) (hk : k < cs.length) (e : kk = (k : Int)) (hu : isUsable cs[k] ⟨r, p, nm, i, st, body⟩ = true) => Hgood.out k hk (hkk ▸ e) hu)
  clear hkk Hbad Hgood
  obtain ⟨ans, hans⟩ : ∃ x, x = usAt cs ⟨r, p, nm, i, st, body⟩ := ⟨_, rfl⟩
  rw [← hans]
  have Hans := Lib.hid hans
  clear hans
  rcases hrg with ⟨rfl, _⟩ | ⟨k, hk, rfl, _, _⟩
  · have Hv := Lib.hid (show ans = -1 by rw [Hans.out]; exact Hno.out rfl)
    go_enter Try.func101, Try.ntmps101
    go_wp2_with (first
      | (go_at_call 91; refine (impl_placeOf _ _ _ _ _ _ _).mono ?_; rintro _ w5 ⟨rfl, hb5⟩)
      | (go_at_call 83; refine (Hcall.out _ (by (repeat (with_reducible first | exact Below.refl _ _ | assumption | refine ba ?_ _ | refine bd ?_ | refine bdN ?_ _ | refine bs ?_ (by first | exact Nat.le_refl _ | (dsimp only; omega) | (simp; done)) _ | refine bt ?_ (by assumption))))).mono ?_; rintro _ w6 ⟨rfl, hb6⟩; have hx := HB0.out.below (show Below _ _ w6 by (repeat (with_reducible first | exact Below.refl _ _ | assumption | refine ba ?_ _ | refine bd ?_ | refine bdN ?_ _ | refine bs ?_ (by first | exact Nat.le_refl _ | (dsimp only; omega) | (simp; done)) _ | refine bt ?_ (by assumption)))); have x0 : w6.cell? ⟨w.heap.size, 0, none⟩ = some (.int .i64 r) := hx.2 0))
    have Hb6 := Lib.hid (show Below (w.alloc (.cells #[.int .i64 r, .string (mk p), .string (mk nm), .bool i, .int .i64 st, .slice ab body.length cb] 55)).heap.size (w.alloc (.cells #[.int .i64 r, .string (mk p), .string (mk nm), .bool i, .int .i64 st, .slice ab body.length cb] 55)) w6 by (repeat (with_reducible first | exact Below.refl _ _ | assumption | refine ba ?_ _ | refine bd ?_ | refine bdN ?_ _ | refine bs ?_ (by first | exact Nat.le_refl _ | (dsimp only; omega) | (simp; done)) _ | refine bt ?_ (by assumption))))
    have H06 := Lib.hid (bt (show Below w.heap.size w (w.alloc (.cells #[.int .i64 r, .string (mk p), .string (mk nm), .bool i, .int .i64 st, .slice ab body.length cb] 55)) by (repeat (with_reducible first | exact Below.refl _ _ | assumption | refine ba ?_ _ | refine bd ?_ | refine bdN ?_ _ | refine bs ?_ (by first | exact Nat.le_refl _ | (dsimp only; omega) | (simp; done)) _ | refine bt ?_ (by assumption)))) Hb6.out)
    clear hb5 hb6
    have X6 := Lib.hid (HB0.out.below Hb6.out)
    clear x0 hx
    refine wp_region_quiet_below (by kernel_rfl) (by kernel_rfl) ?_
    repeat (go_big_quiet_step (fail))
    refine wpQuiet_nil ?_
    intro _ hw'
    obtain ⟨⟨dq, osq⟩, hw2⟩ := hw'
    subst hw2
    have Hb7 := Lib.hid (bt H06.out (below_regrown w6 dq osq))
    go_wp2_with fail
    go_ret
    rw [Hv.out]
    exact ⟨rfl, Hb7.out⟩
  · obtain ⟨b, off, cap', cv, e, hD, hb, hcb, c0, c1, c2, c3, c4, c5, c6, c7⟩ := Hr.out.at_ hk
    simp only [Value.slice.injEq] at e
    obtain ⟨rfl, _, rfl⟩ := e
    have hzc := Hz.out _ (List.getElem_mem hk)
    obtain ⟨c, hc⟩ : ∃ c, c = cs[k] := ⟨_, rfl⟩
    have hk1 : (k : Int) < (cs.length : Int) := by omega
    have hk0 : (0 : Int) ≤ (k : Int) := by omega
    have hkn : ((k : Int) == -1) = false := by rw [beq_eq_false_iff_ne]; omega
    have hkm : ((k : Int) = -1) = False := eq_false (by omega)
    obtain ⟨us, hus⟩ : ∃ u, u = isUsable cs[k] ⟨r, p, nm, i, st, body⟩ := ⟨_, rfl⟩
    have Hv := Lib.hid (show ans = if us then (k : Int) else -1 by
      rw [Hans.out]
      cases us
      · exact Hbad2.out k hk rfl hus.symm
      · exact Hgood2.out k hk rfl hus.symm)
    rw [← hc] at c0 c1 c2 c3 c4 c5 c6 hcb hzc hus
    clear hc Hbad2 Hgood2 Hno
    obtain ⟨x0, x1, x2, x3, x4, x5, x6, cb'⟩ := c
    dsimp only at c0 c1 c2 c3 c4 c5 c6 hcb
    have Hus := Lib.hid hus
    have Hcb := Lib.hid hcb
    have Hzc := Lib.hid hzc
    obtain ⟨cva, cvc, rfl, _, _⟩ := hcb.len
    clear hus hcb hzc
    go_enter Try.func101, Try.ntmps101
    go_wp2_with (first
      | (go_at_call 91; refine (impl_placeOf _ _ _ _ _ _ _).mono ?_; rintro _ w5 ⟨rfl, hb5⟩)
      | (go_at_call 83; refine (Hcall.out _ (by (repeat (with_reducible first | exact Below.refl _ _ | assumption | refine ba ?_ _ | refine bd ?_ | refine bdN ?_ _ | refine bs ?_ (by first | exact Nat.le_refl _ | (dsimp only; omega) | (simp; done)) _ | refine bt ?_ (by assumption))))).mono ?_; rintro _ w6 ⟨rfl, hb6⟩))
    have Hb6 := Lib.hid (show Below (w.alloc (.cells #[.int .i64 r, .string (mk p), .string (mk nm), .bool i, .int .i64 st, .slice ab body.length cb] 55)).heap.size (w.alloc (.cells #[.int .i64 r, .string (mk p), .string (mk nm), .bool i, .int .i64 st, .slice ab body.length cb] 55)) w6 by (repeat (with_reducible first | exact Below.refl _ _ | assumption | refine ba ?_ _ | refine bd ?_ | refine bdN ?_ _ | refine bs ?_ (by first | exact Nat.le_refl _ | (dsimp only; omega) | (simp; done)) _ | refine bt ?_ (by assumption))))
    have H06 := Lib.hid (bt (show Below w.heap.size w (w.alloc (.cells #[.int .i64 r, .string (mk p), .string (mk nm), .bool i, .int .i64 st, .slice ab body.length cb] 55)) by (repeat (with_reducible first | exact Below.refl _ _ | assumption | refine ba ?_ _ | refine bd ?_ | refine bdN ?_ _ | refine bs ?_ (by first | exact Nat.le_refl _ | (dsimp only; omega) | (simp; done)) _ | refine bt ?_ (by assumption)))) Hb6.out)
    clear hb5 hb6
    have X6 := Lib.hid (HB0.out.below Hb6.out)
    have j0 := cell_regrown (show w6.cell? ⟨w.heap.size, 0, none⟩ = some (.int .i64 r) from X6.out.2 0)
    have j1 := cell_regrown (show w6.cell? ⟨w.heap.size, 1, none⟩ = some (.string (mk p)) from X6.out.2 1)
    have j2 := cell_regrown (show w6.cell? ⟨w.heap.size, 2, none⟩ = some (.string (mk nm)) from X6.out.2 2)
    have j3 := cell_regrown (show w6.cell? ⟨w.heap.size, 3, none⟩ = some (.bool i) from X6.out.2 3)
    have j4 := cell_regrown (show w6.cell? ⟨w.heap.size, 4, none⟩ = some (.int .i64 st) from X6.out.2 4)
    have j5 := cell_regrown (show w6.cell? ⟨w.heap.size, 5, none⟩ = some (.slice ab body.length cb) from X6.out.2 5)
    have k0 := cell_regrown ((H06.out.cell (p := ⟨b, off + k * 8, none⟩) hb).trans c0)
    have k1 := cell_regrown ((H06.out.cell (p := ⟨b, off + k * 8 + 1, none⟩) hb).trans c1)
    have k2 := cell_regrown ((H06.out.cell (p := ⟨b, off + k * 8 + 2, none⟩) hb).trans c2)
    have k3 := cell_regrown ((H06.out.cell (p := ⟨b, off + k * 8 + 3, none⟩) hb).trans c3)
    have k4 := cell_regrown ((H06.out.cell (p := ⟨b, off + k * 8 + 4, none⟩) hb).trans c4)
    have k5 := cell_regrown ((H06.out.cell (p := ⟨b, off + k * 8 + 5, none⟩) hb).trans c5)
    have k6 := cell_regrown ((H06.out.cell (p := ⟨b, off + k * 8 + 6, none⟩) hb).trans c6)
    have k7 := cell_regrown ((H06.out.cell (p := ⟨b, off + k * 8 + 7, none⟩) hb).trans c7)
    have cU : ∀ d os, Calls Try.prog 34 #[.agg #[.int .i64 x0, .string (mk x1), .bool x2, .int .i64 x3, .int .i64 x4, .int .i64 x5, .int .i64 x6, .slice cva cb'.length cvc], .agg #[.int .i64 r, .string (mk p), .string (mk nm), .bool i, .int .i64 st, .slice ab body.length cb]] (grow (redrawn w6 d) os) fun e w'' => e = .returned (.bool us) ∧ ∃ p : Regrown, w'' = grow (redrawn w6 p.d) p.os := fun d os =>
      Calls.regrown_of (by rw [Hus.out]; exact impl_IsUsable x0 x1 x2 x3 x4 x5 x6 _ cb' r st p nm i _ body D B _ (Hcb.out.below (bt H06.out (below_regrown w6 d os))) (owns_below Hf.out (bt H06.out (below_regrown w6 d os))) Hzc.out Hzf.out hl)
    clear c0 c1 c2 c3 c4 c5 c6 c7
    cases us
    all_goals
      refine wp_region_quiet_below (by kernel_rfl) (by kernel_rfl) ?_
      repeat (go_big_quiet_step (exact cU _ _))
      refine wpQuiet_nil ?_
      intro _ hw'
      obtain ⟨⟨dq, osq⟩, hw2⟩ := hw'
      subst hw2
      have Hb7 := Lib.hid (bt H06.out (below_regrown w6 dq osq))
      clear cU j0 j1 j2 j3 j4 j5 k0 k1 k2 k3 k4 k5 k6 k7
      go_wp2_with fail
      go_ret
      rw [Hv.out]
      exact ⟨rfl, Hb7.out⟩
end Go.Proofs.Ytomdmkhgkaalnaa
