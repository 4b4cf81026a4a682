/- FnCompileFile returns true for every code. -/
import Derived.Test.YtebfafefeajemaaDrawC
import Derived.Test.YtebfafefeajemaaSUsable
import Derived.Test.YtebfafefeajemaaEqCmp
import Derived.Test.YtebfafefeajemaaStores2
import Derived.Test.YtebfafefeajemaaFrame
import Derived.Deep.RegionHeld3
set_option linter.unusedVariables false
set_option linter.unusedSimpArgs false
namespace Go.Proofs.Ytebfafefeajemaa.FnCompileFile
open Go.Sort Go.ChangeShapes Go.WideShapes Go.ChangeAt Go.RowKit Go.Proofs.Ytebfafefeajemaa.Nm

theorem cmps_oneL (c : Cmp) (bv : Value) (W : World) {D : Nat → Prop} (h : StmsIn W D bv c.body) : CmpsIn (W.alloc (.cells #[.int .i64 c.root, .string (mk c.module), .bool c.init, .int .i64 c.mode, .int .i64 c.stamp, .int .i64 c.size, .int .i64 c.hash, bv] 28)) (fun _ => True) (.slice (some ⟨W.heap.size, 0, none⟩) 1 1) [c] := by
  have h1 := World.ownsRow_lit (base := 0) (size := 8) (e := 28) W (cmpCells (c, bv)).toArray 1 (Nat.zero_le _) (by unfold maxLen; omega) rfl
  exact CmpsIn.of_owns (B := 0) (ps := [(c, bv)]) (by simpa [cmpCells] using h1) (fun _ _ => trivial) (fun q hq => by simp at hq; subst hq; exact (h.below (ba (Below.refl _ _) _)).mono (fun _ _ _ => trivial))
/-- What is compiled of a valid file is valid, and can be used for it. -/
theorem compiled_ok {f : Fil} {mode : Int} (h1 : okFil f = true) (h2 : inr mode 0 2 = true) : okCmp (compiled f mode) = true ∧ isUsable (compiled f mode) f = true ∧ (compiled f mode).module ≠ [] := by
  have hb := okFil_body h1
  have hv := (okFil_mod h1).2
  have h1' := h1
  unfold okFil at h1'
  simp only [Bool.and_eq_true] at h1'
  obtain ⟨⟨⟨⟨a1, a2⟩, a3⟩, a4⟩, a5⟩ := h1'
  have hok : okCmp (compiled f mode) = true := by
    unfold okCmp compiled
    simp only [Bool.and_eq_true, decide_eq_true_eq]
    exact ⟨⟨⟨⟨⟨⟨by assumption, hv⟩, h2⟩, by assumption⟩, hb⟩, trivial⟩, trivial⟩
  refine ⟨hok, ?_, ?_⟩
  · unfold isUsable
    rw [hok, h1]
    have e : cplace (compiled f mode) = fplace f := rfl
    have u : usable (compiled f mode) f = true := by unfold usable compiled; split <;> (try split) <;> simp
    simp [e, u]
  · intro e
    have : (compiled f mode).module = modName f := rfl
    rw [this] at e
    rw [e] at hv
    simp [vn_nil] at hv
set_option maxRecDepth 100000 in
set_option maxHeartbeats 4000000 in
theorem walk (a : Option Addr) (n cap : Nat) (w : World) (hc : Code w w.heap.size a n cap) :
    Calls Try.prog 9 #[.slice a n cap] w fun e w' => e = .returned (.bool true) ∧ Below w.heap.size w w' := by
  by_cases hn : (1048576 : Int) < (n : Int)
  · go_enter Try.func9, Try.ntmps9
    go_wp2_with fail
    go_ret
    exact ⟨rfl, Below.refl _ _⟩
  have Hc := Lib.hid hc
  clear hc
  go_enter Try.func9, Try.ntmps9
  go_wp2_with fail
  refine (spec_DrawCompileFile a n cap w Hc.out).mono ?_
  rintro e w1 ⟨⟨fr, fp, fn, fi, fst, fb⟩, bv, md, rfl, hown, hz, hl4, hb1⟩
  unfold filV
  dsimp only at hown hl4 ⊢
  obtain ⟨va, vc, rfl⟩ := owns_shape hown
  have Hz := Lib.hid (show ShortF 1048576 ⟨fr, fp, fn, fi, fst, fb⟩ from shortF_mono (by omega) hz)
  have Hz8 := Lib.hid (short_mono (B := 8000000) (by omega) hz.2.2)
  have Hr := Lib.hid (show StmsIn w1 (fun _ => True) (.slice va fb.length vc) fb from StmsIn.of_owns hown (fun _ _ => trivial))
  have Ho := Lib.hid (owns_mono hown (Nat.zero_le _))
  have Hb1 := Lib.hid hb1
  have hzz1 : fp.length ≤ 8 := hz.1
  have hzz2 : fn.length ≤ 8 := hz.2.1
  clear hown hz hb1
  obtain ⟨W1, hW1⟩ : ∃ W1, W1 = w1.alloc (.cells #[.int .i64 fr, .string (mk fp), .string (mk fn), .bool fi, .int .i64 fst, .slice va fb.length vc] 31) := ⟨_, rfl⟩
  have HbW := Lib.hid (show Below w1.heap.size w1 W1 by rw [hW1]; (repeat (with_reducible first | exact Below.refl _ _ | assumption | refine ba ?_ _ | refine bd ?_ | refine bdN ?_ _ | refine bs ?_ (by first | exact Nat.le_refl _ | (dsimp only; omega) | (simp; done)) _ | refine bt ?_ (by assumption))))
  have X1 := Lib.hid (show BoxC W1 w1.heap.size #[.int .i64 fr, .string (mk fp), .string (mk fn), .bool fi, .int .i64 fst, .slice va fb.length vc] by rw [hW1]; exact BoxC.start w1 _ _)
  have HWe := Lib.hid hW1
  clear hW1
  have q0 : W1.cell? ⟨w1.heap.size, 0, none⟩ = some (.int .i64 fr) := X1.out.2 0
  have q1 : W1.cell? ⟨w1.heap.size, 1, none⟩ = some (.string (mk fp)) := X1.out.2 1
  have q2 : W1.cell? ⟨w1.heap.size, 2, none⟩ = some (.string (mk fn)) := X1.out.2 2
  have q3 : W1.cell? ⟨w1.heap.size, 3, none⟩ = some (.bool fi) := X1.out.2 3
  have q4 : W1.cell? ⟨w1.heap.size, 4, none⟩ = some (.int .i64 fst) := X1.out.2 4
  have q5 : W1.cell? ⟨w1.heap.size, 5, none⟩ = some (.slice va fb.length vc) := X1.out.2 5
  go_upto_region 4 with fail
  rw [← HWe.out]
  go_wp2_with fail
  refine (impl_CompileFile fr fst fp fn fi _ fb md 0 _ (owns_below Ho.out HbW.out) Hz.out (by omega)).mono ?_
  rintro _ w2 ⟨v2, rfl, hown2, hb2⟩
  obtain ⟨c, hcd⟩ : ∃ c, c = compile ⟨fr, fp, fn, fi, fst, fb⟩ md := ⟨_, rfl⟩
  rw [← hcd] at hown2 ⊢
  have Hcd := Lib.hid hcd
  have hcl : c.body.length ≤ 4 := by rw [hcd]; unfold compile; split; exact hl4; simp [noCmp]
  have Hcz := Lib.hid (show ShortC 1048576 c by
    rw [hcd]; unfold compile; split
    · have h1 := modName_len ⟨fr, fp, fn, fi, fst, fb⟩
      have h2 := Hz.out
      exact ⟨by dsimp only at h1; show (modName _).length ≤ _; omega, h2.2.2⟩
    · exact ⟨by simp [noCmp], fun s hs => by cases hs⟩)
  obtain ⟨x0, x1, x2, x3, x4, x5, x6, cb⟩ := c
  dsimp only at hown2 hcl ⊢
  obtain ⟨ca, cc, rfl⟩ := owns_shape hown2
  have Hcr := Lib.hid (show StmsIn w2 (fun _ => True) (.slice ca cb.length cc) cb from StmsIn.of_owns hown2 (fun _ _ => trivial))
  have X2 := Lib.hid (X1.out.below hb2)
  have Hb2 := Lib.hid hb2
  clear hown2 hb2 q0 q1 q2 q3 q4 q5 hcd
  obtain ⟨W2, hW2⟩ : ∃ W2, W2 = w2.alloc (.cells #[.int .i64 x0, .string (mk x1), .bool x2, .int .i64 x3, .int .i64 x4, .int .i64 x5, .int .i64 x6, .slice ca cb.length cc] 28) := ⟨_, rfl⟩
  have HbV := Lib.hid (show Below w2.heap.size w2 W2 by rw [hW2]; (repeat (with_reducible first | exact Below.refl _ _ | assumption | refine ba ?_ _ | refine bd ?_ | refine bdN ?_ _ | refine bs ?_ (by first | exact Nat.le_refl _ | (dsimp only; omega) | (simp; done)) _ | refine bt ?_ (by assumption))))
  have Y2 := Lib.hid (show BoxC W2 w2.heap.size #[.int .i64 x0, .string (mk x1), .bool x2, .int .i64 x3, .int .i64 x4, .int .i64 x5, .int .i64 x6, .slice ca cb.length cc] by rw [hW2]; exact BoxC.start w2 _ _)
  have X3 := Lib.hid (X2.out.below HbV.out)
  have H12 := Lib.hid (show Below w1.heap.size w1 W2 from bt HbW.out (bt Hb2.out HbV.out))
  have HWe2 := Lib.hid hW2
  clear hW2
  have Hk := Lib.hid (fun (w' : World) (hB : Below W2.heap.size W2 w') => (have h0 := Y2.out.below hB; have h1 := X3.out.below hB; ⟨h0.2 0, h0.2 1, h0.2 2, h0.2 3, h0.2 4, h0.2 5, h0.2 6, h0.2 7, h1.2 0, h1.2 1, h1.2 2, h1.2 3, h1.2 4, h1.2 5⟩ : w'.cell? ⟨w2.heap.size, 0, none⟩ = some (.int .i64 x0) ∧ w'.cell? ⟨w2.heap.size, 1, none⟩ = some (.string (mk x1)) ∧ w'.cell? ⟨w2.heap.size, 2, none⟩ = some (.bool x2) ∧ w'.cell? ⟨w2.heap.size, 3, none⟩ = some (.int .i64 x3) ∧ w'.cell? ⟨w2.heap.size, 4, none⟩ = some (.int .i64 x4) ∧ w'.cell? ⟨w2.heap.size, 5, none⟩ = some (.int .i64 x5) ∧ w'.cell? ⟨w2.heap.size, 6, none⟩ = some (.int .i64 x6) ∧ w'.cell? ⟨w2.heap.size, 7, none⟩ = some (.slice ca cb.length cc) ∧ w'.cell? ⟨w1.heap.size, 0, none⟩ = some (.int .i64 fr) ∧ w'.cell? ⟨w1.heap.size, 1, none⟩ = some (.string (mk fp)) ∧ w'.cell? ⟨w1.heap.size, 2, none⟩ = some (.string (mk fn)) ∧ w'.cell? ⟨w1.heap.size, 3, none⟩ = some (.bool fi) ∧ w'.cell? ⟨w1.heap.size, 4, none⟩ = some (.int .i64 fst) ∧ w'.cell? ⟨w1.heap.size, 5, none⟩ = some (.slice va fb.length vc)))
  have hBB0 : Below W2.heap.size W2 W2 := Below.refl _ _
  obtain ⟨a0, a1, a2, a3, a4, a5, a6, a7, d0, d1, d2, d3, d4, d5⟩ := Hk.out W2 hBB0
  go_upto_region 5 with fail
  rw [← HWe2.out]
  cases h1 : (okFil ⟨fr, fp, fn, fi, fst, fb⟩ && inr md 0 2)
  · have Hno := Lib.hid (show (⟨x0, x1, x2, x3, x4, x5, x6, cb⟩ : Cmp) = noCmp by rw [Hcd.out, compile_no h1])
    have hx1 : x1 = [] := by have := Hno.out; injection this
    have hx1b : (x1 == []) = true := by rw [hx1]; rfl
    have hx1c : x1.isEmpty = true := by rw [hx1]; rfl
    clear h1 hx1
    go_region_held3 (fun w' => w'.cell? ⟨w2.heap.size, 0, none⟩ = some (.int .i64 x0) ∧ w'.cell? ⟨w2.heap.size, 1, none⟩ = some (.string (mk x1)) ∧ w'.cell? ⟨w2.heap.size, 2, none⟩ = some (.bool x2) ∧ w'.cell? ⟨w2.heap.size, 3, none⟩ = some (.int .i64 x3) ∧ w'.cell? ⟨w2.heap.size, 4, none⟩ = some (.int .i64 x4) ∧ w'.cell? ⟨w2.heap.size, 5, none⟩ = some (.int .i64 x5) ∧ w'.cell? ⟨w2.heap.size, 6, none⟩ = some (.int .i64 x6) ∧ w'.cell? ⟨w2.heap.size, 7, none⟩ = some (.slice ca cb.length cc) ∧ w'.cell? ⟨w1.heap.size, 0, none⟩ = some (.int .i64 fr) ∧ w'.cell? ⟨w1.heap.size, 1, none⟩ = some (.string (mk fp)) ∧ w'.cell? ⟨w1.heap.size, 2, none⟩ = some (.string (mk fn)) ∧ w'.cell? ⟨w1.heap.size, 3, none⟩ = some (.bool fi) ∧ w'.cell? ⟨w1.heap.size, 4, none⟩ = some (.int .i64 fst) ∧ w'.cell? ⟨w1.heap.size, 5, none⟩ = some (.slice va fb.length vc))
      (first | (refine Hk.out _ ?_; (repeat (with_reducible first | exact Below.refl _ _ | assumption | refine ba ?_ _ | refine bd ?_ | refine bdN ?_ _ | refine bs ?_ (by first | exact Nat.le_refl _ | (dsimp only; omega) | (simp; done)) _ | refine bt ?_ (by assumption))); done))
      (first
        | (go_at_call 15; refine (spec_CompileFile fr fst fp fn fi _ fb md 0 _ (owns_below Ho.out (bt H12.out (show Below W2.heap.size W2 _ by (repeat (with_reducible first | exact Below.refl _ _ | assumption | refine ba ?_ _ | refine bd ?_ | refine bdN ?_ _ | refine bs ?_ (by first | exact Nat.le_refl _ | (dsimp only; omega) | (simp; done)) _ | refine bt ?_ (by assumption)))))) Hz.out (by omega)).mono ?_; rintro _ w5 ⟨v5, rfl, hown5, hb5⟩; rw [← Hcd.out] at hown5 ⊢; dsimp only at hown5 ⊢; obtain ⟨ua5, uc5, rfl⟩ := owns_shape hown5; have S5 := Lib.hid (show StmsIn w5 (fun _ => True) (.slice ua5 cb.length uc5) cb from StmsIn.of_owns hown5 (fun _ _ => trivial)); have hBB5 : Below W2.heap.size W2 w5 := (by (repeat (with_reducible first | exact Below.refl _ _ | assumption | refine ba ?_ _ | refine bd ?_ | refine bdN ?_ _ | refine bs ?_ (by first | exact Nat.le_refl _ | (dsimp only; omega) | (simp; done)) _ | refine bt ?_ (by assumption)))); clear hown5)
        | (go_at_call 51; refine (laws_equalCompiled x0 x1 x2 x3 x4 x5 x6 _ _ cb (fun _ => True) (fun _ => True) _ (Hcr.out.below (bt HbV.out (show Below W2.heap.size W2 _ by (repeat (with_reducible first | exact Below.refl _ _ | assumption | refine ba ?_ _ | refine bd ?_ | refine bdN ?_ _ | refine bs ?_ (by first | exact Nat.le_refl _ | (dsimp only; omega) | (simp; done)) _ | refine bt ?_ (by assumption)))))) (S5.out.below (by (repeat (with_reducible first | exact Below.refl _ _ | assumption | refine ba ?_ _ | refine bd ?_ | refine bdN ?_ _ | refine bs ?_ (by first | exact Nat.le_refl _ | (dsimp only; omega) | (simp; done)) _ | refine bt ?_ (by assumption)))))).mono ?_; rintro _ w6 ⟨rfl, hb6⟩; have hBB6 : Below W2.heap.size W2 w6 := (by (repeat (with_reducible first | exact Below.refl _ _ | assumption | refine ba ?_ _ | refine bd ?_ | refine bdN ?_ _ | refine bs ?_ (by first | exact Nat.le_refl _ | (dsimp only; omega) | (simp; done)) _ | refine bt ?_ (by assumption))))))
    clear a0 a1 a2 a3 a4 a5 a6 a7 d0 d1 d2 d3 d4 d5 hb5 hb6
    obtain ⟨a0, a1, a2, a3, a4, a5, a6, a7, d0, d1, d2, d3, d4, d5⟩ := Hk.out w6 hBB6
    have Hk6 := Lib.hid hBB6
    go_wp2_with fail
    go_region_held3 (fun w' => w'.cell? ⟨w2.heap.size, 0, none⟩ = some (.int .i64 x0) ∧ w'.cell? ⟨w2.heap.size, 1, none⟩ = some (.string (mk x1)) ∧ w'.cell? ⟨w2.heap.size, 2, none⟩ = some (.bool x2) ∧ w'.cell? ⟨w2.heap.size, 3, none⟩ = some (.int .i64 x3) ∧ w'.cell? ⟨w2.heap.size, 4, none⟩ = some (.int .i64 x4) ∧ w'.cell? ⟨w2.heap.size, 5, none⟩ = some (.int .i64 x5) ∧ w'.cell? ⟨w2.heap.size, 6, none⟩ = some (.int .i64 x6) ∧ w'.cell? ⟨w2.heap.size, 7, none⟩ = some (.slice ca cb.length cc) ∧ w'.cell? ⟨w1.heap.size, 0, none⟩ = some (.int .i64 fr) ∧ w'.cell? ⟨w1.heap.size, 1, none⟩ = some (.string (mk fp)) ∧ w'.cell? ⟨w1.heap.size, 2, none⟩ = some (.string (mk fn)) ∧ w'.cell? ⟨w1.heap.size, 3, none⟩ = some (.bool fi) ∧ w'.cell? ⟨w1.heap.size, 4, none⟩ = some (.int .i64 fst) ∧ w'.cell? ⟨w1.heap.size, 5, none⟩ = some (.slice va fb.length vc))
      (first | (refine Hk.out _ ?_; (repeat (with_reducible first | exact Below.refl _ _ | assumption | refine ba ?_ _ | refine bd ?_ | refine bdN ?_ _ | refine bs ?_ (by first | exact Nat.le_refl _ | (dsimp only; omega) | (simp; done)) _ | refine bt ?_ (by assumption))); done))
      (first
        | (go_at_call 15; refine (spec_CompileFile fr fst fp fn fi _ fb md 0 _ (owns_below Ho.out (bt H12.out (show Below W2.heap.size W2 _ by (repeat (with_reducible first | exact Below.refl _ _ | assumption | refine ba ?_ _ | refine bd ?_ | refine bdN ?_ _ | refine bs ?_ (by first | exact Nat.le_refl _ | (dsimp only; omega) | (simp; done)) _ | refine bt ?_ (by assumption)))))) Hz.out (by omega)).mono ?_; rintro _ w15 ⟨v15, rfl, hown15, hb15⟩; rw [← Hcd.out] at hown15 ⊢; dsimp only at hown15 ⊢; obtain ⟨ua15, uc15, rfl⟩ := owns_shape hown15; have S15 := Lib.hid (show StmsIn w15 (fun _ => True) (.slice ua15 cb.length uc15) cb from StmsIn.of_owns hown15 (fun _ _ => trivial)); have hBB15 : Below W2.heap.size W2 w15 := (by (repeat (with_reducible first | exact Below.refl _ _ | assumption | refine ba ?_ _ | refine bd ?_ | refine bdN ?_ _ | refine bs ?_ (by first | exact Nat.le_refl _ | (dsimp only; omega) | (simp; done)) _ | refine bt ?_ (by assumption)))); clear hown15)
        | (go_at_call 51; refine (laws_equalCompiled x0 x1 x2 x3 x4 x5 x6 _ _ cb (fun _ => True) (fun _ => True) _ (Hcr.out.below (bt HbV.out (show Below W2.heap.size W2 _ by (repeat (with_reducible first | exact Below.refl _ _ | assumption | refine ba ?_ _ | refine bd ?_ | refine bdN ?_ _ | refine bs ?_ (by first | exact Nat.le_refl _ | (dsimp only; omega) | (simp; done)) _ | refine bt ?_ (by assumption)))))) (S15.out.below (by (repeat (with_reducible first | exact Below.refl _ _ | assumption | refine ba ?_ _ | refine bd ?_ | refine bdN ?_ _ | refine bs ?_ (by first | exact Nat.le_refl _ | (dsimp only; omega) | (simp; done)) _ | refine bt ?_ (by assumption)))))).mono ?_; rintro _ w16 ⟨rfl, hb16⟩; have hBB16 : Below W2.heap.size W2 w16 := (by (repeat (with_reducible first | exact Below.refl _ _ | assumption | refine ba ?_ _ | refine bd ?_ | refine bdN ?_ _ | refine bs ?_ (by first | exact Nat.le_refl _ | (dsimp only; omega) | (simp; done)) _ | refine bt ?_ (by assumption))))))
    go_wp2_with fail
    go_ret
    exact ⟨rfl, bt Hb1.out (bt H12.out (by (repeat (with_reducible first | exact Below.refl _ _ | assumption | refine ba ?_ _ | refine bd ?_ | refine bdN ?_ _ | refine bs ?_ (by first | exact Nat.le_refl _ | (dsimp only; omega) | (simp; done)) _ | refine bt ?_ (by assumption)))))⟩
  · obtain ⟨hf1, hm1⟩ : okFil ⟨fr, fp, fn, fi, fst, fb⟩ = true ∧ inr md 0 2 = true := by simpa using h1
    obtain ⟨hk1, hk2, hk3⟩ := compiled_ok hf1 hm1
    have he : (⟨x0, x1, x2, x3, x4, x5, x6, cb⟩ : Cmp) = compiled ⟨fr, fp, fn, fi, fst, fb⟩ md := by rw [Hcd.out, compile_yes hf1 hm1]
    rw [← he] at hk1 hk2 hk3
    have Hbody := Lib.hid (show okBody fb = true from okFil_body hf1)
    have Hok1 := Lib.hid (show okStore [⟨x0, x1, x2, x3, x4, x5, x6, cb⟩] = true by rw [okStore_one]; exact hk1)
    have Hus := Lib.hid hk2
    have Hx5 := Lib.hid (show x5 = (sizeSum fb : Nat) by have := congrArg Cmp.size he; exact this)
    have Hx6 := Lib.hid (show x6 = hashOf fb by have := congrArg Cmp.hash he; exact this)
    have Hcb := Lib.hid (show cb = fb by have := congrArg Cmp.body he; exact this)
    have hx1b : (x1 == []) = false := by simpa using hk3
    have hx1c : x1.isEmpty = false := by simpa using hk3
    have Hzs := Lib.hid (show ShortCs 2000000 [⟨x0, x1, x2, x3, x4, x5, x6, cb⟩] from fun c hc => by simp at hc; subst hc; exact shortC_mono (by omega) Hcz.out)
    clear h1 hf1 hm1 hk1 hk2 hk3 he
    go_region_held3 (fun w' => w'.cell? ⟨w2.heap.size, 0, none⟩ = some (.int .i64 x0) ∧ w'.cell? ⟨w2.heap.size, 1, none⟩ = some (.string (mk x1)) ∧ w'.cell? ⟨w2.heap.size, 2, none⟩ = some (.bool x2) ∧ w'.cell? ⟨w2.heap.size, 3, none⟩ = some (.int .i64 x3) ∧ w'.cell? ⟨w2.heap.size, 4, none⟩ = some (.int .i64 x4) ∧ w'.cell? ⟨w2.heap.size, 5, none⟩ = some (.int .i64 x5) ∧ w'.cell? ⟨w2.heap.size, 6, none⟩ = some (.int .i64 x6) ∧ w'.cell? ⟨w2.heap.size, 7, none⟩ = some (.slice ca cb.length cc) ∧ w'.cell? ⟨w1.heap.size, 0, none⟩ = some (.int .i64 fr) ∧ w'.cell? ⟨w1.heap.size, 1, none⟩ = some (.string (mk fp)) ∧ w'.cell? ⟨w1.heap.size, 2, none⟩ = some (.string (mk fn)) ∧ w'.cell? ⟨w1.heap.size, 3, none⟩ = some (.bool fi) ∧ w'.cell? ⟨w1.heap.size, 4, none⟩ = some (.int .i64 fst) ∧ w'.cell? ⟨w1.heap.size, 5, none⟩ = some (.slice va fb.length vc))
      (first | (refine Hk.out _ ?_; (repeat (with_reducible first | exact Below.refl _ _ | assumption | refine ba ?_ _ | refine bd ?_ | refine bdN ?_ _ | refine bs ?_ (by first | exact Nat.le_refl _ | (dsimp only; omega) | (simp; done)) _ | refine bt ?_ (by assumption))); done))
      (first
        | (go_at_call 15; refine (spec_CompileFile fr fst fp fn fi _ fb md 0 _ (owns_below Ho.out (bt H12.out (show Below W2.heap.size W2 _ by (repeat (with_reducible first | exact Below.refl _ _ | assumption | refine ba ?_ _ | refine bd ?_ | refine bdN ?_ _ | refine bs ?_ (by first | exact Nat.le_refl _ | (dsimp only; omega) | (simp; done)) _ | refine bt ?_ (by assumption)))))) Hz.out (by omega)).mono ?_; rintro _ w5 ⟨v5, rfl, hown5, hb5⟩; rw [← Hcd.out] at hown5 ⊢; dsimp only at hown5 ⊢; obtain ⟨ua5, uc5, rfl⟩ := owns_shape hown5; have S5 := Lib.hid (show StmsIn w5 (fun _ => True) (.slice ua5 cb.length uc5) cb from StmsIn.of_owns hown5 (fun _ _ => trivial)); have hBB5 : Below W2.heap.size W2 w5 := (by (repeat (with_reducible first | exact Below.refl _ _ | assumption | refine ba ?_ _ | refine bd ?_ | refine bdN ?_ _ | refine bs ?_ (by first | exact Nat.le_refl _ | (dsimp only; omega) | (simp; done)) _ | refine bt ?_ (by assumption)))); clear hown5)
        | (go_at_call 51; refine (laws_equalCompiled x0 x1 x2 x3 x4 x5 x6 _ _ cb (fun _ => True) (fun _ => True) _ (Hcr.out.below (bt HbV.out (show Below W2.heap.size W2 _ by (repeat (with_reducible first | exact Below.refl _ _ | assumption | refine ba ?_ _ | refine bd ?_ | refine bdN ?_ _ | refine bs ?_ (by first | exact Nat.le_refl _ | (dsimp only; omega) | (simp; done)) _ | refine bt ?_ (by assumption)))))) (S5.out.below (by (repeat (with_reducible first | exact Below.refl _ _ | assumption | refine ba ?_ _ | refine bd ?_ | refine bdN ?_ _ | refine bs ?_ (by first | exact Nat.le_refl _ | (dsimp only; omega) | (simp; done)) _ | refine bt ?_ (by assumption)))))).mono ?_; rintro _ w6 ⟨rfl, hb6⟩; have hBB6 : Below W2.heap.size W2 w6 := (by (repeat (with_reducible first | exact Below.refl _ _ | assumption | refine ba ?_ _ | refine bd ?_ | refine bdN ?_ _ | refine bs ?_ (by first | exact Nat.le_refl _ | (dsimp only; omega) | (simp; done)) _ | refine bt ?_ (by assumption))))))
    clear a0 a1 a2 a3 a4 a5 a6 a7 d0 d1 d2 d3 d4 d5 hb5 hb6
    obtain ⟨a0, a1, a2, a3, a4, a5, a6, a7, d0, d1, d2, d3, d4, d5⟩ := Hk.out w6 hBB6
    have Hk6 := Lib.hid hBB6
    have hx6b : (x6 == hashOf fb) = true := by rw [Hx6.out]; simp
    have hx5b : (x5 == bodySize fb) = true := by rw [Hx5.out, size_eq Hbody.out]; simp
    go_wp2_with fail
    go_region_held3 (fun w' => w'.cell? ⟨w2.heap.size, 0, none⟩ = some (.int .i64 x0) ∧ w'.cell? ⟨w2.heap.size, 1, none⟩ = some (.string (mk x1)) ∧ w'.cell? ⟨w2.heap.size, 2, none⟩ = some (.bool x2) ∧ w'.cell? ⟨w2.heap.size, 3, none⟩ = some (.int .i64 x3) ∧ w'.cell? ⟨w2.heap.size, 4, none⟩ = some (.int .i64 x4) ∧ w'.cell? ⟨w2.heap.size, 5, none⟩ = some (.int .i64 x5) ∧ w'.cell? ⟨w2.heap.size, 6, none⟩ = some (.int .i64 x6) ∧ w'.cell? ⟨w2.heap.size, 7, none⟩ = some (.slice ca cb.length cc) ∧ w'.cell? ⟨w1.heap.size, 0, none⟩ = some (.int .i64 fr) ∧ w'.cell? ⟨w1.heap.size, 1, none⟩ = some (.string (mk fp)) ∧ w'.cell? ⟨w1.heap.size, 2, none⟩ = some (.string (mk fn)) ∧ w'.cell? ⟨w1.heap.size, 3, none⟩ = some (.bool fi) ∧ w'.cell? ⟨w1.heap.size, 4, none⟩ = some (.int .i64 fst) ∧ w'.cell? ⟨w1.heap.size, 5, none⟩ = some (.slice va fb.length vc))
      (first | (refine Hk.out _ ?_; (repeat (with_reducible first | exact Below.refl _ _ | assumption | refine ba ?_ _ | refine bd ?_ | refine bdN ?_ _ | refine bs ?_ (by first | exact Nat.le_refl _ | (dsimp only; omega) | (simp; done)) _ | refine bt ?_ (by assumption))); done))
      (first
        | (go_at_call 26; refine (impl_IsUsable x0 x1 x2 x3 x4 x5 x6 _ cb fr fst fp fn fi _ fb (fun _ => True) 0 _ (Hcr.out.below (bt HbV.out (show Below W2.heap.size W2 _ by (repeat (with_reducible first | exact Below.refl _ _ | assumption | refine ba ?_ _ | refine bd ?_ | refine bdN ?_ _ | refine bs ?_ (by first | exact Nat.le_refl _ | (dsimp only; omega) | (simp; done)) _ | refine bt ?_ (by assumption)))))) (owns_below Ho.out (bt H12.out (show Below W2.heap.size W2 _ by (repeat (with_reducible first | exact Below.refl _ _ | assumption | refine ba ?_ _ | refine bd ?_ | refine bdN ?_ _ | refine bs ?_ (by first | exact Nat.le_refl _ | (dsimp only; omega) | (simp; done)) _ | refine bt ?_ (by assumption)))))) Hcz.out Hz.out (by omega)).mono ?_; rintro _ w7 ⟨rfl, hb7⟩; rw [Hus.out]; have hBB7 : Below W2.heap.size W2 w7 := (by (repeat (with_reducible first | exact Below.refl _ _ | assumption | refine ba ?_ _ | refine bd ?_ | refine bdN ?_ _ | refine bs ?_ (by first | exact Nat.le_refl _ | (dsimp only; omega) | (simp; done)) _ | refine bt ?_ (by assumption)))))
        | (go_at_call 52; refine (impl_ValidStore _ [⟨x0, x1, x2, x3, x4, x5, x6, cb⟩] (fun _ => True) _ ((cmps_oneL ⟨x0, x1, x2, x3, x4, x5, x6, cb⟩ _ w7 (Hcr.out.below (bt HbV.out (show Below W2.heap.size W2 w7 by (repeat (with_reducible first | exact Below.refl _ _ | assumption | refine ba ?_ _ | refine bd ?_ | refine bdN ?_ _ | refine bs ?_ (by first | exact Nat.le_refl _ | (dsimp only; omega) | (simp; done)) _ | refine bt ?_ (by assumption))))))).below (by (repeat (with_reducible first | exact Below.refl _ _ | assumption | refine ba ?_ _ | refine bd ?_ | refine bdN ?_ _ | refine bs ?_ (by first | exact Nat.le_refl _ | (dsimp only; omega) | (simp; done)) _ | refine bt ?_ (by assumption))))) Hzs.out).mono ?_; rintro _ w8 ⟨rfl, hb8⟩; rw [Hok1.out]; have hBB8 : Below W2.heap.size W2 w8 := (by (repeat (with_reducible first | exact Below.refl _ _ | assumption | refine ba ?_ _ | refine bd ?_ | refine bdN ?_ _ | refine bs ?_ (by first | exact Nat.le_refl _ | (dsimp only; omega) | (simp; done)) _ | refine bt ?_ (by assumption)))))
        | (go_at_call 53; refine (laws_equalBody _ _ cb fb (fun _ => True) (fun _ => True) _ (Hcr.out.below (bt HbV.out (show Below W2.heap.size W2 _ by (repeat (with_reducible first | exact Below.refl _ _ | assumption | refine ba ?_ _ | refine bd ?_ | refine bdN ?_ _ | refine bs ?_ (by first | exact Nat.le_refl _ | (dsimp only; omega) | (simp; done)) _ | refine bt ?_ (by assumption)))))) (Hr.out.below (bt H12.out (show Below W2.heap.size W2 _ by (repeat (with_reducible first | exact Below.refl _ _ | assumption | refine ba ?_ _ | refine bd ?_ | refine bdN ?_ _ | refine bs ?_ (by first | exact Nat.le_refl _ | (dsimp only; omega) | (simp; done)) _ | refine bt ?_ (by assumption))))))).mono ?_; rintro _ w9 ⟨rfl, hb9⟩; rw [decide_eq_true Hcb.out]; have hBB9 : Below W2.heap.size W2 w9 := (by (repeat (with_reducible first | exact Below.refl _ _ | assumption | refine ba ?_ _ | refine bd ?_ | refine bdN ?_ _ | refine bs ?_ (by first | exact Nat.le_refl _ | (dsimp only; omega) | (simp; done)) _ | refine bt ?_ (by assumption)))))
        | (go_at_call 54; refine (impl_HashOf _ fb (fun _ => True) _ (Hr.out.below (bt H12.out (show Below W2.heap.size W2 _ by (repeat (with_reducible first | exact Below.refl _ _ | assumption | refine ba ?_ _ | refine bd ?_ | refine bdN ?_ _ | refine bs ?_ (by first | exact Nat.le_refl _ | (dsimp only; omega) | (simp; done)) _ | refine bt ?_ (by assumption)))))) Hz8.out).mono ?_; rintro _ w10 ⟨rfl, hb10⟩; have hBB10 : Below W2.heap.size W2 w10 := (by (repeat (with_reducible first | exact Below.refl _ _ | assumption | refine ba ?_ _ | refine bd ?_ | refine bdN ?_ _ | refine bs ?_ (by first | exact Nat.le_refl _ | (dsimp only; omega) | (simp; done)) _ | refine bt ?_ (by assumption)))))
        | (go_at_call 55; refine (impl_SizeOf _ fb (fun _ => True) _ (Hr.out.below (bt H12.out (show Below W2.heap.size W2 _ by (repeat (with_reducible first | exact Below.refl _ _ | assumption | refine ba ?_ _ | refine bd ?_ | refine bdN ?_ _ | refine bs ?_ (by first | exact Nat.le_refl _ | (dsimp only; omega) | (simp; done)) _ | refine bt ?_ (by assumption)))))) Hz8.out).mono ?_; rintro _ w11 ⟨rfl, hb11⟩; have hBB11 : Below W2.heap.size W2 w11 := (by (repeat (with_reducible first | exact Below.refl _ _ | assumption | refine ba ?_ _ | refine bd ?_ | refine bdN ?_ _ | refine bs ?_ (by first | exact Nat.le_refl _ | (dsimp only; omega) | (simp; done)) _ | refine bt ?_ (by assumption))))))
    go_wp2_with fail
    go_ret
    exact ⟨rfl, bt Hb1.out (bt H12.out (by (repeat (with_reducible first | exact Below.refl _ _ | assumption | refine ba ?_ _ | refine bd ?_ | refine bdN ?_ _ | refine bs ?_ (by first | exact Nat.le_refl _ | (dsimp only; omega) | (simp; done)) _ | refine bt ?_ (by assumption)))))⟩

/-! ### THE STEP TO THE ROW -/
set_option maxRecDepth 100000 in
theorem lifted (os : Os) (started : os.Started) (H : Type) (enc : TypeId × Value → H) :
    ReturnsInHanded {} Try.checked os 9 .any (Rows.fnCompileFileSpec.pre6 enc Try.prog Try.f9 Rows.fnCompileFileRow.domain false) (Rows.fnCompileFileSpec.post enc Try.prog Try.f9 false true false false) := by
  refine returnsInHanded_of_change (C := Try.checked) own started (by kernel_rfl) Try.func9
    (ChangeSpec.witness6 (enc := enc) (C := Try.checked) false ⟨#[], #[.slice none 0 0], []⟩ 8 (by kernel_rfl) (by kernel_rfl) (by kernel_rfl) (by kernel_rfl)) ?_
  intro W base args ds gs before hval0 hW hcnd _
  have hval : ∀ (j : Nat) t v, Try.f9.params[j]? = some t → args[j]? = some v → Value.okWide Try.prog W .any base t v := hval0
  have hW' := hW
  obtain ⟨p, q, hA0, hV, rfl, hfz, hnd⟩ := hW
  have hA : DataW.TrodAll enc Try.prog W 0 (fun _ => true) true Try.f9.params.toList args.toList ds p := hA0
  rw [Try.params9] at hA hval
  obtain ⟨v0, vs0, d0, ds0, p0, q0, hargs, rfl, rfl, h0, r0⟩ := trodAll_cons hA
  obtain ⟨rfl, rfl, rfl⟩ := trodAll_nil r0
  obtain rfl : args = #[v0] := by cases args; simp_all
  obtain ⟨rfl, rfl⟩ := trodVars_none hV
  obtain ⟨a0, len0, cap0, rfl⟩ := okWide_slice Try.underlying73 (hval 0 73 v0 rfl rfl)
  have k0 := h0
  have lt0 : ∀ x ∈ p0, x.block < W.heap.size := by obtain ⟨m, hm⟩ := k0; exact DataW.trod_lt m _ _ _ hm
  have w0 : Code W W.heap.size a0 len0 cap0 := by
    obtain ⟨fuel, hf⟩ := h0
    rcases open_ints Try.underlying73 Try.underlying5 (by kernel_rfl) hf with ⟨hcs, _⟩ | ⟨x, l, c, zs, hcs, _, hl, hm, hz, _, hcell, hwz⟩
    · simp [Value.cells] at hcs
      obtain ⟨rfl, rfl, rfl⟩ := hcs
      exact .inl ⟨rfl, by unfold maxLen; omega⟩
    · simp [Value.cells] at hcs
      obtain ⟨rfl, rfl, rfl⟩ := hcs
      exact code_row W _ _ _ zs hl hm (by simpa using hz) hcell hwz
  clear hA0 hval0
  refine (walk a0 len0 cap0 W w0).mono fun e W' ⟨he, bel⟩ => ?_
  subst he
  exact ⟨_, rfl, _, _, _, [], _, [], hW', trodAll_mk1 (shut_bool Try.underlying4 _), (trodAll_cons_mk (Below.trod laidOut (by kernel_rfl) (of_decide_eq_true (by kernel_rfl)) k0 bel lt0) trodAll_mk0), rfl, bel.frame _, fun h => by cases h⟩

theorem over : Rows.fnCompileFileRow.holds Try.pinned (OpenSpec.ofChange Rows.fnCompileFileSpec) :=
  OpenClaim.holds_of_wide 9 Try.f9 rfl rfl rfl rfl rfl rfl rfl ⟨rfl, rfl, rfl, rfl, rfl⟩ rfl rfl rfl rfl rfl (by kernel_rfl) Try.func9 (by kernel_rfl)
    (of_decide_eq_true (by kernel_rfl)) (by unfold Func.isWrapper; first | (rw [if_pos (by decide +kernel)]; kernel_rfl) | (rw [if_neg (by decide +kernel)]; exact ⟨rfl, rfl⟩))
    (fun os started H enc _ => lifted os started H enc)

/-- THE STATEMENT -/
theorem proved : Rows.FnCompileFileSaid := over
end Go.Proofs.Ytebfafefeajemaa.FnCompileFile
