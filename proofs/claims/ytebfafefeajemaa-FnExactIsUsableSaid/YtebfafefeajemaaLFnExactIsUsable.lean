/- FnExactIsUsable returns true for every argument. -/
import Derived.Test.YtebfafefeajemaaSUsab2
import Derived.Test.YtebfafefeajemaaStoreMem
import Derived.Test.YtebfafefeajemaaExTools
import Derived.Test.YtebfafefeajemaaSzTree
import Derived.Test.YtebfafefeajemaaReadIn
import Derived.Test.YtebfafefeajemaaHeld
import Derived.Test.YtebfafefeajemaaMarks2
import Derived.Test.YtebfafefeajemaaInts
import Derived.Test.YtebfafefeajemaaStrs
import Derived.Test.YtebfafefeajemaaFrame
set_option linter.unusedVariables false
set_option linter.unusedSimpArgs false
namespace Go.Proofs.Ytebfafefeajemaa.FnExactIsUsable
open Go.ChangeShapes Go.WideShapes Go.ChangeAt Go.RowKit Go.Proofs.Ytebfafefeajemaa.Nm

set_option maxRecDepth 100000 in
set_option maxHeartbeats 16000000 in
theorem walk (c0 : Cmp) (v0 : Value) (f1 : Fil) (v1 : Value) (w : World) (h0 : StmsIn w (fun _ => True) v0 c0.body ∧ ShortC maxLen c0) (h1 : StmsIn w (fun _ => True) v1 f1.body ∧ ShortF maxLen f1) :
    Calls Try.prog 4 #[.agg #[.int .i64 c0.root, .string (mk c0.module), .bool c0.init, .int .i64 c0.mode, .int .i64 c0.stamp, .int .i64 c0.size, .int .i64 c0.hash, v0], .agg #[.int .i64 f1.root, .string (mk f1.pack), .string (mk f1.name), .bool f1.init, .int .i64 f1.stamp, v1]] w fun e w' => e = .returned (.bool true) ∧ Below w.heap.size w w' := by
  obtain ⟨hr0, hz0⟩ := h0
  obtain ⟨ra0, mb0, ic0, od0, te0, zf0, hg0, cb0⟩ := c0
  obtain ⟨za0, zc0⟩ := hz0
  dsimp only at hr0 za0 zc0 ⊢
  have HR0 := Lib.hid hr0
  have HZ0 := Lib.hid zc0
  obtain ⟨aa0, ca0, rfl, hlc0, hmc0⟩ := hr0.len
  clear hr0 zc0 hmc0
  obtain ⟨hr1, hz1⟩ := h1
  obtain ⟨fr1, fp1, fn1, fi1, ft1, fb1⟩ := f1
  obtain ⟨za1, zb1, zc1⟩ := hz1
  dsimp only at hr1 za1 zb1 zc1 ⊢
  have HR1 := Lib.hid hr1
  have HZ1 := Lib.hid zc1
  obtain ⟨aa1, ca1, rfl, hlc1, hmc1⟩ := hr1.len
  clear hr1 zc1 hmc1
  obtain ⟨C0, hC0⟩ : ∃ C, C = cmpCost (⟨ra0, mb0, ic0, od0, te0, zf0, hg0, cb0⟩ : Cmp) := ⟨_, rfl⟩
  have HC0 := Lib.hid hC0
  clear hC0
  obtain ⟨C1, hC1⟩ : ∃ C, C = filCost (⟨fr1, fp1, fn1, fi1, ft1, fb1⟩ : Fil) := ⟨_, rfl⟩
  have HC1 := Lib.hid hC1
  clear hC1
  obtain ⟨g0, hg0⟩ : ∃ g, g = isUsable ⟨ra0, mb0, ic0, od0, te0, zf0, hg0, cb0⟩ ⟨fr1, fp1, fn1, fi1, ft1, fb1⟩ := ⟨_, rfl⟩
  have HG0 := Lib.hid hg0
  clear hg0
  go_enter Try.func4, Try.ntmps4
  go_wp2_with fail
  refine (laws_szCompiled _ _ _ _ _ _ _ _ cb0 _ 1048576 _ za0 (HR0.out.below (by (repeat (with_reducible first | exact Below.refl _ _ | assumption | refine ba ?_ _ | refine bd ?_ | refine bdN ?_ _ | refine bs ?_ (by first | exact Nat.le_refl _ | (dsimp only; omega) | (simp; done)) _ | refine bt ?_ (by assumption))))) HZ0.out (by omega)).mono ?_
  rintro _ w1 ⟨r1, rfl, hr1, hb1⟩
  have hs1 : Below w.heap.size w w1 := by (repeat (with_reducible first | exact Below.refl _ _ | assumption | refine ba ?_ _ | refine bd ?_ | refine bdN ?_ _ | refine bs ?_ (by first | exact Nat.le_refl _ | (dsimp only; omega) | (simp; done)) _ | refine bt ?_ (by assumption)))
  have Bw1 := Lib.hid (hs1)
  have X2 := Lib.hid (show BoxC w1 (w.heap.size) #[.int .i64 ra0, .string (mk mb0), .bool ic0, .int .i64 od0, .int .i64 te0, .int .i64 zf0, .int .i64 hg0, .slice aa0 cb0.length ca0] from ((BoxC.start w #[.int .i64 ra0, .string (mk mb0), .bool ic0, .int .i64 od0, .int .i64 te0, .int .i64 zf0, .int .i64 hg0, .slice aa0 cb0.length ca0] 39).below (bt (by (repeat (with_reducible first | exact Below.refl _ _ | assumption | refine ba ?_ _ | refine bd ?_ | refine bdN ?_ _ | refine bs ?_ (by first | exact Nat.le_refl _ | (dsimp only; omega) | (simp; done)) _ | refine bt ?_ (by assumption)))) hb1)).at (by simp))
  have X3 := Lib.hid (show BoxC w1 (w.heap.size + 1) #[.int .i64 fr1, .string (mk fp1), .string (mk fn1), .bool fi1, .int .i64 ft1, .slice aa1 fb1.length ca1] from ((BoxC.start (w.alloc (.cells #[.int .i64 ra0, .string (mk mb0), .bool ic0, .int .i64 od0, .int .i64 te0, .int .i64 zf0, .int .i64 hg0, .slice aa0 cb0.length ca0] 39)) #[.int .i64 fr1, .string (mk fp1), .string (mk fn1), .bool fi1, .int .i64 ft1, .slice aa1 fb1.length ca1] 24).below hb1).at (by simp))
  rw [← HC0.out] at hr1
  have k4_0 : w1.cell? ⟨w.heap.size + 1, 0, none⟩ = some (.int .i64 fr1) := (X3.out).2 0
  have k4_1 : w1.cell? ⟨w.heap.size + 1, 1, none⟩ = some (.string (mk fp1)) := (X3.out).2 1
  have k4_2 : w1.cell? ⟨w.heap.size + 1, 2, none⟩ = some (.string (mk fn1)) := (X3.out).2 2
  have k4_3 : w1.cell? ⟨w.heap.size + 1, 3, none⟩ = some (.bool fi1) := (X3.out).2 3
  have k4_4 : w1.cell? ⟨w.heap.size + 1, 4, none⟩ = some (.int .i64 ft1) := (X3.out).2 4
  have k4_5 : w1.cell? ⟨w.heap.size + 1, 5, none⟩ = some (.slice aa1 fb1.length ca1) := (X3.out).2 5
  have kl4 := (X3.out).1
  by_cases hn1 : r1 < 0
  · go_wp2_with fail
    go_ret
    exact ⟨rfl, Bw1.out⟩
  obtain ⟨R1, rfl⟩ := Int.eq_ofNat_of_zero_le (show 0 ≤ r1 by omega)
  have hR1 : R1 + C0 ≤ 1048576 := by omega
  clear hr1
  go_wp2_with fail
  refine (laws_szFile _ _ _ _ _ _ fb1 _ R1 _ za1 zb1 (HR1.out.below (bt Bw1.out (by (repeat (with_reducible first | exact Below.refl _ _ | assumption | refine ba ?_ _ | refine bd ?_ | refine bdN ?_ _ | refine bs ?_ (by first | exact Nat.le_refl _ | (dsimp only; omega) | (simp; done)) _ | refine bt ?_ (by assumption)))))) HZ1.out (by omega)).mono ?_
  rintro _ w5 ⟨r5, rfl, hr5, hb5⟩
  clear k4_0 k4_1 k4_2 k4_3 k4_4 k4_5 kl4
  have hs5 : Below w1.heap.size w1 w5 := by (repeat (with_reducible first | exact Below.refl _ _ | assumption | refine ba ?_ _ | refine bd ?_ | refine bdN ?_ _ | refine bs ?_ (by first | exact Nat.le_refl _ | (dsimp only; omega) | (simp; done)) _ | refine bt ?_ (by assumption)))
  have Bw5 := Lib.hid (bt Bw1.out hs5)
  have X6 := Lib.hid (X2.out.below hs5)
  have X7 := Lib.hid (X3.out.below hs5)
  clear Bw1 X2 X3
  rw [← HC1.out] at hr5
  have k8_0 : w5.cell? ⟨w.heap.size, 0, none⟩ = some (.int .i64 ra0) := (X6.out).2 0
  have k8_1 : w5.cell? ⟨w.heap.size, 1, none⟩ = some (.string (mk mb0)) := (X6.out).2 1
  have k8_2 : w5.cell? ⟨w.heap.size, 2, none⟩ = some (.bool ic0) := (X6.out).2 2
  have k8_3 : w5.cell? ⟨w.heap.size, 3, none⟩ = some (.int .i64 od0) := (X6.out).2 3
  have k8_4 : w5.cell? ⟨w.heap.size, 4, none⟩ = some (.int .i64 te0) := (X6.out).2 4
  have k8_5 : w5.cell? ⟨w.heap.size, 5, none⟩ = some (.int .i64 zf0) := (X6.out).2 5
  have k8_6 : w5.cell? ⟨w.heap.size, 6, none⟩ = some (.int .i64 hg0) := (X6.out).2 6
  have k8_7 : w5.cell? ⟨w.heap.size, 7, none⟩ = some (.slice aa0 cb0.length ca0) := (X6.out).2 7
  have kl8 := (X6.out).1
  by_cases hn5 : r5 < 0
  · go_wp2_with fail
    go_ret
    exact ⟨rfl, Bw5.out⟩
  obtain ⟨R5, rfl⟩ := Int.eq_ofNat_of_zero_le (show 0 ≤ r5 by omega)
  have hR5 : R5 + C1 ≤ R1 := by omega
  clear hr5
  have HS0 := Lib.hid (shortC_of (by rw [← HC0.out]; omega : cmpCost (⟨ra0, mb0, ic0, od0, te0, zf0, hg0, cb0⟩ : Cmp) ≤ 1048576))
  have hln0 : cb0.length ≤ C0 ∧ mb0.length ≤ 1048576 := by have h1 := HC0.out; have h2 := HS0.out.1; have e : cmpCost (⟨ra0, mb0, ic0, od0, te0, zf0, hg0, cb0⟩ : Cmp) = mb0.length + (cb0.length + (cb0.map stmCost).sum) := rfl; dsimp only at h2; omega
  have HB0 := Lib.hid (short_mono (B := 2000000) (by omega) HS0.out.2)
  have Hse0 := Lib.hid (show sameCmp (⟨ra0, mb0, ic0, od0, te0, zf0, hg0, cb0⟩ : Cmp) (⟨ra0, mb0, ic0, od0, te0, zf0, hg0, cb0⟩ : Cmp) = true from decide_eq_true rfl)
  have HS1 := Lib.hid (shortF_of (by rw [← HC1.out]; omega : filCost (⟨fr1, fp1, fn1, fi1, ft1, fb1⟩ : Fil) ≤ 1048576))
  have hln1 : fb1.length ≤ C1 ∧ fp1.length ≤ 1048576 ∧ fn1.length ≤ 1048576 := by have h1 := HC1.out; have h2 := HS1.out.1; have h3 := HS1.out.2.1; have e : filCost (⟨fr1, fp1, fn1, fi1, ft1, fb1⟩ : Fil) = fp1.length + fn1.length + (fb1.length + (fb1.map stmCost).sum) := rfl; dsimp only at h2 h3; omega
  have HB1 := Lib.hid (short_mono (B := 2000000) (by omega) HS1.out.2.2)
  have Hse1 := Lib.hid (show sameFil (⟨fr1, fp1, fn1, fi1, ft1, fb1⟩ : Fil) (⟨fr1, fp1, fn1, fi1, ft1, fb1⟩ : Fil) = true from decide_eq_true rfl)
  clear k8_0 k8_1 k8_2 k8_3 k8_4 k8_5 k8_6 k8_7 kl8
  have Hk9 := Lib.hid (fun (w' : World) (hC : Below w5.heap.size w5 w') => (⟨((X6.out).below hC).2 0, ((X6.out).below hC).2 1, ((X6.out).below hC).2 2, ((X6.out).below hC).2 3, ((X6.out).below hC).2 4, ((X6.out).below hC).2 5, ((X6.out).below hC).2 6, ((X6.out).below hC).2 7, ((X7.out).below hC).2 0, ((X7.out).below hC).2 1, ((X7.out).below hC).2 2, ((X7.out).below hC).2 3, ((X7.out).below hC).2 4, ((X7.out).below hC).2 5, hC⟩ : w'.cell? ⟨w.heap.size, 0, none⟩ = some (.int .i64 ra0) ∧ w'.cell? ⟨w.heap.size, 1, none⟩ = some (.string (mk mb0)) ∧ w'.cell? ⟨w.heap.size, 2, none⟩ = some (.bool ic0) ∧ w'.cell? ⟨w.heap.size, 3, none⟩ = some (.int .i64 od0) ∧ w'.cell? ⟨w.heap.size, 4, none⟩ = some (.int .i64 te0) ∧ w'.cell? ⟨w.heap.size, 5, none⟩ = some (.int .i64 zf0) ∧ w'.cell? ⟨w.heap.size, 6, none⟩ = some (.int .i64 hg0) ∧ w'.cell? ⟨w.heap.size, 7, none⟩ = some (.slice aa0 cb0.length ca0) ∧ w'.cell? ⟨w.heap.size + 1, 0, none⟩ = some (.int .i64 fr1) ∧ w'.cell? ⟨w.heap.size + 1, 1, none⟩ = some (.string (mk fp1)) ∧ w'.cell? ⟨w.heap.size + 1, 2, none⟩ = some (.string (mk fn1)) ∧ w'.cell? ⟨w.heap.size + 1, 3, none⟩ = some (.bool fi1) ∧ w'.cell? ⟨w.heap.size + 1, 4, none⟩ = some (.int .i64 ft1) ∧ w'.cell? ⟨w.heap.size + 1, 5, none⟩ = some (.slice aa1 fb1.length ca1) ∧ Below w5.heap.size w5 w'))
  have HPHk9_0 := Lib.hid (HR0.out.below Bw5.out)
  have HPHk9_1 := Lib.hid (HR1.out.below Bw5.out)
  go_wp2_with fail
  go_region_held3 (fun w' => w'.cell? ⟨w.heap.size, 0, none⟩ = some (.int .i64 ra0) ∧ w'.cell? ⟨w.heap.size, 1, none⟩ = some (.string (mk mb0)) ∧ w'.cell? ⟨w.heap.size, 2, none⟩ = some (.bool ic0) ∧ w'.cell? ⟨w.heap.size, 3, none⟩ = some (.int .i64 od0) ∧ w'.cell? ⟨w.heap.size, 4, none⟩ = some (.int .i64 te0) ∧ w'.cell? ⟨w.heap.size, 5, none⟩ = some (.int .i64 zf0) ∧ w'.cell? ⟨w.heap.size, 6, none⟩ = some (.int .i64 hg0) ∧ w'.cell? ⟨w.heap.size, 7, none⟩ = some (.slice aa0 cb0.length ca0) ∧ w'.cell? ⟨w.heap.size + 1, 0, none⟩ = some (.int .i64 fr1) ∧ w'.cell? ⟨w.heap.size + 1, 1, none⟩ = some (.string (mk fp1)) ∧ w'.cell? ⟨w.heap.size + 1, 2, none⟩ = some (.string (mk fn1)) ∧ w'.cell? ⟨w.heap.size + 1, 3, none⟩ = some (.bool fi1) ∧ w'.cell? ⟨w.heap.size + 1, 4, none⟩ = some (.int .i64 ft1) ∧ w'.cell? ⟨w.heap.size + 1, 5, none⟩ = some (.slice aa1 fb1.length ca1) ∧ Below w5.heap.size w5 w')
    (exact Hk9.out _ (by (repeat (with_reducible first | exact Below.refl _ _ | assumption | refine ba ?_ _ | refine bd ?_ | refine bdN ?_ _ | refine bs ?_ (by first | exact Nat.le_refl _ | (dsimp only; omega) | (simp; done)) _ | refine bt ?_ (by assumption)))))
    (first
      | (go_at_call 25; refine (laws_toCompiled _ _ _ _ _ _ _ _ cb0 _ _ (HPHk9_0.out.below (by (repeat (with_reducible first | exact Below.refl _ _ | assumption | refine ba ?_ _ | refine bd ?_ | refine bdN ?_ _ | refine bs ?_ (by first | exact Nat.le_refl _ | (dsimp only; omega) | (simp; done)) _ | refine bt ?_ (by assumption))))) (by omega)).mono ?_; rintro _ w10 ⟨v10, rfl, ho10, hb10⟩; obtain ⟨a10, c10, rfl⟩ := owns_shape ho10; unfold cmpV; dsimp only; have I10 := Lib.hid (show StmsIn w10 (fun _ => True) (.slice a10 cb0.length c10) cb0 from StmsIn.of_owns ho10 (fun _ _ => trivial)); have O10 := Lib.hid ho10; clear ho10)
      | (go_at_call 16; refine (laws_toFile _ _ _ _ _ _ fb1 _ _ (HPHk9_1.out.below (by (repeat (with_reducible first | exact Below.refl _ _ | assumption | refine ba ?_ _ | refine bd ?_ | refine bdN ?_ _ | refine bs ?_ (by first | exact Nat.le_refl _ | (dsimp only; omega) | (simp; done)) _ | refine bt ?_ (by assumption))))) (by omega)).mono ?_; rintro _ w11 ⟨v11, rfl, ho11, hb11⟩; obtain ⟨a11, c11, rfl⟩ := owns_shape ho11; unfold filV; dsimp only; have I11 := Lib.hid (show StmsIn w11 (fun _ => True) (.slice a11 fb1.length c11) fb1 from StmsIn.of_owns ho11 (fun _ _ => trivial)); have O11 := Lib.hid ho11; clear ho11)
      | (go_at_call 24; refine (spec_IsUsable _ _ _ _ _ _ _ _ cb0 _ _ _ _ _ _ fb1 (fun _ => True) (fun _ => True) _ (I10.out.below (by (repeat (with_reducible first | exact Below.refl _ _ | assumption | refine ba ?_ _ | refine bd ?_ | refine bdN ?_ _ | refine bs ?_ (by first | exact Nat.le_refl _ | (dsimp only; omega) | (simp; done)) _ | refine bt ?_ (by assumption))))) (I11.out.below (by (repeat (with_reducible first | exact Below.refl _ _ | assumption | refine ba ?_ _ | refine bd ?_ | refine bdN ?_ _ | refine bs ?_ (by first | exact Nat.le_refl _ | (dsimp only; omega) | (simp; done)) _ | refine bt ?_ (by assumption))))) HS0.out HS1.out).mono ?_; rintro _ w12 ⟨rfl, hb12⟩; (try rw [← HG0.out])))
  have hs12 : Below w5.heap.size w5 w12 := by (repeat (with_reducible first | exact Below.refl _ _ | assumption | refine ba ?_ _ | refine bd ?_ | refine bdN ?_ _ | refine bs ?_ (by first | exact Nat.le_refl _ | (dsimp only; omega) | (simp; done)) _ | refine bt ?_ (by assumption)))
  have Bw12 := Lib.hid (bt Bw5.out hs12)
  have X13 := Lib.hid (X6.out.below hs12)
  have X14 := Lib.hid (X7.out.below hs12)
  clear Bw5 X6 X7
  obtain ⟨WW, hWW⟩ : ∃ WW, WW = w12 := ⟨_, rfl⟩
  have hWs : WW.heap.size = w12.heap.size + 0 := by rw [hWW]; simp
  have hcW : Below w12.heap.size w12 WW := by rw [hWW]; (repeat (with_reducible first | exact Below.refl _ _ | assumption | refine ba ?_ _ | refine bd ?_ | refine bdN ?_ _ | refine bs ?_ (by first | exact Nat.le_refl _ | (dsimp only; omega) | (simp; done)) _ | refine bt ?_ (by assumption)))
  have HwW := Lib.hid (bt Bw12.out hcW)
  have Hpl0 := Lib.hid (show w.heap.size < WW.heap.size by have := X13.out.1; omega)
  have Hpl1 := Lib.hid (show w.heap.size + 1 < WW.heap.size by have := X14.out.1; omega)
  have HWs := Lib.hid hWs
  clear hWs hcW
  have k15_0 : w12.cell? ⟨w.heap.size, 0, none⟩ = some (.int .i64 ra0) := (X13.out).2 0
  have k15_1 : w12.cell? ⟨w.heap.size, 1, none⟩ = some (.string (mk mb0)) := (X13.out).2 1
  have k15_2 : w12.cell? ⟨w.heap.size, 2, none⟩ = some (.bool ic0) := (X13.out).2 2
  have k15_3 : w12.cell? ⟨w.heap.size, 3, none⟩ = some (.int .i64 od0) := (X13.out).2 3
  have k15_4 : w12.cell? ⟨w.heap.size, 4, none⟩ = some (.int .i64 te0) := (X13.out).2 4
  have k15_5 : w12.cell? ⟨w.heap.size, 5, none⟩ = some (.int .i64 zf0) := (X13.out).2 5
  have k15_6 : w12.cell? ⟨w.heap.size, 6, none⟩ = some (.int .i64 hg0) := (X13.out).2 6
  have k15_7 : w12.cell? ⟨w.heap.size, 7, none⟩ = some (.slice aa0 cb0.length ca0) := (X13.out).2 7
  have kl15 := (X13.out).1
  go_wp2_with fail
  refine (laws_toCompiled _ _ _ _ _ _ _ _ cb0 _ _ (HR0.out.below (bt Bw12.out (by (repeat (with_reducible first | exact Below.refl _ _ | assumption | refine ba ?_ _ | refine bd ?_ | refine bdN ?_ _ | refine bs ?_ (by first | exact Nat.le_refl _ | (dsimp only; omega) | (simp; done)) _ | refine bt ?_ (by assumption)))))) (by omega)).mono ?_
  rintro _ w16 ⟨v16, rfl, ho16, hb16⟩
  clear k15_0 k15_1 k15_2 k15_3 k15_4 k15_5 k15_6 k15_7 kl15
  have hs16 : Below w12.heap.size w12 w16 := by (repeat (with_reducible first | exact Below.refl _ _ | assumption | refine ba ?_ _ | refine bd ?_ | refine bdN ?_ _ | refine bs ?_ (by first | exact Nat.le_refl _ | (dsimp only; omega) | (simp; done)) _ | refine bt ?_ (by assumption)))
  have Bw16 := Lib.hid (bt Bw12.out hs16)
  have BW16 := Lib.hid (show Below WW.heap.size WW w16 by rw [hWW]; exact hb16)
  have X17 := Lib.hid (X13.out.below hs16)
  have X18 := Lib.hid (X14.out.below hs16)
  clear Bw12 X13 X14
  have Hz16 := Lib.hid (show w12.heap.size ≤ w16.heap.size by have h := hb16.size; first | omega | (simp at h; omega))
  obtain ⟨a16, c16, rfl⟩ := owns_shape ho16
  unfold cmpV; dsimp only
  have I16 := Lib.hid (show StmsIn w16 (fun _ => True) (.slice a16 cb0.length c16) cb0 from StmsIn.of_owns ho16 (fun _ _ => trivial))
  have O16 := Lib.hid ho16
  clear ho16
  have k19_0 : w16.cell? ⟨w.heap.size + 1, 0, none⟩ = some (.int .i64 fr1) := (X18.out).2 0
  have k19_1 : w16.cell? ⟨w.heap.size + 1, 1, none⟩ = some (.string (mk fp1)) := (X18.out).2 1
  have k19_2 : w16.cell? ⟨w.heap.size + 1, 2, none⟩ = some (.string (mk fn1)) := (X18.out).2 2
  have k19_3 : w16.cell? ⟨w.heap.size + 1, 3, none⟩ = some (.bool fi1) := (X18.out).2 3
  have k19_4 : w16.cell? ⟨w.heap.size + 1, 4, none⟩ = some (.int .i64 ft1) := (X18.out).2 4
  have k19_5 : w16.cell? ⟨w.heap.size + 1, 5, none⟩ = some (.slice aa1 fb1.length ca1) := (X18.out).2 5
  have kl19 := (X18.out).1
  go_wp2_with fail
  refine (laws_toFile _ _ _ _ _ _ fb1 _ _ (HR1.out.below (bt Bw16.out (by (repeat (with_reducible first | exact Below.refl _ _ | assumption | refine ba ?_ _ | refine bd ?_ | refine bdN ?_ _ | refine bs ?_ (by first | exact Nat.le_refl _ | (dsimp only; omega) | (simp; done)) _ | refine bt ?_ (by assumption)))))) (by omega)).mono ?_
  rintro _ w20 ⟨v20, rfl, ho20, hb20⟩
  clear k19_0 k19_1 k19_2 k19_3 k19_4 k19_5 kl19
  have hs20 : Below w16.heap.size w16 w20 := by (repeat (with_reducible first | exact Below.refl _ _ | assumption | refine ba ?_ _ | refine bd ?_ | refine bdN ?_ _ | refine bs ?_ (by first | exact Nat.le_refl _ | (dsimp only; omega) | (simp; done)) _ | refine bt ?_ (by assumption)))
  have Bw20 := Lib.hid (bt Bw16.out hs20)
  have BW20 := Lib.hid (bt BW16.out hs20)
  have X21 := Lib.hid (X17.out.below hs20)
  have X22 := Lib.hid (X18.out.below hs20)
  have X23 := Lib.hid (show BoxC w20 (w16.heap.size) #[.int .i64 ra0, .string (mk mb0), .bool ic0, .int .i64 od0, .int .i64 te0, .int .i64 zf0, .int .i64 hg0, .slice a16 cb0.length c16] from ((BoxC.start w16 #[.int .i64 ra0, .string (mk mb0), .bool ic0, .int .i64 od0, .int .i64 te0, .int .i64 zf0, .int .i64 hg0, .slice a16 cb0.length c16] 28).below hb20).at (by simp))
  have J24 := Lib.hid (I16.out.below hs20)
  have Q24 := Lib.hid (owns_below O16.out hs20)
  clear Bw16 BW16 X17 X18 I16 O16
  have Hz20 := Lib.hid (show w16.heap.size + 1 ≤ w20.heap.size by have h := hb20.size; first | omega | (simp at h; omega))
  obtain ⟨a20, c20, rfl⟩ := owns_shape ho20
  unfold filV; dsimp only
  have I20 := Lib.hid (show StmsIn w20 (fun _ => True) (.slice a20 fb1.length c20) fb1 from StmsIn.of_owns ho20 (fun _ _ => trivial))
  have O20 := Lib.hid ho20
  clear ho20
  have k25_0 : w20.cell? ⟨w16.heap.size, 0, none⟩ = some (.int .i64 ra0) := (X23.out).2 0
  have k25_1 : w20.cell? ⟨w16.heap.size, 1, none⟩ = some (.string (mk mb0)) := (X23.out).2 1
  have k25_2 : w20.cell? ⟨w16.heap.size, 2, none⟩ = some (.bool ic0) := (X23.out).2 2
  have k25_3 : w20.cell? ⟨w16.heap.size, 3, none⟩ = some (.int .i64 od0) := (X23.out).2 3
  have k25_4 : w20.cell? ⟨w16.heap.size, 4, none⟩ = some (.int .i64 te0) := (X23.out).2 4
  have k25_5 : w20.cell? ⟨w16.heap.size, 5, none⟩ = some (.int .i64 zf0) := (X23.out).2 5
  have k25_6 : w20.cell? ⟨w16.heap.size, 6, none⟩ = some (.int .i64 hg0) := (X23.out).2 6
  have k25_7 : w20.cell? ⟨w16.heap.size, 7, none⟩ = some (.slice a16 cb0.length c16) := (X23.out).2 7
  have kl25 := (X23.out).1
  go_wp2_with fail
  refine (impl_IsUsable _ _ _ _ _ _ _ _ cb0 _ _ _ _ _ _ fb1 (fun _ => True) _ _ (J24.out.below (by (repeat (with_reducible first | exact Below.refl _ _ | assumption | refine ba ?_ _ | refine bd ?_ | refine bdN ?_ _ | refine bs ?_ (by first | exact Nat.le_refl _ | (dsimp only; omega) | (simp; done)) _ | refine bt ?_ (by assumption))))) (owns_below O20.out (by (repeat (with_reducible first | exact Below.refl _ _ | assumption | refine ba ?_ _ | refine bd ?_ | refine bdN ?_ _ | refine bs ?_ (by first | exact Nat.le_refl _ | (dsimp only; omega) | (simp; done)) _ | refine bt ?_ (by assumption))))) HS0.out HS1.out (by omega)).mono ?_
  rintro _ w26 ⟨rfl, hb26⟩
  clear k25_0 k25_1 k25_2 k25_3 k25_4 k25_5 k25_6 k25_7 kl25
  have hs26 : Below w20.heap.size w20 w26 := by (repeat (with_reducible first | exact Below.refl _ _ | assumption | refine ba ?_ _ | refine bd ?_ | refine bdN ?_ _ | refine bs ?_ (by first | exact Nat.le_refl _ | (dsimp only; omega) | (simp; done)) _ | refine bt ?_ (by assumption)))
  have Bw26 := Lib.hid (bt Bw20.out hs26)
  have BW26 := Lib.hid (bt BW20.out hs26)
  have X27 := Lib.hid (X21.out.below hs26)
  have X28 := Lib.hid (X22.out.below hs26)
  have X29 := Lib.hid (X23.out.below hs26)
  have X30 := Lib.hid (show BoxC w26 (w20.heap.size) #[.int .i64 fr1, .string (mk fp1), .string (mk fn1), .bool fi1, .int .i64 ft1, .slice a20 fb1.length c20] from ((BoxC.start w20 #[.int .i64 fr1, .string (mk fp1), .string (mk fn1), .bool fi1, .int .i64 ft1, .slice a20 fb1.length c20] 31).below hb26).at (by simp))
  have J31 := Lib.hid (J24.out.below hs26)
  have Q31 := Lib.hid (owns_below Q24.out hs26)
  have J32 := Lib.hid (I20.out.below hs26)
  have Q32 := Lib.hid (owns_below O20.out hs26)
  clear Bw20 BW20 X21 X22 X23 J24 Q24 I20 O20
  have Hz26 := Lib.hid (show w20.heap.size + 1 ≤ w26.heap.size by have h := hb26.size; first | omega | (simp at h; omega))
  try rw [← HG0.out]
  have Hk33 := Lib.hid (fun (w' : World) (hC : Below w26.heap.size w26 w') => (⟨((X27.out).below hC).2 0, ((X27.out).below hC).2 1, ((X27.out).below hC).2 2, ((X27.out).below hC).2 3, ((X27.out).below hC).2 4, ((X27.out).below hC).2 5, ((X27.out).below hC).2 6, ((X27.out).below hC).2 7, ((X29.out).below hC).2 0, ((X29.out).below hC).2 1, ((X29.out).below hC).2 2, ((X29.out).below hC).2 3, ((X29.out).below hC).2 4, ((X29.out).below hC).2 5, ((X29.out).below hC).2 6, ((X29.out).below hC).2 7, hC⟩ : w'.cell? ⟨w.heap.size, 0, none⟩ = some (.int .i64 ra0) ∧ w'.cell? ⟨w.heap.size, 1, none⟩ = some (.string (mk mb0)) ∧ w'.cell? ⟨w.heap.size, 2, none⟩ = some (.bool ic0) ∧ w'.cell? ⟨w.heap.size, 3, none⟩ = some (.int .i64 od0) ∧ w'.cell? ⟨w.heap.size, 4, none⟩ = some (.int .i64 te0) ∧ w'.cell? ⟨w.heap.size, 5, none⟩ = some (.int .i64 zf0) ∧ w'.cell? ⟨w.heap.size, 6, none⟩ = some (.int .i64 hg0) ∧ w'.cell? ⟨w.heap.size, 7, none⟩ = some (.slice aa0 cb0.length ca0) ∧ w'.cell? ⟨w16.heap.size, 0, none⟩ = some (.int .i64 ra0) ∧ w'.cell? ⟨w16.heap.size, 1, none⟩ = some (.string (mk mb0)) ∧ w'.cell? ⟨w16.heap.size, 2, none⟩ = some (.bool ic0) ∧ w'.cell? ⟨w16.heap.size, 3, none⟩ = some (.int .i64 od0) ∧ w'.cell? ⟨w16.heap.size, 4, none⟩ = some (.int .i64 te0) ∧ w'.cell? ⟨w16.heap.size, 5, none⟩ = some (.int .i64 zf0) ∧ w'.cell? ⟨w16.heap.size, 6, none⟩ = some (.int .i64 hg0) ∧ w'.cell? ⟨w16.heap.size, 7, none⟩ = some (.slice a16 cb0.length c16) ∧ Below w26.heap.size w26 w'))
  have HPHk33 := Lib.hid (HR0.out.below Bw26.out)
  go_wp2_with fail
  go_region_held3 (fun w' => w'.cell? ⟨w.heap.size, 0, none⟩ = some (.int .i64 ra0) ∧ w'.cell? ⟨w.heap.size, 1, none⟩ = some (.string (mk mb0)) ∧ w'.cell? ⟨w.heap.size, 2, none⟩ = some (.bool ic0) ∧ w'.cell? ⟨w.heap.size, 3, none⟩ = some (.int .i64 od0) ∧ w'.cell? ⟨w.heap.size, 4, none⟩ = some (.int .i64 te0) ∧ w'.cell? ⟨w.heap.size, 5, none⟩ = some (.int .i64 zf0) ∧ w'.cell? ⟨w.heap.size, 6, none⟩ = some (.int .i64 hg0) ∧ w'.cell? ⟨w.heap.size, 7, none⟩ = some (.slice aa0 cb0.length ca0) ∧ w'.cell? ⟨w16.heap.size, 0, none⟩ = some (.int .i64 ra0) ∧ w'.cell? ⟨w16.heap.size, 1, none⟩ = some (.string (mk mb0)) ∧ w'.cell? ⟨w16.heap.size, 2, none⟩ = some (.bool ic0) ∧ w'.cell? ⟨w16.heap.size, 3, none⟩ = some (.int .i64 od0) ∧ w'.cell? ⟨w16.heap.size, 4, none⟩ = some (.int .i64 te0) ∧ w'.cell? ⟨w16.heap.size, 5, none⟩ = some (.int .i64 zf0) ∧ w'.cell? ⟨w16.heap.size, 6, none⟩ = some (.int .i64 hg0) ∧ w'.cell? ⟨w16.heap.size, 7, none⟩ = some (.slice a16 cb0.length c16) ∧ Below w26.heap.size w26 w')
    (exact Hk33.out _ (by (repeat (with_reducible first | exact Below.refl _ _ | assumption | refine ba ?_ _ | refine bd ?_ | refine bdN ?_ _ | refine bs ?_ (by first | exact Nat.le_refl _ | (dsimp only; omega) | (simp; done)) _ | refine bt ?_ (by assumption)))))
    (first
      | (go_at_call 25; refine (laws_toCompiled _ _ _ _ _ _ _ _ cb0 _ _ (HPHk33.out.below (by (repeat (with_reducible first | exact Below.refl _ _ | assumption | refine ba ?_ _ | refine bd ?_ | refine bdN ?_ _ | refine bs ?_ (by first | exact Nat.le_refl _ | (dsimp only; omega) | (simp; done)) _ | refine bt ?_ (by assumption))))) (by omega)).mono ?_; rintro _ w34 ⟨v34, rfl, ho34, hb34⟩; obtain ⟨a34, c34, rfl⟩ := owns_shape ho34; unfold cmpV; dsimp only; have I34 := Lib.hid (show StmsIn w34 (fun _ => True) (.slice a34 cb0.length c34) cb0 from StmsIn.of_owns ho34 (fun _ _ => trivial)); have O34 := Lib.hid ho34; clear ho34)
      | (go_at_call 18; refine (laws_eqCompiled _ _ _ _ _ _ _ _ cb0 _ _ _ _ _ _ _ _ cb0 (fun _ => True) (fun _ => True) _ (J31.out.below (by (repeat (with_reducible first | exact Below.refl _ _ | assumption | refine ba ?_ _ | refine bd ?_ | refine bdN ?_ _ | refine bs ?_ (by first | exact Nat.le_refl _ | (dsimp only; omega) | (simp; done)) _ | refine bt ?_ (by assumption))))) (I34.out.below (by (repeat (with_reducible first | exact Below.refl _ _ | assumption | refine ba ?_ _ | refine bd ?_ | refine bdN ?_ _ | refine bs ?_ (by first | exact Nat.le_refl _ | (dsimp only; omega) | (simp; done)) _ | refine bt ?_ (by assumption)))))).mono ?_; rintro _ w35 ⟨rfl, hb35⟩; rw [Hse0.out]))
  have hs35 : Below w26.heap.size w26 w35 := by (repeat (with_reducible first | exact Below.refl _ _ | assumption | refine ba ?_ _ | refine bd ?_ | refine bdN ?_ _ | refine bs ?_ (by first | exact Nat.le_refl _ | (dsimp only; omega) | (simp; done)) _ | refine bt ?_ (by assumption)))
  have Bw35 := Lib.hid (bt Bw26.out hs35)
  have BW35 := Lib.hid (bt BW26.out hs35)
  have X36 := Lib.hid (X27.out.below hs35)
  have X37 := Lib.hid (X28.out.below hs35)
  have X38 := Lib.hid (X29.out.below hs35)
  have X39 := Lib.hid (X30.out.below hs35)
  have J40 := Lib.hid (J31.out.below hs35)
  have Q40 := Lib.hid (owns_below Q31.out hs35)
  have J41 := Lib.hid (J32.out.below hs35)
  have Q41 := Lib.hid (owns_below Q32.out hs35)
  clear Bw26 BW26 X27 X28 X29 X30 J31 Q31 J32 Q32
  have Hk42 := Lib.hid (fun (w' : World) (hC : Below w35.heap.size w35 w') => (⟨((X37.out).below hC).2 0, ((X37.out).below hC).2 1, ((X37.out).below hC).2 2, ((X37.out).below hC).2 3, ((X37.out).below hC).2 4, ((X37.out).below hC).2 5, ((X39.out).below hC).2 0, ((X39.out).below hC).2 1, ((X39.out).below hC).2 2, ((X39.out).below hC).2 3, ((X39.out).below hC).2 4, ((X39.out).below hC).2 5, hC⟩ : w'.cell? ⟨w.heap.size + 1, 0, none⟩ = some (.int .i64 fr1) ∧ w'.cell? ⟨w.heap.size + 1, 1, none⟩ = some (.string (mk fp1)) ∧ w'.cell? ⟨w.heap.size + 1, 2, none⟩ = some (.string (mk fn1)) ∧ w'.cell? ⟨w.heap.size + 1, 3, none⟩ = some (.bool fi1) ∧ w'.cell? ⟨w.heap.size + 1, 4, none⟩ = some (.int .i64 ft1) ∧ w'.cell? ⟨w.heap.size + 1, 5, none⟩ = some (.slice aa1 fb1.length ca1) ∧ w'.cell? ⟨w20.heap.size, 0, none⟩ = some (.int .i64 fr1) ∧ w'.cell? ⟨w20.heap.size, 1, none⟩ = some (.string (mk fp1)) ∧ w'.cell? ⟨w20.heap.size, 2, none⟩ = some (.string (mk fn1)) ∧ w'.cell? ⟨w20.heap.size, 3, none⟩ = some (.bool fi1) ∧ w'.cell? ⟨w20.heap.size, 4, none⟩ = some (.int .i64 ft1) ∧ w'.cell? ⟨w20.heap.size, 5, none⟩ = some (.slice a20 fb1.length c20) ∧ Below w35.heap.size w35 w'))
  have HPHk42 := Lib.hid (HR1.out.below Bw35.out)
  go_wp2_with fail
  go_region_held3 (fun w' => w'.cell? ⟨w.heap.size + 1, 0, none⟩ = some (.int .i64 fr1) ∧ w'.cell? ⟨w.heap.size + 1, 1, none⟩ = some (.string (mk fp1)) ∧ w'.cell? ⟨w.heap.size + 1, 2, none⟩ = some (.string (mk fn1)) ∧ w'.cell? ⟨w.heap.size + 1, 3, none⟩ = some (.bool fi1) ∧ w'.cell? ⟨w.heap.size + 1, 4, none⟩ = some (.int .i64 ft1) ∧ w'.cell? ⟨w.heap.size + 1, 5, none⟩ = some (.slice aa1 fb1.length ca1) ∧ w'.cell? ⟨w20.heap.size, 0, none⟩ = some (.int .i64 fr1) ∧ w'.cell? ⟨w20.heap.size, 1, none⟩ = some (.string (mk fp1)) ∧ w'.cell? ⟨w20.heap.size, 2, none⟩ = some (.string (mk fn1)) ∧ w'.cell? ⟨w20.heap.size, 3, none⟩ = some (.bool fi1) ∧ w'.cell? ⟨w20.heap.size, 4, none⟩ = some (.int .i64 ft1) ∧ w'.cell? ⟨w20.heap.size, 5, none⟩ = some (.slice a20 fb1.length c20) ∧ Below w35.heap.size w35 w')
    (exact Hk42.out _ (by (repeat (with_reducible first | exact Below.refl _ _ | assumption | refine ba ?_ _ | refine bd ?_ | refine bdN ?_ _ | refine bs ?_ (by first | exact Nat.le_refl _ | (dsimp only; omega) | (simp; done)) _ | refine bt ?_ (by assumption)))))
    (first
      | (go_at_call 16; refine (laws_toFile _ _ _ _ _ _ fb1 _ _ (HPHk42.out.below (by (repeat (with_reducible first | exact Below.refl _ _ | assumption | refine ba ?_ _ | refine bd ?_ | refine bdN ?_ _ | refine bs ?_ (by first | exact Nat.le_refl _ | (dsimp only; omega) | (simp; done)) _ | refine bt ?_ (by assumption))))) (by omega)).mono ?_; rintro _ w43 ⟨v43, rfl, ho43, hb43⟩; obtain ⟨a43, c43, rfl⟩ := owns_shape ho43; unfold filV; dsimp only; have I43 := Lib.hid (show StmsIn w43 (fun _ => True) (.slice a43 fb1.length c43) fb1 from StmsIn.of_owns ho43 (fun _ _ => trivial)); have O43 := Lib.hid ho43; clear ho43)
      | (go_at_call 19; refine (laws_eqFile _ _ _ _ _ _ fb1 _ _ _ _ _ _ fb1 (fun _ => True) (fun _ => True) _ (J41.out.below (by (repeat (with_reducible first | exact Below.refl _ _ | assumption | refine ba ?_ _ | refine bd ?_ | refine bdN ?_ _ | refine bs ?_ (by first | exact Nat.le_refl _ | (dsimp only; omega) | (simp; done)) _ | refine bt ?_ (by assumption))))) (I43.out.below (by (repeat (with_reducible first | exact Below.refl _ _ | assumption | refine ba ?_ _ | refine bd ?_ | refine bdN ?_ _ | refine bs ?_ (by first | exact Nat.le_refl _ | (dsimp only; omega) | (simp; done)) _ | refine bt ?_ (by assumption)))))).mono ?_; rintro _ w44 ⟨rfl, hb44⟩; rw [Hse1.out]))
  have hs44 : Below w35.heap.size w35 w44 := by (repeat (with_reducible first | exact Below.refl _ _ | assumption | refine ba ?_ _ | refine bd ?_ | refine bdN ?_ _ | refine bs ?_ (by first | exact Nat.le_refl _ | (dsimp only; omega) | (simp; done)) _ | refine bt ?_ (by assumption)))
  have Bw44 := Lib.hid (bt Bw35.out hs44)
  have BW44 := Lib.hid (bt BW35.out hs44)
  have X45 := Lib.hid (X36.out.below hs44)
  have X46 := Lib.hid (X37.out.below hs44)
  have X47 := Lib.hid (X38.out.below hs44)
  have X48 := Lib.hid (X39.out.below hs44)
  have J49 := Lib.hid (J40.out.below hs44)
  have Q49 := Lib.hid (owns_below Q40.out hs44)
  have J50 := Lib.hid (J41.out.below hs44)
  have Q50 := Lib.hid (owns_below Q41.out hs44)
  clear Bw35 BW35 X36 X37 X38 X39 J40 Q40 J41 Q41
  go_wp2_with fail
  go_ret
  exact ⟨rfl, Bw44.out⟩

/-! ### THE STEP TO THE ROW -/
set_option maxRecDepth 100000 in
theorem lifted (os : Os) (started : os.Started) (H : Type) (enc : TypeId × Value → H) :
    ReturnsInHanded {} Try.checked os 4 .any (Rows.fnExactIsUsableSpec.pre6 enc Try.prog Try.f4 Rows.fnExactIsUsableRow.domain false) (Rows.fnExactIsUsableSpec.post enc Try.prog Try.f4 false true false false) := by
  refine returnsInHanded_of_change (C := Try.checked) own started (by kernel_rfl) Try.func4
    (ChangeSpec.witness6 (enc := enc) (C := Try.checked) false ⟨#[], #[.agg #[.int .i64 0, .string ByteArray.empty, .bool false, .int .i64 0, .int .i64 0, .int .i64 0, .int .i64 0, .slice none 0 0], .agg #[.int .i64 0, .string ByteArray.empty, .string ByteArray.empty, .bool false, .int .i64 0, .slice none 0 0]], []⟩ 8 (by kernel_rfl) (by kernel_rfl) (by kernel_rfl) (by kernel_rfl)) ?_
  intro W base args ds gs before hval0 hW hcnd _
  have hval : ∀ (j : Nat) t v, Try.f4.params[j]? = some t → args[j]? = some v → Value.okWide Try.prog W .any base t v := hval0
  have hW' := hW
  obtain ⟨p, q, hA0, hV, rfl, hfz, hnd⟩ := hW
  have hA : DataW.TrodAll enc Try.prog W 0 (fun _ => true) true Try.f4.params.toList args.toList ds p := hA0
  rw [Try.params4] at hA hval
  obtain ⟨v0, vs0, d0, ds0, p0, q0, hargs, rfl, rfl, h0, r0⟩ := trodAll_cons hA
  obtain ⟨v1, vs1, d1, ds1, p1, q1, rfl, rfl, rfl, h1, r1⟩ := trodAll_cons r0
  obtain ⟨rfl, rfl, rfl⟩ := trodAll_nil r1
  obtain rfl : args = #[v0, v1] := by cases args; simp_all
  obtain ⟨rfl, rfl⟩ := trodVars_none hV
  obtain ⟨cs0, rfl, _⟩ := okWide_struct Try.underlying39 (hval 0 39 v0 rfl rfl)
  have k0 := h0
  have lt0 : ∀ x ∈ p0, x.block < W.heap.size := by obtain ⟨m, hm⟩ := k0; exact DataW.trod_lt m _ _ _ hm
  obtain ⟨f0, bv0, et0, w0⟩ : ∃ f bv, cs0 = (cmpOf f bv).toArray ∧ StmsIn W (fun _ => True) bv f.body ∧ ShortC maxLen f := by
    obtain ⟨fuel, hf⟩ := h0
    obtain ⟨f, bv, e0, e1, e2⟩ := read_cmp hf
    exact ⟨f, bv, by rw [← Array.toList_inj]; simpa [Value.cells] using e0, e1, e2⟩
  subst et0
  obtain ⟨cs1, rfl, _⟩ := okWide_struct Try.underlying24 (hval 1 24 v1 rfl rfl)
  have k1 := h1
  have lt1 : ∀ x ∈ p1, x.block < W.heap.size := by obtain ⟨m, hm⟩ := k1; exact DataW.trod_lt m _ _ _ hm
  obtain ⟨f1, bv1, et1, w1⟩ : ∃ f bv, cs1 = (filOf f bv).toArray ∧ StmsIn W (fun _ => True) bv f.body ∧ ShortF maxLen f := by
    obtain ⟨fuel, hf⟩ := h1
    obtain ⟨f, bv, e0, e1, e2⟩ := read_fil hf
    exact ⟨f, bv, by rw [← Array.toList_inj]; simpa [Value.cells] using e0, e1, e2⟩
  subst et1
  clear hA0 hval0
  refine (walk f0 bv0 f1 bv1 W w0 w1).mono fun e W' ⟨he, bel⟩ => ?_
  subst he
  exact ⟨_, rfl, _, _, _, [], _, [], hW', trodAll_mk1 (shut_bool Try.underlying4 _), (trodAll_cons_mk (Below.trod laidOut (by kernel_rfl) (of_decide_eq_true (by kernel_rfl)) k0 bel lt0) (trodAll_cons_mk (Below.trod laidOut (by kernel_rfl) (of_decide_eq_true (by kernel_rfl)) k1 bel lt1) trodAll_mk0)), rfl, bel.frame _, fun h => by cases h⟩

theorem over : Rows.fnExactIsUsableRow.holds Try.pinned (OpenSpec.ofChange Rows.fnExactIsUsableSpec) :=
  OpenClaim.holds_of_wide 4 Try.f4 rfl rfl rfl rfl rfl rfl rfl ⟨rfl, rfl, rfl, rfl, rfl⟩ rfl rfl rfl rfl rfl (by kernel_rfl) Try.func4 (by kernel_rfl)
    (of_decide_eq_true (by kernel_rfl)) (by unfold Func.isWrapper; first | (rw [if_pos (by decide +kernel)]; kernel_rfl) | (rw [if_neg (by decide +kernel)]; exact ⟨rfl, rfl⟩))
    (fun os started H enc _ => lifted os started H enc)

/-- THE STATEMENT -/
theorem proved : Rows.FnExactIsUsableSaid := over
end Go.Proofs.Ytebfafefeajemaa.FnExactIsUsable
