/- FnExactLoadBody returns true for every argument. -/
import Derived.Test.YtebfafefeajemaaLoadX
import Derived.Test.YtebfafefeajemaaMarkC
import Derived.Test.YtebfafefeajemaaStoreMem
import Derived.Test.YtebfafefeajemaaExTools
import Derived.Test.YtebfafefeajemaaSzTree
import Derived.Test.YtebfafefeajemaaReadIn
import Derived.Test.YtebfafefeajemaaHeld
import Derived.Test.YtebfafefeajemaaMarks2
import Derived.Test.YtebfafefeajemaaInts
import Derived.Test.YtebfafefeajemaaStrs
import Derived.Test.YtebfafefeajemaaFrame
set_option linter.unusedVariables false
set_option linter.unusedSimpArgs false
namespace Go.Proofs.Ytebfafefeajemaa.FnExactLoadBody
open Go.ChangeShapes Go.WideShapes Go.ChangeAt Go.RowKit Go.Proofs.Ytebfafefeajemaa.Nm

set_option maxRecDepth 100000 in
set_option maxHeartbeats 16000000 in
theorem walk (v0 : Value) (cs0 : List Cmp) (f1 : Fil) (v1 : Value) (n2 : Int) (w : World) (h0 : CmpsIn w (fun _ => True) v0 cs0 ∧ ShortCs maxLen cs0) (h1 : StmsIn w (fun _ => True) v1 f1.body ∧ ShortF maxLen f1) (h2 : (Lit.int .i64 n2).wf = true) :
    Calls Try.prog 5 #[v0, .agg #[.int .i64 f1.root, .string (mk f1.pack), .string (mk f1.name), .bool f1.init, .int .i64 f1.stamp, v1], .int .i64 n2] w fun e w' => e = .returned (.bool true) ∧ Below w.heap.size w w' := by
  obtain ⟨hr0, hz0⟩ := h0
  have HR0 := Lib.hid hr0
  have HZ0 := Lib.hid hz0
  obtain ⟨aa0, ca0, rfl, hlc0, hmc0⟩ := hr0.len
  clear hr0 hz0 hmc0
  obtain ⟨hr1, hz1⟩ := h1
  obtain ⟨fr1, fp1, fn1, fi1, ft1, fb1⟩ := f1
  obtain ⟨za1, zb1, zc1⟩ := hz1
  dsimp only at hr1 za1 zb1 zc1 ⊢
  have HR1 := Lib.hid hr1
  have HZ1 := Lib.hid zc1
  obtain ⟨aa1, ca1, rfl, hlc1, hmc1⟩ := hr1.len
  clear hr1 zc1 hmc1
  obtain ⟨C0, hC0⟩ : ∃ C, C = cmpsCost cs0 := ⟨_, rfl⟩
  have HC0 := Lib.hid hC0
  clear hC0
  obtain ⟨C1, hC1⟩ : ∃ C, C = filCost (⟨fr1, fp1, fn1, fi1, ft1, fb1⟩ : Fil) := ⟨_, rfl⟩
  have HC1 := Lib.hid hC1
  clear hC1
  obtain ⟨g0, hg0⟩ : ∃ g, g = (loadB cs0 ⟨fr1, fp1, fn1, fi1, ft1, fb1⟩ n2).1 := ⟨_, rfl⟩
  obtain ⟨g1, hg1⟩ : ∃ g, g = (loadB cs0 ⟨fr1, fp1, fn1, fi1, ft1, fb1⟩ n2).2.1 := ⟨_, rfl⟩
  obtain ⟨g2, hg2⟩ : ∃ g, g = (loadB cs0 ⟨fr1, fp1, fn1, fi1, ft1, fb1⟩ n2).2.2 := ⟨_, rfl⟩
  have hgf := loadB_fine cs0 ⟨fr1, fp1, fn1, fi1, ft1, fb1⟩ n2
  rw [← hg0, ← hg1] at hgf
  have Hgb1 := Lib.hid (endC_fine hgf.2.1 hgf.2.2)
  have hgl := hgf.1
  have hgl1 := hgf.2.2
  clear hgf
  have HG0 := Lib.hid hg0
  clear hg0
  have HG1 := Lib.hid hg1
  clear hg1
  have HG2 := Lib.hid hg2
  clear hg2
  have Hsg0 := Lib.hid (show sameStms g0 g0 = true from decide_eq_true rfl)
  have Hsg1 := Lib.hid (show sameCmps g1 g1 = true from decide_eq_true rfl)
  go_enter Try.func5, Try.ntmps5
  go_wp2_with fail
  refine (laws_szCompiledS _ cs0 _ 1048576 _ (HR0.out.below (by (repeat (with_reducible first | exact Below.refl _ _ | assumption | refine ba ?_ _ | refine bd ?_ | refine bdN ?_ _ | refine bs ?_ (by first | exact Nat.le_refl _ | (dsimp only; omega) | (simp; done)) _ | refine bt ?_ (by assumption))))) HZ0.out (by omega)).mono ?_
  rintro _ w1 ⟨r1, rfl, hr1, hb1⟩
  have hs1 : Below w.heap.size w w1 := by (repeat (with_reducible first | exact Below.refl _ _ | assumption | refine ba ?_ _ | refine bd ?_ | refine bdN ?_ _ | refine bs ?_ (by first | exact Nat.le_refl _ | (dsimp only; omega) | (simp; done)) _ | refine bt ?_ (by assumption)))
  have Bw1 := Lib.hid (hs1)
  have X2 := Lib.hid (show BoxC w1 (w.heap.size) #[.int .i64 fr1, .string (mk fp1), .string (mk fn1), .bool fi1, .int .i64 ft1, .slice aa1 fb1.length ca1] from ((BoxC.start w #[.int .i64 fr1, .string (mk fp1), .string (mk fn1), .bool fi1, .int .i64 ft1, .slice aa1 fb1.length ca1] 24).below hb1).at (by simp))
  rw [← HC0.out] at hr1
  have k3_0 : w1.cell? ⟨w.heap.size, 0, none⟩ = some (.int .i64 fr1) := (X2.out).2 0
  have k3_1 : w1.cell? ⟨w.heap.size, 1, none⟩ = some (.string (mk fp1)) := (X2.out).2 1
  have k3_2 : w1.cell? ⟨w.heap.size, 2, none⟩ = some (.string (mk fn1)) := (X2.out).2 2
  have k3_3 : w1.cell? ⟨w.heap.size, 3, none⟩ = some (.bool fi1) := (X2.out).2 3
  have k3_4 : w1.cell? ⟨w.heap.size, 4, none⟩ = some (.int .i64 ft1) := (X2.out).2 4
  have k3_5 : w1.cell? ⟨w.heap.size, 5, none⟩ = some (.slice aa1 fb1.length ca1) := (X2.out).2 5
  have kl3 := (X2.out).1
  by_cases hn1 : r1 < 0
  · go_wp2_with fail
    go_ret
    exact ⟨rfl, Bw1.out⟩
  obtain ⟨R1, rfl⟩ := Int.eq_ofNat_of_zero_le (show 0 ≤ r1 by omega)
  have hR1 : R1 + C0 ≤ 1048576 := by omega
  clear hr1
  go_wp2_with fail
  refine (laws_szFile _ _ _ _ _ _ fb1 _ R1 _ za1 zb1 (HR1.out.below (bt Bw1.out (by (repeat (with_reducible first | exact Below.refl _ _ | assumption | refine ba ?_ _ | refine bd ?_ | refine bdN ?_ _ | refine bs ?_ (by first | exact Nat.le_refl _ | (dsimp only; omega) | (simp; done)) _ | refine bt ?_ (by assumption)))))) HZ1.out (by omega)).mono ?_
  rintro _ w4 ⟨r4, rfl, hr4, hb4⟩
  clear k3_0 k3_1 k3_2 k3_3 k3_4 k3_5 kl3
  have hs4 : Below w1.heap.size w1 w4 := by (repeat (with_reducible first | exact Below.refl _ _ | assumption | refine ba ?_ _ | refine bd ?_ | refine bdN ?_ _ | refine bs ?_ (by first | exact Nat.le_refl _ | (dsimp only; omega) | (simp; done)) _ | refine bt ?_ (by assumption)))
  have Bw4 := Lib.hid (bt Bw1.out hs4)
  have X5 := Lib.hid (X2.out.below hs4)
  clear Bw1 X2
  rw [← HC1.out] at hr4
  by_cases hn4 : r4 < 0
  · go_wp2_with fail
    go_ret
    exact ⟨rfl, Bw4.out⟩
  obtain ⟨R4, rfl⟩ := Int.eq_ofNat_of_zero_le (show 0 ≤ r4 by omega)
  have hR4 : R4 + C1 ≤ R1 := by omega
  clear hr4
  have HL0 := Lib.hid (cmpCosts_of (by rw [← HC0.out]; omega : cmpsCost cs0 ≤ 1048576))
  have HS0 := Lib.hid (shortCs_mono (B := 2000000) (by omega) (shortCs_of (by rw [← HC0.out]; omega : cmpsCost cs0 ≤ 1048576)))
  have hln0 : cs0.length ≤ 1048576 := HL0.out.1
  have Hse0 := Lib.hid (show sameCmps cs0 cs0 = true from decide_eq_true rfl)
  have HE0 := Lib.hid (fun k => (show endC k cs0 ≤ k + 7 * C0 by rw [HC0.out]; exact endC_le k cs0))
  have HS1 := Lib.hid (shortF_of (by rw [← HC1.out]; omega : filCost (⟨fr1, fp1, fn1, fi1, ft1, fb1⟩ : Fil) ≤ 1048576))
  have hln1 : fb1.length ≤ C1 ∧ fp1.length ≤ 1048576 ∧ fn1.length ≤ 1048576 := by have h1 := HC1.out; have h2 := HS1.out.1; have h3 := HS1.out.2.1; have e : filCost (⟨fr1, fp1, fn1, fi1, ft1, fb1⟩ : Fil) = fp1.length + fn1.length + (fb1.length + (fb1.map stmCost).sum) := rfl; dsimp only at h2 h3; omega
  have HB1 := Lib.hid (short_mono (B := 2000000) (by omega) HS1.out.2.2)
  have Hse1 := Lib.hid (show sameFil (⟨fr1, fp1, fn1, fi1, ft1, fb1⟩ : Fil) (⟨fr1, fp1, fn1, fi1, ft1, fb1⟩ : Fil) = true from decide_eq_true rfl)
  have HSS0 := Lib.hid (shortCs_of (by rw [← HC0.out]; omega : cmpsCost cs0 ≤ 1048576))
  have Hk6 := Lib.hid (fun (w' : World) (hC : Below w4.heap.size w4 w') => (⟨((X5.out).below hC).2 0, ((X5.out).below hC).2 1, ((X5.out).below hC).2 2, ((X5.out).below hC).2 3, ((X5.out).below hC).2 4, ((X5.out).below hC).2 5, hC⟩ : w'.cell? ⟨w.heap.size, 0, none⟩ = some (.int .i64 fr1) ∧ w'.cell? ⟨w.heap.size, 1, none⟩ = some (.string (mk fp1)) ∧ w'.cell? ⟨w.heap.size, 2, none⟩ = some (.string (mk fn1)) ∧ w'.cell? ⟨w.heap.size, 3, none⟩ = some (.bool fi1) ∧ w'.cell? ⟨w.heap.size, 4, none⟩ = some (.int .i64 ft1) ∧ w'.cell? ⟨w.heap.size, 5, none⟩ = some (.slice aa1 fb1.length ca1) ∧ Below w4.heap.size w4 w'))
  have HPHk6_0 := Lib.hid (HR0.out.below Bw4.out)
  have HPHk6_1 := Lib.hid (HR1.out.below Bw4.out)
  go_wp2_with fail
  go_region_held3 (fun w' => w'.cell? ⟨w.heap.size, 0, none⟩ = some (.int .i64 fr1) ∧ w'.cell? ⟨w.heap.size, 1, none⟩ = some (.string (mk fp1)) ∧ w'.cell? ⟨w.heap.size, 2, none⟩ = some (.string (mk fn1)) ∧ w'.cell? ⟨w.heap.size, 3, none⟩ = some (.bool fi1) ∧ w'.cell? ⟨w.heap.size, 4, none⟩ = some (.int .i64 ft1) ∧ w'.cell? ⟨w.heap.size, 5, none⟩ = some (.slice aa1 fb1.length ca1) ∧ Below w4.heap.size w4 w')
    (exact Hk6.out _ (by (repeat (with_reducible first | exact Below.refl _ _ | assumption | refine ba ?_ _ | refine bd ?_ | refine bdN ?_ _ | refine bs ?_ (by first | exact Nat.le_refl _ | (dsimp only; omega) | (simp; done)) _ | refine bt ?_ (by assumption)))))
    (first
      | (go_at_call 29; refine (laws_toCompiledS _ cs0 _ _ (HPHk6_0.out.below (by (repeat (with_reducible first | exact Below.refl _ _ | assumption | refine ba ?_ _ | refine bd ?_ | refine bdN ?_ _ | refine bs ?_ (by first | exact Nat.le_refl _ | (dsimp only; omega) | (simp; done)) _ | refine bt ?_ (by assumption))))) HL0.out).mono ?_; rintro _ w7 ⟨v7, ps7, rfl, hps7, ho7, hb7⟩; obtain ⟨a7, c7, rfl⟩ := ho7.len; have hpl7 : ps7.length = cs0.length := (by rw [← hps7, List.length_map]); rw [hpl7] at ho7 ⊢; have I7 := Lib.hid (show CmpsIn w7 (fun _ => True) (.slice a7 cs0.length c7) cs0 by have h := ho7.fils (D := (fun _ => True)) (fun _ _ => trivial); rw [hps7] at h; exact h); have O7 := Lib.hid ho7; have Hps7 := Lib.hid hps7; clear ho7 hps7)
      | (go_at_call 16; refine (laws_toFile _ _ _ _ _ _ fb1 _ _ (HPHk6_1.out.below (by (repeat (with_reducible first | exact Below.refl _ _ | assumption | refine ba ?_ _ | refine bd ?_ | refine bdN ?_ _ | refine bs ?_ (by first | exact Nat.le_refl _ | (dsimp only; omega) | (simp; done)) _ | refine bt ?_ (by assumption))))) (by omega)).mono ?_; rintro _ w8 ⟨v8, rfl, ho8, hb8⟩; obtain ⟨a8, c8, rfl⟩ := owns_shape ho8; unfold filV; dsimp only; have I8 := Lib.hid (show StmsIn w8 (fun _ => True) (.slice a8 fb1.length c8) fb1 from StmsIn.of_owns ho8 (fun _ _ => trivial)); have O8 := Lib.hid ho8; clear ho8)
      | (go_at_call 28; refine (spec_LoadBodyX _ cs0 _ _ _ _ _ _ _ fb1 n2 _ _ _ (O7.out.below (by (repeat (with_reducible first | exact Below.refl _ _ | assumption | refine ba ?_ _ | refine bd ?_ | refine bdN ?_ _ | refine bs ?_ (by first | exact Nat.le_refl _ | (dsimp only; omega) | (simp; done)) _ | refine bt ?_ (by assumption))))) Hps7.out HSS0.out HL0.out (owns_below O8.out (by (repeat (with_reducible first | exact Below.refl _ _ | assumption | refine ba ?_ _ | refine bd ?_ | refine bdN ?_ _ | refine bs ?_ (by first | exact Nat.le_refl _ | (dsimp only; omega) | (simp; done)) _ | refine bt ?_ (by assumption))))) HS1.out (by omega)).mono ?_; rintro _ w9 ⟨v9_0, v9_1, ps9_1, rfl, ho9_0, hps9_1, ho9_1, hap9_1, hb9⟩; (try rw [← HG0.out]); (try rw [← HG0.out] at ho9_0); obtain ⟨a9_0, c9_0, rfl⟩ := owns_shape ho9_0; have I9_0 := Lib.hid (show StmsIn w9 (fun _ => True) (.slice a9_0 g0.length c9_0) g0 from StmsIn.of_owns ho9_0 (fun _ _ => trivial)); have O9_0 := Lib.hid ho9_0; have OK9_0 := Lib.hid ho9_0; clear ho9_0; (try rw [← HG1.out]); (try rw [← HG1.out] at hps9_1); (try rw [← HG1.out] at ho9_1); (try rw [← HG1.out] at hap9_1); obtain ⟨a9_1, c9_1, rfl⟩ := ho9_1.len; have HD9_1 := Lib.hid (apart_blk OK9_0.out ho9_1 hap9_1); clear hap9_1; have hpl9_1 : ps9_1.length = g1.length := (by rw [← hps9_1, List.length_map]); rw [hpl9_1] at ho9_1 ⊢; rw [hpl9_1] at HD9_1; have I9_1 := Lib.hid (show CmpsIn w9 (fun _ => True) (.slice a9_1 g1.length c9_1) g1 by have h := ho9_1.fils (D := (fun _ => True)) (fun _ _ => trivial); rw [hps9_1] at h; exact h); have O9_1 := Lib.hid ho9_1; have Hps9_1 := Lib.hid hps9_1; clear ho9_1 hps9_1; (try rw [← HG2.out])))
  have hs9 : Below w4.heap.size w4 w9 := by (repeat (with_reducible first | exact Below.refl _ _ | assumption | refine ba ?_ _ | refine bd ?_ | refine bdN ?_ _ | refine bs ?_ (by first | exact Nat.le_refl _ | (dsimp only; omega) | (simp; done)) _ | refine bt ?_ (by assumption)))
  have Bw9 := Lib.hid (bt Bw4.out hs9)
  have X10 := Lib.hid (X5.out.below hs9)
  clear Bw4 X5
  obtain ⟨WW, hWW⟩ : ∃ WW, WW = w9 := ⟨_, rfl⟩
  have hWs : WW.heap.size = w9.heap.size + 0 := by rw [hWW]; simp
  have hcW : Below w9.heap.size w9 WW := by rw [hWW]; (repeat (with_reducible first | exact Below.refl _ _ | assumption | refine ba ?_ _ | refine bd ?_ | refine bdN ?_ _ | refine bs ?_ (by first | exact Nat.le_refl _ | (dsimp only; omega) | (simp; done)) _ | refine bt ?_ (by assumption)))
  have IW0 := Lib.hid (I9_0.out.below hcW)
  have IW1 := Lib.hid (I9_1.out.below hcW)
  have HwW := Lib.hid (bt Bw9.out hcW)
  have Hpl1 := Lib.hid (show w.heap.size < WW.heap.size by have := X10.out.1; omega)
  have HWs := Lib.hid hWs
  clear hWs hcW
  go_wp2_with fail
  refine (laws_toCompiledS _ cs0 _ _ (HR0.out.below (bt Bw9.out (by (repeat (with_reducible first | exact Below.refl _ _ | assumption | refine ba ?_ _ | refine bd ?_ | refine bdN ?_ _ | refine bs ?_ (by first | exact Nat.le_refl _ | (dsimp only; omega) | (simp; done)) _ | refine bt ?_ (by assumption)))))) HL0.out).mono ?_
  rintro _ w11 ⟨v11, ps11, rfl, hps11, ho11, hb11⟩
  have hs11 : Below w9.heap.size w9 w11 := by (repeat (with_reducible first | exact Below.refl _ _ | assumption | refine ba ?_ _ | refine bd ?_ | refine bdN ?_ _ | refine bs ?_ (by first | exact Nat.le_refl _ | (dsimp only; omega) | (simp; done)) _ | refine bt ?_ (by assumption)))
  have Bw11 := Lib.hid (bt Bw9.out hs11)
  have BW11 := Lib.hid (show Below WW.heap.size WW w11 by rw [hWW]; exact hb11)
  have X12 := Lib.hid (X10.out.below hs11)
  clear Bw9 X10
  have Hz11 := Lib.hid (show w9.heap.size ≤ w11.heap.size by have h := hb11.size; first | omega | (simp at h; omega))
  obtain ⟨a11, c11, rfl⟩ := ho11.len
  have hpl11 : ps11.length = cs0.length := (by rw [← hps11, List.length_map])
  rw [hpl11] at ho11 ⊢
  have I11 := Lib.hid (show CmpsIn w11 (fun _ => True) (.slice a11 cs0.length c11) cs0 by have h := ho11.fils (D := (fun _ => True)) (fun _ _ => trivial); rw [hps11] at h; exact h)
  have O11 := Lib.hid ho11
  have Hps11 := Lib.hid hps11
  clear ho11 hps11
  have OO11 := Lib.hid (O11.out.mono (show w9.heap.size ≤ _ by simp))
  clear O11
  have Hv11 := Lib.hid (fun b (hb : BlkC (.slice a11 cs0.length c11) ps11 b) => (show w9.heap.size ≤ b ∧ b < w11.heap.size by have h := (blkC_ge OO11.out) b hb; first | exact h | (simp at h; exact h)))
  have k13_0 : w11.cell? ⟨w.heap.size, 0, none⟩ = some (.int .i64 fr1) := (X12.out).2 0
  have k13_1 : w11.cell? ⟨w.heap.size, 1, none⟩ = some (.string (mk fp1)) := (X12.out).2 1
  have k13_2 : w11.cell? ⟨w.heap.size, 2, none⟩ = some (.string (mk fn1)) := (X12.out).2 2
  have k13_3 : w11.cell? ⟨w.heap.size, 3, none⟩ = some (.bool fi1) := (X12.out).2 3
  have k13_4 : w11.cell? ⟨w.heap.size, 4, none⟩ = some (.int .i64 ft1) := (X12.out).2 4
  have k13_5 : w11.cell? ⟨w.heap.size, 5, none⟩ = some (.slice aa1 fb1.length ca1) := (X12.out).2 5
  have kl13 := (X12.out).1
  go_wp2_with fail
  refine (laws_toFile _ _ _ _ _ _ fb1 _ _ (HR1.out.below (bt Bw11.out (by (repeat (with_reducible first | exact Below.refl _ _ | assumption | refine ba ?_ _ | refine bd ?_ | refine bdN ?_ _ | refine bs ?_ (by first | exact Nat.le_refl _ | (dsimp only; omega) | (simp; done)) _ | refine bt ?_ (by assumption)))))) (by omega)).mono ?_
  rintro _ w14 ⟨v14, rfl, ho14, hb14⟩
  clear k13_0 k13_1 k13_2 k13_3 k13_4 k13_5 kl13
  have hs14 : Below w11.heap.size w11 w14 := by (repeat (with_reducible first | exact Below.refl _ _ | assumption | refine ba ?_ _ | refine bd ?_ | refine bdN ?_ _ | refine bs ?_ (by first | exact Nat.le_refl _ | (dsimp only; omega) | (simp; done)) _ | refine bt ?_ (by assumption)))
  have Bw14 := Lib.hid (bt Bw11.out hs14)
  have BW14 := Lib.hid (bt BW11.out hs14)
  have X15 := Lib.hid (X12.out.below hs14)
  have J16 := Lib.hid (I11.out.below hs14)
  have Q16 := Lib.hid (OO11.out.below hs14)
  clear Bw11 BW11 X12 I11 OO11
  have Hz14 := Lib.hid (show w11.heap.size ≤ w14.heap.size by have h := hb14.size; first | omega | (simp at h; omega))
  obtain ⟨a14, c14, rfl⟩ := owns_shape ho14
  unfold filV; dsimp only
  have I14 := Lib.hid (show StmsIn w14 (fun _ => True) (.slice a14 fb1.length c14) fb1 from StmsIn.of_owns ho14 (fun _ _ => trivial))
  have O14 := Lib.hid ho14
  clear ho14
  have OO14 := Lib.hid (owns_mono O14.out (show w11.heap.size ≤ _ by simp))
  clear O14
  have Hv14 := Lib.hid (fun b (hb : (Value.slice a14 fb1.length c14).ownBlock = some b) => (show w11.heap.size ≤ b ∧ b < w14.heap.size by have h := (fun b hb => OO14.out.lt b hb) b hb; first | exact h | (simp at h; exact h)))
  go_wp2_with fail
  refine (impl_LoadBodyX _ cs0 _ _ _ _ _ _ _ fb1 n2 _ _ _ (Q16.out.below (by (repeat (with_reducible first | exact Below.refl _ _ | assumption | refine ba ?_ _ | refine bd ?_ | refine bdN ?_ _ | refine bs ?_ (by first | exact Nat.le_refl _ | (dsimp only; omega) | (simp; done)) _ | refine bt ?_ (by assumption))))) Hps11.out HSS0.out HL0.out (owns_below OO14.out (by (repeat (with_reducible first | exact Below.refl _ _ | assumption | refine ba ?_ _ | refine bd ?_ | refine bdN ?_ _ | refine bs ?_ (by first | exact Nat.le_refl _ | (dsimp only; omega) | (simp; done)) _ | refine bt ?_ (by assumption))))) HS1.out (by omega)).mono ?_
  rintro _ w17 ⟨v17_0, v17_1, ps17_1, rfl, ho17_0, hps17_1, ho17_1, hap17_1, hb17⟩
  have hs17 : Below w14.heap.size w14 w17 := by (repeat (with_reducible first | exact Below.refl _ _ | assumption | refine ba ?_ _ | refine bd ?_ | refine bdN ?_ _ | refine bs ?_ (by first | exact Nat.le_refl _ | (dsimp only; omega) | (simp; done)) _ | refine bt ?_ (by assumption)))
  have Bw17 := Lib.hid (bt Bw14.out hs17)
  have BW17 := Lib.hid (bt BW14.out hs17)
  have X18 := Lib.hid (X15.out.below hs17)
  have X19 := Lib.hid (show BoxC w17 (w14.heap.size) #[.int .i64 fr1, .string (mk fp1), .string (mk fn1), .bool fi1, .int .i64 ft1, .slice a14 fb1.length c14] from ((BoxC.start w14 #[.int .i64 fr1, .string (mk fp1), .string (mk fn1), .bool fi1, .int .i64 ft1, .slice a14 fb1.length c14] 31).below hb17).at (by simp))
  have J20 := Lib.hid (J16.out.below hs17)
  have Q20 := Lib.hid (Q16.out.below hs17)
  have J21 := Lib.hid (I14.out.below hs17)
  have Q21 := Lib.hid (owns_below OO14.out hs17)
  clear Bw14 BW14 X15 J16 Q16 I14 OO14
  have Hz17 := Lib.hid (show w14.heap.size + 1 ≤ w17.heap.size by have h := hb17.size; first | omega | (simp at h; omega))
  try rw [← HG0.out]
  try rw [← HG0.out] at ho17_0
  obtain ⟨a17_0, c17_0, rfl⟩ := owns_shape ho17_0
  have I17_0 := Lib.hid (show StmsIn w17 (fun _ => True) (.slice a17_0 g0.length c17_0) g0 from StmsIn.of_owns ho17_0 (fun _ _ => trivial))
  have O17_0 := Lib.hid ho17_0
  have OK17_0 := Lib.hid ho17_0
  clear ho17_0
  try rw [← HG1.out]
  try rw [← HG1.out] at hps17_1
  try rw [← HG1.out] at ho17_1
  try rw [← HG1.out] at hap17_1
  obtain ⟨a17_1, c17_1, rfl⟩ := ho17_1.len
  have HD17_1 := Lib.hid (apart_blk OK17_0.out ho17_1 hap17_1)
  clear hap17_1
  have hpl17_1 : ps17_1.length = g1.length := (by rw [← hps17_1, List.length_map])
  rw [hpl17_1] at ho17_1 ⊢
  rw [hpl17_1] at HD17_1
  have I17_1 := Lib.hid (show CmpsIn w17 (fun _ => True) (.slice a17_1 g1.length c17_1) g1 by have h := ho17_1.fils (D := (fun _ => True)) (fun _ _ => trivial); rw [hps17_1] at h; exact h)
  have O17_1 := Lib.hid ho17_1
  have Hps17_1 := Lib.hid hps17_1
  clear ho17_1 hps17_1
  try rw [← HG2.out]
  have OO17_0 := Lib.hid (owns_mono O17_0.out (show w14.heap.size + 1 ≤ _ by simp))
  clear O17_0
  have Hv22 := Lib.hid (fun b (hb : (Value.slice a17_0 g0.length c17_0).ownBlock = some b) => (show w14.heap.size + 1 ≤ b ∧ b < w17.heap.size by have h := (fun b hb => OO17_0.out.lt b hb) b hb; first | exact h | (simp at h; exact h)))
  have OO17_1 := Lib.hid (O17_1.out.mono (show w14.heap.size + 1 ≤ _ by simp))
  clear O17_1
  have Hv23 := Lib.hid (fun b (hb : BlkC (.slice a17_1 g1.length c17_1) ps17_1 b) => (show w14.heap.size + 1 ≤ b ∧ b < w17.heap.size by have h := (blkC_ge OO17_1.out) b hb; first | exact h | (simp at h; exact h)))
  go_wp2_with fail
  refine (laws_eqStmtS _ _ g0 g0 (fun _ => True) (fun _ => True) _ (I17_0.out.below (by (repeat (with_reducible first | exact Below.refl _ _ | assumption | refine ba ?_ _ | refine bd ?_ | refine bdN ?_ _ | refine bs ?_ (by first | exact Nat.le_refl _ | (dsimp only; omega) | (simp; done)) _ | refine bt ?_ (by assumption))))) (IW0.out.below (bt BW17.out (by (repeat (with_reducible first | exact Below.refl _ _ | assumption | refine ba ?_ _ | refine bd ?_ | refine bdN ?_ _ | refine bs ?_ (by first | exact Nat.le_refl _ | (dsimp only; omega) | (simp; done)) _ | refine bt ?_ (by assumption))))))).mono ?_
  rintro _ w24 ⟨rfl, hb24⟩
  have hs24 : Below w17.heap.size w17 w24 := by (repeat (with_reducible first | exact Below.refl _ _ | assumption | refine ba ?_ _ | refine bd ?_ | refine bdN ?_ _ | refine bs ?_ (by first | exact Nat.le_refl _ | (dsimp only; omega) | (simp; done)) _ | refine bt ?_ (by assumption)))
  have Bw24 := Lib.hid (bt Bw17.out hs24)
  have BW24 := Lib.hid (bt BW17.out hs24)
  have X25 := Lib.hid (X18.out.below hs24)
  have X26 := Lib.hid (X19.out.below hs24)
  have J27 := Lib.hid (J20.out.below hs24)
  have Q27 := Lib.hid (Q20.out.below hs24)
  have J28 := Lib.hid (J21.out.below hs24)
  have Q28 := Lib.hid (owns_below Q21.out hs24)
  have J29 := Lib.hid (I17_0.out.below hs24)
  have Q29 := Lib.hid (owns_below OO17_0.out hs24)
  have J30 := Lib.hid (I17_1.out.below hs24)
  have Q30 := Lib.hid (OO17_1.out.below hs24)
  clear Bw17 BW17 X18 X19 J20 Q20 J21 Q21 I17_0 OO17_0 I17_1 OO17_1
  rw [Hsg0.out]
  go_wp2_with fail
  refine (laws_eqCompiledS _ _ g1 g1 (fun _ => True) (fun _ => True) _ (J30.out.below (by (repeat (with_reducible first | exact Below.refl _ _ | assumption | refine ba ?_ _ | refine bd ?_ | refine bdN ?_ _ | refine bs ?_ (by first | exact Nat.le_refl _ | (dsimp only; omega) | (simp; done)) _ | refine bt ?_ (by assumption))))) (IW1.out.below (bt BW24.out (by (repeat (with_reducible first | exact Below.refl _ _ | assumption | refine ba ?_ _ | refine bd ?_ | refine bdN ?_ _ | refine bs ?_ (by first | exact Nat.le_refl _ | (dsimp only; omega) | (simp; done)) _ | refine bt ?_ (by assumption))))))).mono ?_
  rintro _ w31 ⟨rfl, hb31⟩
  have hs31 : Below w24.heap.size w24 w31 := by (repeat (with_reducible first | exact Below.refl _ _ | assumption | refine ba ?_ _ | refine bd ?_ | refine bdN ?_ _ | refine bs ?_ (by first | exact Nat.le_refl _ | (dsimp only; omega) | (simp; done)) _ | refine bt ?_ (by assumption)))
  have Bw31 := Lib.hid (bt Bw24.out hs31)
  have BW31 := Lib.hid (bt BW24.out hs31)
  have X32 := Lib.hid (X25.out.below hs31)
  have X33 := Lib.hid (X26.out.below hs31)
  have J34 := Lib.hid (J27.out.below hs31)
  have Q34 := Lib.hid (Q27.out.below hs31)
  have J35 := Lib.hid (J28.out.below hs31)
  have Q35 := Lib.hid (owns_below Q28.out hs31)
  have J36 := Lib.hid (J29.out.below hs31)
  have Q36 := Lib.hid (owns_below Q29.out hs31)
  have J37 := Lib.hid (J30.out.below hs31)
  have Q37 := Lib.hid (Q30.out.below hs31)
  clear Bw24 BW24 X25 X26 J27 Q27 J28 Q28 J29 Q29 J30 Q30
  rw [Hsg1.out]
  go_wp2_with fail
  refine (laws_toCompiledS _ cs0 _ _ (HR0.out.below (bt Bw31.out (by (repeat (with_reducible first | exact Below.refl _ _ | assumption | refine ba ?_ _ | refine bd ?_ | refine bdN ?_ _ | refine bs ?_ (by first | exact Nat.le_refl _ | (dsimp only; omega) | (simp; done)) _ | refine bt ?_ (by assumption)))))) HL0.out).mono ?_
  rintro _ w38 ⟨v38, ps38, rfl, hps38, ho38, hb38⟩
  have hs38 : Below w31.heap.size w31 w38 := by (repeat (with_reducible first | exact Below.refl _ _ | assumption | refine ba ?_ _ | refine bd ?_ | refine bdN ?_ _ | refine bs ?_ (by first | exact Nat.le_refl _ | (dsimp only; omega) | (simp; done)) _ | refine bt ?_ (by assumption)))
  have Bw38 := Lib.hid (bt Bw31.out hs38)
  have BW38 := Lib.hid (bt BW31.out hs38)
  have X39 := Lib.hid (X32.out.below hs38)
  have X40 := Lib.hid (X33.out.below hs38)
  have J41 := Lib.hid (J34.out.below hs38)
  have Q41 := Lib.hid (Q34.out.below hs38)
  have J42 := Lib.hid (J35.out.below hs38)
  have Q42 := Lib.hid (owns_below Q35.out hs38)
  have J43 := Lib.hid (J36.out.below hs38)
  have Q43 := Lib.hid (owns_below Q36.out hs38)
  have J44 := Lib.hid (J37.out.below hs38)
  have Q44 := Lib.hid (Q37.out.below hs38)
  clear Bw31 BW31 X32 X33 J34 Q34 J35 Q35 J36 Q36 J37 Q37
  obtain ⟨a38, c38, rfl⟩ := ho38.len
  have hpl38 : ps38.length = cs0.length := (by rw [← hps38, List.length_map])
  rw [hpl38] at ho38 ⊢
  have I38 := Lib.hid (show CmpsIn w38 (fun _ => True) (.slice a38 cs0.length c38) cs0 by have h := ho38.fils (D := (fun _ => True)) (fun _ _ => trivial); rw [hps38] at h; exact h)
  have O38 := Lib.hid ho38
  have Hps38 := Lib.hid hps38
  clear ho38 hps38
  go_wp2_with fail
  refine (laws_eqCompiledS _ _ cs0 cs0 (fun _ => True) (fun _ => True) _ (J41.out.below (by (repeat (with_reducible first | exact Below.refl _ _ | assumption | refine ba ?_ _ | refine bd ?_ | refine bdN ?_ _ | refine bs ?_ (by first | exact Nat.le_refl _ | (dsimp only; omega) | (simp; done)) _ | refine bt ?_ (by assumption))))) (I38.out.below (by (repeat (with_reducible first | exact Below.refl _ _ | assumption | refine ba ?_ _ | refine bd ?_ | refine bdN ?_ _ | refine bs ?_ (by first | exact Nat.le_refl _ | (dsimp only; omega) | (simp; done)) _ | refine bt ?_ (by assumption)))))).mono ?_
  rintro _ w45 ⟨rfl, hb45⟩
  have hs45 : Below w38.heap.size w38 w45 := by (repeat (with_reducible first | exact Below.refl _ _ | assumption | refine ba ?_ _ | refine bd ?_ | refine bdN ?_ _ | refine bs ?_ (by first | exact Nat.le_refl _ | (dsimp only; omega) | (simp; done)) _ | refine bt ?_ (by assumption)))
  have Bw45 := Lib.hid (bt Bw38.out hs45)
  have BW45 := Lib.hid (bt BW38.out hs45)
  have X46 := Lib.hid (X39.out.below hs45)
  have X47 := Lib.hid (X40.out.below hs45)
  have J48 := Lib.hid (J41.out.below hs45)
  have Q48 := Lib.hid (Q41.out.below hs45)
  have J49 := Lib.hid (J42.out.below hs45)
  have Q49 := Lib.hid (owns_below Q42.out hs45)
  have J50 := Lib.hid (J43.out.below hs45)
  have Q50 := Lib.hid (owns_below Q43.out hs45)
  have J51 := Lib.hid (J44.out.below hs45)
  have Q51 := Lib.hid (Q44.out.below hs45)
  clear Bw38 BW38 X39 X40 J41 Q41 J42 Q42 J43 Q43 J44 Q44
  rw [Hse0.out]
  have Hk52 := Lib.hid (fun (w' : World) (hC : Below w45.heap.size w45 w') => (⟨((X46.out).below hC).2 0, ((X46.out).below hC).2 1, ((X46.out).below hC).2 2, ((X46.out).below hC).2 3, ((X46.out).below hC).2 4, ((X46.out).below hC).2 5, ((X47.out).below hC).2 0, ((X47.out).below hC).2 1, ((X47.out).below hC).2 2, ((X47.out).below hC).2 3, ((X47.out).below hC).2 4, ((X47.out).below hC).2 5, hC⟩ : w'.cell? ⟨w.heap.size, 0, none⟩ = some (.int .i64 fr1) ∧ w'.cell? ⟨w.heap.size, 1, none⟩ = some (.string (mk fp1)) ∧ w'.cell? ⟨w.heap.size, 2, none⟩ = some (.string (mk fn1)) ∧ w'.cell? ⟨w.heap.size, 3, none⟩ = some (.bool fi1) ∧ w'.cell? ⟨w.heap.size, 4, none⟩ = some (.int .i64 ft1) ∧ w'.cell? ⟨w.heap.size, 5, none⟩ = some (.slice aa1 fb1.length ca1) ∧ w'.cell? ⟨w14.heap.size, 0, none⟩ = some (.int .i64 fr1) ∧ w'.cell? ⟨w14.heap.size, 1, none⟩ = some (.string (mk fp1)) ∧ w'.cell? ⟨w14.heap.size, 2, none⟩ = some (.string (mk fn1)) ∧ w'.cell? ⟨w14.heap.size, 3, none⟩ = some (.bool fi1) ∧ w'.cell? ⟨w14.heap.size, 4, none⟩ = some (.int .i64 ft1) ∧ w'.cell? ⟨w14.heap.size, 5, none⟩ = some (.slice a14 fb1.length c14) ∧ Below w45.heap.size w45 w'))
  have HPHk52 := Lib.hid (HR1.out.below Bw45.out)
  go_wp2_with fail
  go_region_held3 (fun w' => w'.cell? ⟨w.heap.size, 0, none⟩ = some (.int .i64 fr1) ∧ w'.cell? ⟨w.heap.size, 1, none⟩ = some (.string (mk fp1)) ∧ w'.cell? ⟨w.heap.size, 2, none⟩ = some (.string (mk fn1)) ∧ w'.cell? ⟨w.heap.size, 3, none⟩ = some (.bool fi1) ∧ w'.cell? ⟨w.heap.size, 4, none⟩ = some (.int .i64 ft1) ∧ w'.cell? ⟨w.heap.size, 5, none⟩ = some (.slice aa1 fb1.length ca1) ∧ w'.cell? ⟨w14.heap.size, 0, none⟩ = some (.int .i64 fr1) ∧ w'.cell? ⟨w14.heap.size, 1, none⟩ = some (.string (mk fp1)) ∧ w'.cell? ⟨w14.heap.size, 2, none⟩ = some (.string (mk fn1)) ∧ w'.cell? ⟨w14.heap.size, 3, none⟩ = some (.bool fi1) ∧ w'.cell? ⟨w14.heap.size, 4, none⟩ = some (.int .i64 ft1) ∧ w'.cell? ⟨w14.heap.size, 5, none⟩ = some (.slice a14 fb1.length c14) ∧ Below w45.heap.size w45 w')
    (exact Hk52.out _ (by (repeat (with_reducible first | exact Below.refl _ _ | assumption | refine ba ?_ _ | refine bd ?_ | refine bdN ?_ _ | refine bs ?_ (by first | exact Nat.le_refl _ | (dsimp only; omega) | (simp; done)) _ | refine bt ?_ (by assumption)))))
    (first
      | (go_at_call 16; refine (laws_toFile _ _ _ _ _ _ fb1 _ _ (HPHk52.out.below (by (repeat (with_reducible first | exact Below.refl _ _ | assumption | refine ba ?_ _ | refine bd ?_ | refine bdN ?_ _ | refine bs ?_ (by first | exact Nat.le_refl _ | (dsimp only; omega) | (simp; done)) _ | refine bt ?_ (by assumption))))) (by omega)).mono ?_; rintro _ w53 ⟨v53, rfl, ho53, hb53⟩; obtain ⟨a53, c53, rfl⟩ := owns_shape ho53; unfold filV; dsimp only; have I53 := Lib.hid (show StmsIn w53 (fun _ => True) (.slice a53 fb1.length c53) fb1 from StmsIn.of_owns ho53 (fun _ _ => trivial)); have O53 := Lib.hid ho53; clear ho53)
      | (go_at_call 19; refine (laws_eqFile _ _ _ _ _ _ fb1 _ _ _ _ _ _ fb1 (fun _ => True) (fun _ => True) _ (J49.out.below (by (repeat (with_reducible first | exact Below.refl _ _ | assumption | refine ba ?_ _ | refine bd ?_ | refine bdN ?_ _ | refine bs ?_ (by first | exact Nat.le_refl _ | (dsimp only; omega) | (simp; done)) _ | refine bt ?_ (by assumption))))) (I53.out.below (by (repeat (with_reducible first | exact Below.refl _ _ | assumption | refine ba ?_ _ | refine bd ?_ | refine bdN ?_ _ | refine bs ?_ (by first | exact Nat.le_refl _ | (dsimp only; omega) | (simp; done)) _ | refine bt ?_ (by assumption)))))).mono ?_; rintro _ w54 ⟨rfl, hb54⟩; rw [Hse1.out]))
  have hs54 : Below w45.heap.size w45 w54 := by (repeat (with_reducible first | exact Below.refl _ _ | assumption | refine ba ?_ _ | refine bd ?_ | refine bdN ?_ _ | refine bs ?_ (by first | exact Nat.le_refl _ | (dsimp only; omega) | (simp; done)) _ | refine bt ?_ (by assumption)))
  have Bw54 := Lib.hid (bt Bw45.out hs54)
  have BW54 := Lib.hid (bt BW45.out hs54)
  have X55 := Lib.hid (X46.out.below hs54)
  have X56 := Lib.hid (X47.out.below hs54)
  have J57 := Lib.hid (J48.out.below hs54)
  have Q57 := Lib.hid (Q48.out.below hs54)
  have J58 := Lib.hid (J49.out.below hs54)
  have Q58 := Lib.hid (owns_below Q49.out hs54)
  have J59 := Lib.hid (J50.out.below hs54)
  have Q59 := Lib.hid (owns_below Q50.out hs54)
  have J60 := Lib.hid (J51.out.below hs54)
  have Q60 := Lib.hid (Q51.out.below hs54)
  clear Bw45 BW45 X46 X47 J48 Q48 J49 Q49 J50 Q50 J51 Q51
  go_wp2_with fail
  have hkk : 1 ≤ 1 := by omega
  refine (laws_markCompiledS (w9.heap.size) _ ps11 1 _ (Q57.out.below (by (repeat (with_reducible first | exact Below.refl _ _ | assumption | refine ba ?_ _ | refine bd ?_ | refine bdN ?_ _ | refine bs ?_ (by first | exact Nat.le_refl _ | (dsimp only; omega) | (simp; done)) _ | refine bt ?_ (by assumption))))) hkk (by rw [Hps11.out]; have := HE0.out 1; omega) (by omega)).mono ?_
  rintro _ w61 ⟨rfl, _, ht61⟩
  have Ht61 := Lib.hid ht61
  clear ht61
  have BW61 := Lib.hid (BW54.out.trans (Ht61.out.below BW54.out.size (fun b hb => by have := (Hv11.out b hb).1; have := Hpl1.out; have := HWs.out; have := Hz11.out; have := Hz14.out; have := Hz17.out; omega)))
  have Bw61 := Lib.hid (show Below w.heap.size w w61 from HwW.out.trans (BW61.out.mono HwW.out.size))
  have X62 := Lib.hid (X55.out.turned Ht61.out (fun hb => by have := Hv11.out _ hb; have := Hpl1.out; have := HWs.out; have := Hz11.out; have := Hz14.out; have := Hz17.out; omega))
  have X63 := Lib.hid (X56.out.turned Ht61.out (fun hb => by have := Hv11.out _ hb; have := Hpl1.out; have := HWs.out; have := Hz11.out; have := Hz14.out; have := Hz17.out; omega))
  have Q64 := Lib.hid (owns_turned Q58.out Ht61.out (fun b hb hS => by have := Hv11.out b hS; have := Hv14.out b hb; have := Hpl1.out; have := HWs.out; have := Hz11.out; have := Hz14.out; have := Hz17.out; omega))
  have Q65 := Lib.hid (owns_turned Q59.out Ht61.out (fun b hb hS => by have := Hv11.out b hS; have := Hv22.out b hb; have := Hpl1.out; have := HWs.out; have := Hz11.out; have := Hz14.out; have := Hz17.out; omega))
  have Q66 := Lib.hid (cmps_turned Q60.out Ht61.out (fun b hb hS => by first | exact HD17_1.out b hS hb | (have := Hv11.out b hS; have := Hv23.out b hb; have := Hpl1.out; have := HWs.out; have := Hz11.out; have := Hz14.out; have := Hz17.out; omega)))
  clear Bw54 BW54 X55 X56 J57 Q57 J58 Q58 J59 Q59 J60 Q60
  clear hkk
  obtain ⟨K67, hK67⟩ : ∃ K, K = endC 1 (ps11.map (·.1)) := ⟨_, rfl⟩
  have hK67b : 1 ≤ K67 ∧ K67 ≤ 1 + 7 * C0 := by rw [hK67]; exact ⟨endC_mono _ _, by rw [Hps11.out]; exact HE0.out 1⟩
  rw [← hK67]
  have HK67 := Lib.hid hK67
  clear hK67
  have k68_0 : w61.cell? ⟨w14.heap.size, 0, none⟩ = some (.int .i64 fr1) := (X63.out).2 0
  have k68_1 : w61.cell? ⟨w14.heap.size, 1, none⟩ = some (.string (mk fp1)) := (X63.out).2 1
  have k68_2 : w61.cell? ⟨w14.heap.size, 2, none⟩ = some (.string (mk fn1)) := (X63.out).2 2
  have k68_3 : w61.cell? ⟨w14.heap.size, 3, none⟩ = some (.bool fi1) := (X63.out).2 3
  have k68_4 : w61.cell? ⟨w14.heap.size, 4, none⟩ = some (.int .i64 ft1) := (X63.out).2 4
  have k68_5 : w61.cell? ⟨w14.heap.size, 5, none⟩ = some (.slice a14 fb1.length c14) := (X63.out).2 5
  have kl68 := (X63.out).1
  go_wp2_with fail
  have hkk : 1 ≤ K67 := by omega
  refine (laws_markFile (w11.heap.size) _ _ _ _ _ _ fb1 K67 _ (owns_below Q64.out (by (repeat (with_reducible first | exact Below.refl _ _ | assumption | refine ba ?_ _ | refine bd ?_ | refine bdN ?_ _ | refine bs ?_ (by first | exact Nat.le_refl _ | (dsimp only; omega) | (simp; done)) _ | refine bt ?_ (by assumption))))) hkk (by omega)).mono ?_
  rintro _ w69 ⟨rfl, _, ht69⟩
  clear k68_0 k68_1 k68_2 k68_3 k68_4 k68_5 kl68
  have Ht69 := Lib.hid ht69
  clear ht69
  have BW69 := Lib.hid (BW61.out.trans (Ht69.out.below BW61.out.size (fun b hb => by have := (Hv14.out b hb).1; have := Hpl1.out; have := HWs.out; have := Hz11.out; have := Hz14.out; have := Hz17.out; omega)))
  have Bw69 := Lib.hid (show Below w.heap.size w w69 from HwW.out.trans (BW69.out.mono HwW.out.size))
  have X70 := Lib.hid (X62.out.turned Ht69.out (fun hb => by have := Hv14.out _ hb; have := Hpl1.out; have := HWs.out; have := Hz11.out; have := Hz14.out; have := Hz17.out; omega))
  have X71 := Lib.hid (X63.out.turned Ht69.out (fun hb => by have := Hv14.out _ hb; have := Hpl1.out; have := HWs.out; have := Hz11.out; have := Hz14.out; have := Hz17.out; omega))
  have Q72 := Lib.hid (owns_turned Q65.out Ht69.out (fun b hb hS => by have := Hv14.out b hS; have := Hv22.out b hb; have := Hpl1.out; have := HWs.out; have := Hz11.out; have := Hz14.out; have := Hz17.out; omega))
  have Q73 := Lib.hid (cmps_turned Q66.out Ht69.out (fun b hb hS => by first | exact HD17_1.out b hS hb | (have := Hv14.out b hS; have := Hv23.out b hb; have := Hpl1.out; have := HWs.out; have := Hz11.out; have := Hz14.out; have := Hz17.out; omega)))
  clear Bw61 BW61 X62 X63 Q64 Q65 Q66
  clear hkk
  obtain ⟨K74, hK74⟩ : ∃ K, K = K67 + 5 * fb1.length := ⟨_, rfl⟩
  have hK74b : K67 ≤ K74 ∧ K74 ≤ K67 + 5 * C1 := by rw [hK74]; exact ⟨by omega, by omega⟩
  rw [← hK74]
  have HK74 := Lib.hid hK74
  clear hK74
  have hk0 : ¬ ((K74 : Nat) : Int) < 0 := Int.not_lt.2 (Int.natCast_nonneg _)
  have I_75 := Lib.hid (show StmsIn w69 (fun _ => True) (.slice a17_0 g0.length c17_0) g0 from StmsIn.of_owns Q72.out (fun _ _ => trivial))
  have I_76 := Lib.hid (show CmpsIn w69 (fun _ => True) (.slice a17_1 g1.length c17_1) g1 by have h := Q73.out.fils (D := (fun _ => True)) (fun _ _ => trivial); rw [Hps17_1.out] at h; exact h)
  go_wp2_with fail
  refine (laws_eqStmtS _ _ g0 g0 (fun _ => True) (fun _ => True) _ (I_75.out.below (by (repeat (with_reducible first | exact Below.refl _ _ | assumption | refine ba ?_ _ | refine bd ?_ | refine bdN ?_ _ | refine bs ?_ (by first | exact Nat.le_refl _ | (dsimp only; omega) | (simp; done)) _ | refine bt ?_ (by assumption))))) (IW0.out.below (bt BW69.out (by (repeat (with_reducible first | exact Below.refl _ _ | assumption | refine ba ?_ _ | refine bd ?_ | refine bdN ?_ _ | refine bs ?_ (by first | exact Nat.le_refl _ | (dsimp only; omega) | (simp; done)) _ | refine bt ?_ (by assumption))))))).mono ?_
  rintro _ w77 ⟨rfl, hb77⟩
  clear hk0
  have hs77 : Below w69.heap.size w69 w77 := by (repeat (with_reducible first | exact Below.refl _ _ | assumption | refine ba ?_ _ | refine bd ?_ | refine bdN ?_ _ | refine bs ?_ (by first | exact Nat.le_refl _ | (dsimp only; omega) | (simp; done)) _ | refine bt ?_ (by assumption)))
  have Bw77 := Lib.hid (bt Bw69.out hs77)
  have BW77 := Lib.hid (bt BW69.out hs77)
  have X78 := Lib.hid (X70.out.below hs77)
  have J79 := Lib.hid (I_75.out.below hs77)
  have Q79 := Lib.hid (owns_below Q72.out hs77)
  have J80 := Lib.hid (I_76.out.below hs77)
  have Q80 := Lib.hid (Q73.out.below hs77)
  clear Bw69 BW69 X70 I_75 Q72 I_76 Q73
  rw [Hsg0.out]
  go_wp2_with fail
  refine (laws_eqCompiledS _ _ g1 g1 (fun _ => True) (fun _ => True) _ (J80.out.below (by (repeat (with_reducible first | exact Below.refl _ _ | assumption | refine ba ?_ _ | refine bd ?_ | refine bdN ?_ _ | refine bs ?_ (by first | exact Nat.le_refl _ | (dsimp only; omega) | (simp; done)) _ | refine bt ?_ (by assumption))))) (IW1.out.below (bt BW77.out (by (repeat (with_reducible first | exact Below.refl _ _ | assumption | refine ba ?_ _ | refine bd ?_ | refine bdN ?_ _ | refine bs ?_ (by first | exact Nat.le_refl _ | (dsimp only; omega) | (simp; done)) _ | refine bt ?_ (by assumption))))))).mono ?_
  rintro _ w81 ⟨rfl, hb81⟩
  have hs81 : Below w77.heap.size w77 w81 := by (repeat (with_reducible first | exact Below.refl _ _ | assumption | refine ba ?_ _ | refine bd ?_ | refine bdN ?_ _ | refine bs ?_ (by first | exact Nat.le_refl _ | (dsimp only; omega) | (simp; done)) _ | refine bt ?_ (by assumption)))
  have Bw81 := Lib.hid (bt Bw77.out hs81)
  have BW81 := Lib.hid (bt BW77.out hs81)
  have X82 := Lib.hid (X78.out.below hs81)
  have J83 := Lib.hid (J79.out.below hs81)
  have Q83 := Lib.hid (owns_below Q79.out hs81)
  have J84 := Lib.hid (J80.out.below hs81)
  have Q84 := Lib.hid (Q80.out.below hs81)
  clear Bw77 BW77 X78 J79 Q79 J80 Q80
  rw [Hsg1.out]
  go_wp2_with fail
  have hkk : 1 ≤ 1 := by omega
  refine (laws_markStmtS (w14.heap.size + 1) _ g0 1 _ (owns_below Q83.out (by (repeat (with_reducible first | exact Below.refl _ _ | assumption | refine ba ?_ _ | refine bd ?_ | refine bdN ?_ _ | refine bs ?_ (by first | exact Nat.le_refl _ | (dsimp only; omega) | (simp; done)) _ | refine bt ?_ (by assumption))))) hkk (by omega)).mono ?_
  rintro _ w85 ⟨rfl, hm85, ht85⟩
  have MO85 := Lib.hid hm85
  have M85 := Lib.hid (show StmsIn w85 (fun _ => True) _ (marksS 1 g0.length) from StmsIn.of_owns (by rw [marksS_len]; exact hm85) (fun _ _ => trivial))
  clear hm85
  have Ht85 := Lib.hid ht85
  clear ht85
  have BW85 := Lib.hid (BW81.out.trans (Ht85.out.below BW81.out.size (fun b hb => by have := (Hv22.out b hb).1; have := Hpl1.out; have := HWs.out; have := Hz11.out; have := Hz14.out; have := Hz17.out; omega)))
  have Bw85 := Lib.hid (show Below w.heap.size w w85 from HwW.out.trans (BW85.out.mono HwW.out.size))
  have X86 := Lib.hid (X82.out.turned Ht85.out (fun hb => by have := Hv22.out _ hb; have := Hpl1.out; have := HWs.out; have := Hz11.out; have := Hz14.out; have := Hz17.out; omega))
  have Q87 := Lib.hid (cmps_turned Q84.out Ht85.out (fun b hb hS => by first | exact HD17_1.out b hS hb | (have := Hv22.out b hS; have := Hv23.out b hb; have := Hpl1.out; have := HWs.out; have := Hz11.out; have := Hz14.out; have := Hz17.out; omega)))
  clear Bw81 BW81 X82 J83 Q83 J84 Q84
  clear hkk
  obtain ⟨K88, hK88⟩ : ∃ K, K = 1 + 5 * g0.length := ⟨_, rfl⟩
  have hK88b : 1 ≤ K88 ∧ K88 ≤ 1 + 5 * g0.length := by rw [hK88]; exact ⟨by omega, by omega⟩
  rw [← hK88]
  have HK88 := Lib.hid hK88
  clear hK88
  go_wp2_with fail
  have hkk : 1 ≤ K88 := by omega
  refine (laws_markCompiledS (w14.heap.size + 1) _ ps17_1 K88 _ (Q87.out.below (by (repeat (with_reducible first | exact Below.refl _ _ | assumption | refine ba ?_ _ | refine bd ?_ | refine bdN ?_ _ | refine bs ?_ (by first | exact Nat.le_refl _ | (dsimp only; omega) | (simp; done)) _ | refine bt ?_ (by assumption))))) hkk (by rw [Hps17_1.out]; have := Hgb1.out K88; omega) (by omega)).mono ?_
  rintro _ w89 ⟨rfl, hm89, ht89⟩
  have M89 := Lib.hid (show CmpsIn w89 (fun _ => True) _ (marksC K88 g1) by have h := hm89.fils (D := (fun _ => True)) (fun _ _ => trivial); rw [markR_fst, Hps17_1.out] at h; exact h)
  clear hm89
  have Ht89 := Lib.hid ht89
  clear ht89
  have BW89 := Lib.hid (BW85.out.trans (Ht89.out.below BW85.out.size (fun b hb => by have := (Hv23.out b hb).1; have := Hpl1.out; have := HWs.out; have := Hz11.out; have := Hz14.out; have := Hz17.out; omega)))
  have Bw89 := Lib.hid (show Below w.heap.size w w89 from HwW.out.trans (BW89.out.mono HwW.out.size))
  have X90 := Lib.hid (X86.out.turned Ht89.out (fun hb => by have := Hv23.out _ hb; have := Hpl1.out; have := HWs.out; have := Hz11.out; have := Hz14.out; have := Hz17.out; omega))
  clear Bw85 BW85 X86 Q87
  have M_91 := Lib.hid (show StmsIn w89 (fun _ => True) _ (marksS 1 g0.length) from StmsIn.of_owns (by rw [marksS_len]; exact owns_turned (owns_below MO85.out (by (repeat (with_reducible first | exact Below.refl _ _ | assumption | refine ba ?_ _ | refine bd ?_ | refine bdN ?_ _ | refine bs ?_ (by first | exact Nat.le_refl _ | (dsimp only; omega) | (simp; done)) _ | refine bt ?_ (by assumption))))) Ht89.out (fun b hb hS => HD17_1.out b hb hS)) (fun _ _ => trivial))
  clear hkk
  rw [Hps17_1.out]
  obtain ⟨K92, hK92⟩ : ∃ K, K = endC K88 g1 := ⟨_, rfl⟩
  have hK92b : K88 ≤ K92 ∧ K92 ≤ K88 + 1000 := by rw [hK92]; exact ⟨endC_mono _ _, by have := Hgb1.out K88; omega⟩
  rw [← hK92]
  have HK92 := Lib.hid hK92
  clear hK92
  go_wp2_with fail
  refine (laws_heldStmtS _ (fun _ => True) g0.length 1 _ (M_91.out.below (by (repeat (with_reducible first | exact Below.refl _ _ | assumption | refine ba ?_ _ | refine bd ?_ | refine bdN ?_ _ | refine bs ?_ (by first | exact Nat.le_refl _ | (dsimp only; omega) | (simp; done)) _ | refine bt ?_ (by assumption))))) (by omega) (by omega)).mono ?_
  rintro _ w93 ⟨rfl, hb93⟩
  have hs93 : Below w89.heap.size w89 w93 := by (repeat (with_reducible first | exact Below.refl _ _ | assumption | refine ba ?_ _ | refine bd ?_ | refine bdN ?_ _ | refine bs ?_ (by first | exact Nat.le_refl _ | (dsimp only; omega) | (simp; done)) _ | refine bt ?_ (by assumption)))
  have Bw93 := Lib.hid (bt Bw89.out hs93)
  have BW93 := Lib.hid (bt BW89.out hs93)
  have X94 := Lib.hid (X90.out.below hs93)
  have N95 := Lib.hid (M_91.out.below hs93)
  have N96 := Lib.hid (M89.out.below hs93)
  clear Bw89 BW89 X90 M_91 M89
  rw [← HK88.out]
  have hk0 : ¬ ((K88 : Nat) : Int) < 0 := Int.not_lt.2 (Int.natCast_nonneg _)
  go_wp2_with fail
  refine (laws_heldCompiledS _ (fun _ => True) g1 K88 _ (N96.out.below (by (repeat (with_reducible first | exact Below.refl _ _ | assumption | refine ba ?_ _ | refine bd ?_ | refine bdN ?_ _ | refine bs ?_ (by first | exact Nat.le_refl _ | (dsimp only; omega) | (simp; done)) _ | refine bt ?_ (by assumption))))) (by omega) (by have := Hgb1.out K88; omega) (by omega)).mono ?_
  rintro _ w97 ⟨rfl, hb97⟩
  clear hk0
  have hs97 : Below w93.heap.size w93 w97 := by (repeat (with_reducible first | exact Below.refl _ _ | assumption | refine ba ?_ _ | refine bd ?_ | refine bdN ?_ _ | refine bs ?_ (by first | exact Nat.le_refl _ | (dsimp only; omega) | (simp; done)) _ | refine bt ?_ (by assumption)))
  have Bw97 := Lib.hid (bt Bw93.out hs97)
  have BW97 := Lib.hid (bt BW93.out hs97)
  have X98 := Lib.hid (X94.out.below hs97)
  have N99 := Lib.hid (N95.out.below hs97)
  have N100 := Lib.hid (N96.out.below hs97)
  clear Bw93 BW93 X94 N95 N96
  rw [← HK92.out]
  have hk0 : ¬ ((K92 : Nat) : Int) < 0 := Int.not_lt.2 (Int.natCast_nonneg _)
  clear hk0
  have Hk101 := Lib.hid (fun (w' : World) (hC : Below w97.heap.size w97 w') => (⟨((X98.out).below hC).2 0, ((X98.out).below hC).2 1, ((X98.out).below hC).2 2, ((X98.out).below hC).2 3, ((X98.out).below hC).2 4, ((X98.out).below hC).2 5, hC⟩ : w'.cell? ⟨w.heap.size, 0, none⟩ = some (.int .i64 fr1) ∧ w'.cell? ⟨w.heap.size, 1, none⟩ = some (.string (mk fp1)) ∧ w'.cell? ⟨w.heap.size, 2, none⟩ = some (.string (mk fn1)) ∧ w'.cell? ⟨w.heap.size, 3, none⟩ = some (.bool fi1) ∧ w'.cell? ⟨w.heap.size, 4, none⟩ = some (.int .i64 ft1) ∧ w'.cell? ⟨w.heap.size, 5, none⟩ = some (.slice aa1 fb1.length ca1) ∧ Below w97.heap.size w97 w'))
  have HPHk101_0 := Lib.hid (HR0.out.below Bw97.out)
  have HPHk101_1 := Lib.hid (HR1.out.below Bw97.out)
  go_wp2_with fail
  go_region_held3 (fun w' => w'.cell? ⟨w.heap.size, 0, none⟩ = some (.int .i64 fr1) ∧ w'.cell? ⟨w.heap.size, 1, none⟩ = some (.string (mk fp1)) ∧ w'.cell? ⟨w.heap.size, 2, none⟩ = some (.string (mk fn1)) ∧ w'.cell? ⟨w.heap.size, 3, none⟩ = some (.bool fi1) ∧ w'.cell? ⟨w.heap.size, 4, none⟩ = some (.int .i64 ft1) ∧ w'.cell? ⟨w.heap.size, 5, none⟩ = some (.slice aa1 fb1.length ca1) ∧ Below w97.heap.size w97 w')
    (exact Hk101.out _ (by (repeat (with_reducible first | exact Below.refl _ _ | assumption | refine ba ?_ _ | refine bd ?_ | refine bdN ?_ _ | refine bs ?_ (by first | exact Nat.le_refl _ | (dsimp only; omega) | (simp; done)) _ | refine bt ?_ (by assumption)))))
    (first
      | (go_at_call 29; refine (laws_toCompiledS _ cs0 _ _ (HPHk101_0.out.below (by (repeat (with_reducible first | exact Below.refl _ _ | assumption | refine ba ?_ _ | refine bd ?_ | refine bdN ?_ _ | refine bs ?_ (by first | exact Nat.le_refl _ | (dsimp only; omega) | (simp; done)) _ | refine bt ?_ (by assumption))))) HL0.out).mono ?_; rintro _ w102 ⟨v102, ps102, rfl, hps102, ho102, hb102⟩; obtain ⟨a102, c102, rfl⟩ := ho102.len; have hpl102 : ps102.length = cs0.length := (by rw [← hps102, List.length_map]); rw [hpl102] at ho102 ⊢; have I102 := Lib.hid (show CmpsIn w102 (fun _ => True) (.slice a102 cs0.length c102) cs0 by have h := ho102.fils (D := (fun _ => True)) (fun _ _ => trivial); rw [hps102] at h; exact h); have O102 := Lib.hid ho102; have Hps102 := Lib.hid hps102; clear ho102 hps102)
      | (go_at_call 16; refine (laws_toFile _ _ _ _ _ _ fb1 _ _ (HPHk101_1.out.below (by (repeat (with_reducible first | exact Below.refl _ _ | assumption | refine ba ?_ _ | refine bd ?_ | refine bdN ?_ _ | refine bs ?_ (by first | exact Nat.le_refl _ | (dsimp only; omega) | (simp; done)) _ | refine bt ?_ (by assumption))))) (by omega)).mono ?_; rintro _ w103 ⟨v103, rfl, ho103, hb103⟩; obtain ⟨a103, c103, rfl⟩ := owns_shape ho103; unfold filV; dsimp only; have I103 := Lib.hid (show StmsIn w103 (fun _ => True) (.slice a103 fb1.length c103) fb1 from StmsIn.of_owns ho103 (fun _ _ => trivial)); have O103 := Lib.hid ho103; clear ho103)
      | (go_at_call 30; refine (impl_LoadBodyX _ cs0 _ _ _ _ _ _ _ fb1 n2 _ _ _ (O102.out.below (by (repeat (with_reducible first | exact Below.refl _ _ | assumption | refine ba ?_ _ | refine bd ?_ | refine bdN ?_ _ | refine bs ?_ (by first | exact Nat.le_refl _ | (dsimp only; omega) | (simp; done)) _ | refine bt ?_ (by assumption))))) Hps102.out HSS0.out HL0.out (owns_below O103.out (by (repeat (with_reducible first | exact Below.refl _ _ | assumption | refine ba ?_ _ | refine bd ?_ | refine bdN ?_ _ | refine bs ?_ (by first | exact Nat.le_refl _ | (dsimp only; omega) | (simp; done)) _ | refine bt ?_ (by assumption))))) HS1.out (by omega)).mono ?_; rintro _ w104 ⟨v104_0, v104_1, ps104_1, rfl, ho104_0, hps104_1, ho104_1, hap104_1, hb104⟩; (try rw [← HG0.out]); (try rw [← HG0.out] at ho104_0); obtain ⟨a104_0, c104_0, rfl⟩ := owns_shape ho104_0; have I104_0 := Lib.hid (show StmsIn w104 (fun _ => True) (.slice a104_0 g0.length c104_0) g0 from StmsIn.of_owns ho104_0 (fun _ _ => trivial)); have O104_0 := Lib.hid ho104_0; have OK104_0 := Lib.hid ho104_0; clear ho104_0; (try rw [← HG1.out]); (try rw [← HG1.out] at hps104_1); (try rw [← HG1.out] at ho104_1); (try rw [← HG1.out] at hap104_1); obtain ⟨a104_1, c104_1, rfl⟩ := ho104_1.len; have HD104_1 := Lib.hid (apart_blk OK104_0.out ho104_1 hap104_1); clear hap104_1; have hpl104_1 : ps104_1.length = g1.length := (by rw [← hps104_1, List.length_map]); rw [hpl104_1] at ho104_1 ⊢; rw [hpl104_1] at HD104_1; have I104_1 := Lib.hid (show CmpsIn w104 (fun _ => True) (.slice a104_1 g1.length c104_1) g1 by have h := ho104_1.fils (D := (fun _ => True)) (fun _ _ => trivial); rw [hps104_1] at h; exact h); have O104_1 := Lib.hid ho104_1; have Hps104_1 := Lib.hid hps104_1; clear ho104_1 hps104_1; (try rw [← HG2.out])))
  have hs104 : Below w97.heap.size w97 w104 := by (repeat (with_reducible first | exact Below.refl _ _ | assumption | refine ba ?_ _ | refine bd ?_ | refine bdN ?_ _ | refine bs ?_ (by first | exact Nat.le_refl _ | (dsimp only; omega) | (simp; done)) _ | refine bt ?_ (by assumption)))
  have Bw104 := Lib.hid (bt Bw97.out hs104)
  have BW104 := Lib.hid (bt BW97.out hs104)
  have X105 := Lib.hid (X98.out.below hs104)
  have N106 := Lib.hid (N99.out.below hs104)
  have N107 := Lib.hid (N100.out.below hs104)
  clear Bw97 BW97 X98 N99 N100
  go_wp2_with fail
  refine (laws_eqStmtS _ _ g0 g0 (fun _ => True) (fun _ => True) _ (I104_0.out.below (by (repeat (with_reducible first | exact Below.refl _ _ | assumption | refine ba ?_ _ | refine bd ?_ | refine bdN ?_ _ | refine bs ?_ (by first | exact Nat.le_refl _ | (dsimp only; omega) | (simp; done)) _ | refine bt ?_ (by assumption))))) (IW0.out.below (bt BW104.out (by (repeat (with_reducible first | exact Below.refl _ _ | assumption | refine ba ?_ _ | refine bd ?_ | refine bdN ?_ _ | refine bs ?_ (by first | exact Nat.le_refl _ | (dsimp only; omega) | (simp; done)) _ | refine bt ?_ (by assumption))))))).mono ?_
  rintro _ w108 ⟨rfl, hb108⟩
  have hs108 : Below w104.heap.size w104 w108 := by (repeat (with_reducible first | exact Below.refl _ _ | assumption | refine ba ?_ _ | refine bd ?_ | refine bdN ?_ _ | refine bs ?_ (by first | exact Nat.le_refl _ | (dsimp only; omega) | (simp; done)) _ | refine bt ?_ (by assumption)))
  have Bw108 := Lib.hid (bt Bw104.out hs108)
  have BW108 := Lib.hid (bt BW104.out hs108)
  have X109 := Lib.hid (X105.out.below hs108)
  have J110 := Lib.hid (I104_0.out.below hs108)
  have J111 := Lib.hid (I104_1.out.below hs108)
  have N112 := Lib.hid (N106.out.below hs108)
  have N113 := Lib.hid (N107.out.below hs108)
  clear Bw104 BW104 X105 I104_0 I104_1 N106 N107
  rw [Hsg0.out]
  go_wp2_with fail
  refine (laws_eqCompiledS _ _ g1 g1 (fun _ => True) (fun _ => True) _ (J111.out.below (by (repeat (with_reducible first | exact Below.refl _ _ | assumption | refine ba ?_ _ | refine bd ?_ | refine bdN ?_ _ | refine bs ?_ (by first | exact Nat.le_refl _ | (dsimp only; omega) | (simp; done)) _ | refine bt ?_ (by assumption))))) (IW1.out.below (bt BW108.out (by (repeat (with_reducible first | exact Below.refl _ _ | assumption | refine ba ?_ _ | refine bd ?_ | refine bdN ?_ _ | refine bs ?_ (by first | exact Nat.le_refl _ | (dsimp only; omega) | (simp; done)) _ | refine bt ?_ (by assumption))))))).mono ?_
  rintro _ w114 ⟨rfl, hb114⟩
  have hs114 : Below w108.heap.size w108 w114 := by (repeat (with_reducible first | exact Below.refl _ _ | assumption | refine ba ?_ _ | refine bd ?_ | refine bdN ?_ _ | refine bs ?_ (by first | exact Nat.le_refl _ | (dsimp only; omega) | (simp; done)) _ | refine bt ?_ (by assumption)))
  have Bw114 := Lib.hid (bt Bw108.out hs114)
  have BW114 := Lib.hid (bt BW108.out hs114)
  have X115 := Lib.hid (X109.out.below hs114)
  have J116 := Lib.hid (J110.out.below hs114)
  have J117 := Lib.hid (J111.out.below hs114)
  have N118 := Lib.hid (N112.out.below hs114)
  have N119 := Lib.hid (N113.out.below hs114)
  clear Bw108 BW108 X109 J110 J111 N112 N113
  rw [Hsg1.out]
  go_wp2_with fail
  refine (laws_heldStmtS _ (fun _ => True) g0.length 1 _ (N118.out.below (by (repeat (with_reducible first | exact Below.refl _ _ | assumption | refine ba ?_ _ | refine bd ?_ | refine bdN ?_ _ | refine bs ?_ (by first | exact Nat.le_refl _ | (dsimp only; omega) | (simp; done)) _ | refine bt ?_ (by assumption))))) (by omega) (by omega)).mono ?_
  rintro _ w120 ⟨rfl, hb120⟩
  have hs120 : Below w114.heap.size w114 w120 := by (repeat (with_reducible first | exact Below.refl _ _ | assumption | refine ba ?_ _ | refine bd ?_ | refine bdN ?_ _ | refine bs ?_ (by first | exact Nat.le_refl _ | (dsimp only; omega) | (simp; done)) _ | refine bt ?_ (by assumption)))
  have Bw120 := Lib.hid (bt Bw114.out hs120)
  have BW120 := Lib.hid (bt BW114.out hs120)
  have X121 := Lib.hid (X115.out.below hs120)
  have J122 := Lib.hid (J116.out.below hs120)
  have J123 := Lib.hid (J117.out.below hs120)
  have N124 := Lib.hid (N118.out.below hs120)
  have N125 := Lib.hid (N119.out.below hs120)
  clear Bw114 BW114 X115 J116 J117 N118 N119
  rw [← HK88.out]
  have hk0 : ¬ ((K88 : Nat) : Int) < 0 := Int.not_lt.2 (Int.natCast_nonneg _)
  go_wp2_with fail
  refine (laws_heldCompiledS _ (fun _ => True) g1 K88 _ (N125.out.below (by (repeat (with_reducible first | exact Below.refl _ _ | assumption | refine ba ?_ _ | refine bd ?_ | refine bdN ?_ _ | refine bs ?_ (by first | exact Nat.le_refl _ | (dsimp only; omega) | (simp; done)) _ | refine bt ?_ (by assumption))))) (by omega) (by have := Hgb1.out K88; omega) (by omega)).mono ?_
  rintro _ w126 ⟨rfl, hb126⟩
  clear hk0
  have hs126 : Below w120.heap.size w120 w126 := by (repeat (with_reducible first | exact Below.refl _ _ | assumption | refine ba ?_ _ | refine bd ?_ | refine bdN ?_ _ | refine bs ?_ (by first | exact Nat.le_refl _ | (dsimp only; omega) | (simp; done)) _ | refine bt ?_ (by assumption)))
  have Bw126 := Lib.hid (bt Bw120.out hs126)
  have BW126 := Lib.hid (bt BW120.out hs126)
  have X127 := Lib.hid (X121.out.below hs126)
  have J128 := Lib.hid (J122.out.below hs126)
  have J129 := Lib.hid (J123.out.below hs126)
  have N130 := Lib.hid (N124.out.below hs126)
  have N131 := Lib.hid (N125.out.below hs126)
  clear Bw120 BW120 X121 J122 J123 N124 N125
  rw [← HK92.out]
  have hk0 : ¬ ((K92 : Nat) : Int) < 0 := Int.not_lt.2 (Int.natCast_nonneg _)
  go_wp2_with fail
  go_ret
  exact ⟨rfl, Bw126.out⟩

/-! ### THE STEP TO THE ROW -/
set_option maxRecDepth 100000 in
theorem lifted (os : Os) (started : os.Started) (H : Type) (enc : TypeId × Value → H) :
    ReturnsInHanded {} Try.checked os 5 .any (Rows.fnExactLoadBodySpec.pre6 enc Try.prog Try.f5 Rows.fnExactLoadBodyRow.domain false) (Rows.fnExactLoadBodySpec.post enc Try.prog Try.f5 false true false false) := by
  refine returnsInHanded_of_change (C := Try.checked) own started (by kernel_rfl) Try.func5
    (ChangeSpec.witness6 (enc := enc) (C := Try.checked) false ⟨#[], #[.slice none 0 0, .agg #[.int .i64 0, .string ByteArray.empty, .string ByteArray.empty, .bool false, .int .i64 0, .slice none 0 0], .int .i64 0], []⟩ 8 (by kernel_rfl) (by kernel_rfl) (by kernel_rfl) (by kernel_rfl)) ?_
  intro W base args ds gs before hval0 hW hcnd _
  have hval : ∀ (j : Nat) t v, Try.f5.params[j]? = some t → args[j]? = some v → Value.okWide Try.prog W .any base t v := hval0
  have hW' := hW
  obtain ⟨p, q, hA0, hV, rfl, hfz, hnd⟩ := hW
  have hA : DataW.TrodAll enc Try.prog W 0 (fun _ => true) true Try.f5.params.toList args.toList ds p := hA0
  rw [Try.params5] at hA hval
  obtain ⟨v0, vs0, d0, ds0, p0, q0, hargs, rfl, rfl, h0, r0⟩ := trodAll_cons hA
  obtain ⟨v1, vs1, d1, ds1, p1, q1, rfl, rfl, rfl, h1, r1⟩ := trodAll_cons r0
  obtain ⟨v2, vs2, d2, ds2, p2, q2, rfl, rfl, rfl, h2, r2⟩ := trodAll_cons r1
  obtain ⟨rfl, rfl, rfl⟩ := trodAll_nil r2
  obtain rfl : args = #[v0, v1, v2] := by cases args; simp_all
  obtain ⟨rfl, rfl⟩ := trodVars_none hV
  obtain ⟨a0, len0, cap0, rfl⟩ := okWide_slice Try.underlying44 (hval 0 44 v0 rfl rfl)
  have k0 := h0
  have lt0 : ∀ x ∈ p0, x.block < W.heap.size := by obtain ⟨m, hm⟩ := k0; exact DataW.trod_lt m _ _ _ hm
  obtain ⟨xs0, w0⟩ : ∃ ss, CmpsIn W (fun _ => True) (.slice a0 len0 cap0) ss ∧ ShortCs maxLen ss := by
    obtain ⟨fuel, hf⟩ := h0
    obtain ⟨a', len', cap', ss, e0, _, e1, e2⟩ := read_cmps hf
    simp [Value.cells] at e0
    obtain ⟨rfl, rfl, rfl⟩ := e0
    exact ⟨ss, e1, e2⟩
  obtain ⟨cs1, rfl, _⟩ := okWide_struct Try.underlying24 (hval 1 24 v1 rfl rfl)
  have k1 := h1
  have lt1 : ∀ x ∈ p1, x.block < W.heap.size := by obtain ⟨m, hm⟩ := k1; exact DataW.trod_lt m _ _ _ hm
  obtain ⟨f1, bv1, et1, w1⟩ : ∃ f bv, cs1 = (filOf f bv).toArray ∧ StmsIn W (fun _ => True) bv f.body ∧ ShortF maxLen f := by
    obtain ⟨fuel, hf⟩ := h1
    obtain ⟨f, bv, e0, e1, e2⟩ := read_fil hf
    exact ⟨f, bv, by rw [← Array.toList_inj]; simpa [Value.cells] using e0, e1, e2⟩
  subst et1
  obtain ⟨n2, rfl, rfl, rfl, w2⟩ := open_int Try.underlying3 (hval 2 3 v2 rfl rfl) h2
  clear hA0 hval0
  refine (walk _ xs0 f1 bv1 n2 W w0 w1 w2).mono fun e W' ⟨he, bel⟩ => ?_
  subst he
  exact ⟨_, rfl, _, _, _, [], _, [], hW', trodAll_mk1 (shut_bool Try.underlying4 _), (trodAll_cons_mk (Below.trod laidOut (by kernel_rfl) (of_decide_eq_true (by kernel_rfl)) k0 bel lt0) (trodAll_cons_mk (Below.trod laidOut (by kernel_rfl) (of_decide_eq_true (by kernel_rfl)) k1 bel lt1) (trodAll_cons_mk (shut_int Try.underlying3 w2) trodAll_mk0))), rfl, bel.frame _, fun h => by cases h⟩

theorem over : Rows.fnExactLoadBodyRow.holds Try.pinned (OpenSpec.ofChange Rows.fnExactLoadBodySpec) :=
  OpenClaim.holds_of_wide 5 Try.f5 rfl rfl rfl rfl rfl rfl rfl ⟨rfl, rfl, rfl, rfl, rfl⟩ rfl rfl rfl rfl rfl (by kernel_rfl) Try.func5 (by kernel_rfl)
    (of_decide_eq_true (by kernel_rfl)) (by unfold Func.isWrapper; first | (rw [if_pos (by decide +kernel)]; kernel_rfl) | (rw [if_neg (by decide +kernel)]; exact ⟨rfl, rfl⟩))
    (fun os started H enc _ => lifted os started H enc)

/-- THE STATEMENT -/
theorem proved : Rows.FnExactLoadBodySaid := over
end Go.Proofs.Ytebfafefeajemaa.FnExactLoadBody
