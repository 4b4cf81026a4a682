/- FnExactSameFinds returns true for every argument. -/
import Derived.Test.YtfelbhpgifgkcaaGreatSame
import Derived.Test.YtfelbhpgifgkcaaGreatSSame
import Derived.Test.YtfelbhpgifgkcaaGreatExTools
import Derived.Test.YtfelbhpgifgkcaaGreatSzTree
import Derived.Test.YtfelbhpgifgkcaaGreatReadIn
import Derived.Test.YtfelbhpgifgkcaaGreatHeld
import Derived.Test.YtfelbhpgifgkcaaGreatMarks2
import Derived.Test.YtfelbhpgifgkcaaGreatInts
import Derived.Test.YtfelbhpgifgkcaaGreatStrs
import Derived.Test.YtfelbhpgifgkcaaGreatFrame
set_option linter.unusedVariables false
set_option linter.unusedSimpArgs false
namespace Go.Proofs.YtfelbhpgifgkcaaGreat.FnExactSameFinds
open Go.ChangeShapes Go.WideShapes Go.ChangeAt Go.RowKit Go.Proofs.YtfelbhpgifgkcaaGreat.Nm

set_option maxRecDepth 100000 in
set_option maxHeartbeats 16000000 in
theorem walk (v0 : Value) (fs0 : List Fil) (v1 : Value) (fs1 : List Fil) (v2 : Value) (ns2 : List Int) (w : World) (h0 : FilsIn w (fun _ => True) v0 fs0 ∧ ShortT maxLen fs0) (h1 : FilsIn w (fun _ => True) v1 fs1 ∧ ShortT maxLen fs1) (h2 : IntsIn w v2 ns2) :
    Calls Tryz.prog 6 #[.agg #[v0], .agg #[v1], v2] w fun e w' => e = .returned (.bool true) ∧ Below w.heap.size w w' := by
  obtain ⟨hr0, hz0⟩ := h0
  have HR0 := Lib.hid hr0
  have HZ0 := Lib.hid hz0
  obtain ⟨aa0, ca0, rfl, hlc0, hmc0⟩ := hr0.len
  clear hr0 hz0 hmc0
  obtain ⟨hr1, hz1⟩ := h1
  have HR1 := Lib.hid hr1
  have HZ1 := Lib.hid hz1
  obtain ⟨aa1, ca1, rfl, hlc1, hmc1⟩ := hr1.len
  clear hr1 hz1 hmc1
  have HR2 := Lib.hid h2
  obtain ⟨aa2, ca2, rfl, hlc2, hmc2⟩ := h2.len
  clear h2 hmc2
  by_cases hn2 : (1048576 : Int) < (ns2.length : Int)
  · go_enter Tryz.func6, Tryz.ntmps6
    go_wp2_with fail
    go_ret
    exact ⟨rfl, by (repeat (with_reducible first | exact Below.refl _ _ | assumption | refine ba ?_ _ | refine bd ?_ | refine bdN ?_ _ | refine bs ?_ (by first | exact Nat.le_refl _ | (dsimp only; omega) | (simp; done)) _ | refine bt ?_ (by assumption)))⟩
  have hq2 : ns2.length ≤ 1048576 := by omega
  obtain ⟨C0, hC0⟩ : ∃ C, C = filsCost fs0 := ⟨_, rfl⟩
  have HC0 := Lib.hid hC0
  clear hC0
  obtain ⟨C1, hC1⟩ : ∃ C, C = filsCost fs1 := ⟨_, rfl⟩
  have HC1 := Lib.hid hC1
  clear hC1
  obtain ⟨g0, hg0⟩ : ∃ g, g = sameLook fs0 fs1 ns2 := ⟨_, rfl⟩
  have HG0 := Lib.hid hg0
  clear hg0
  go_enter Tryz.func6, Tryz.ntmps6
  go_wp2_with fail
  refine (laws_szTree _ fs0 _ 1048576 _ (HR0.out.below (by (repeat (with_reducible first | exact Below.refl _ _ | assumption | refine ba ?_ _ | refine bd ?_ | refine bdN ?_ _ | refine bs ?_ (by first | exact Nat.le_refl _ | (dsimp only; omega) | (simp; done)) _ | refine bt ?_ (by assumption))))) HZ0.out (by omega)).mono ?_
  rintro _ w1 ⟨r1, rfl, hr1, hb1⟩
  have hs1 : Below w.heap.size w w1 := by (repeat (with_reducible first | exact Below.refl _ _ | assumption | refine ba ?_ _ | refine bd ?_ | refine bdN ?_ _ | refine bs ?_ (by first | exact Nat.le_refl _ | (dsimp only; omega) | (simp; done)) _ | refine bt ?_ (by assumption)))
  have Bw1 := Lib.hid (hs1)
  have X2 := Lib.hid (show BoxC w1 (w.heap.size) #[.slice aa0 fs0.length ca0] from ((BoxC.start w #[.slice aa0 fs0.length ca0] 50).below (bt (by (repeat (with_reducible first | exact Below.refl _ _ | assumption | refine ba ?_ _ | refine bd ?_ | refine bdN ?_ _ | refine bs ?_ (by first | exact Nat.le_refl _ | (dsimp only; omega) | (simp; done)) _ | refine bt ?_ (by assumption)))) hb1)).at (by simp))
  have X3 := Lib.hid (show BoxC w1 (w.heap.size + 1) #[.slice aa1 fs1.length ca1] from ((BoxC.start (w.alloc (.cells #[.slice aa0 fs0.length ca0] 50)) #[.slice aa1 fs1.length ca1] 50).below hb1).at (by simp))
  rw [← HC0.out] at hr1
  have k4_0 : w1.cell? ⟨w.heap.size + 1, 0, none⟩ = some (.slice aa1 fs1.length ca1) := (X3.out).2 0
  have kl4 := (X3.out).1
  by_cases hn1 : r1 < 0
  · go_wp2_with fail
    go_ret
    exact ⟨rfl, Bw1.out⟩
  obtain ⟨R1, rfl⟩ := Int.eq_ofNat_of_zero_le (show 0 ≤ r1 by omega)
  have hR1 : R1 + C0 ≤ 1048576 := by omega
  clear hr1
  go_wp2_with fail
  refine (laws_szTree _ fs1 _ R1 _ (HR1.out.below (bt Bw1.out (by (repeat (with_reducible first | exact Below.refl _ _ | assumption | refine ba ?_ _ | refine bd ?_ | refine bdN ?_ _ | refine bs ?_ (by first | exact Nat.le_refl _ | (dsimp only; omega) | (simp; done)) _ | refine bt ?_ (by assumption)))))) HZ1.out (by omega)).mono ?_
  rintro _ w5 ⟨r5, rfl, hr5, hb5⟩
  clear k4_0 kl4
  have hs5 : Below w1.heap.size w1 w5 := by (repeat (with_reducible first | exact Below.refl _ _ | assumption | refine ba ?_ _ | refine bd ?_ | refine bdN ?_ _ | refine bs ?_ (by first | exact Nat.le_refl _ | (dsimp only; omega) | (simp; done)) _ | refine bt ?_ (by assumption)))
  have Bw5 := Lib.hid (bt Bw1.out hs5)
  have X6 := Lib.hid (X2.out.below hs5)
  have X7 := Lib.hid (X3.out.below hs5)
  clear Bw1 X2 X3
  rw [← HC1.out] at hr5
  have k8_0 : w5.cell? ⟨w.heap.size, 0, none⟩ = some (.slice aa0 fs0.length ca0) := (X6.out).2 0
  have kl8 := (X6.out).1
  by_cases hn5 : r5 < 0
  · go_wp2_with fail
    go_ret
    exact ⟨rfl, Bw5.out⟩
  obtain ⟨R5, rfl⟩ := Int.eq_ofNat_of_zero_le (show 0 ≤ r5 by omega)
  have hR5 : R5 + C1 ≤ R1 := by omega
  clear hr5
  have HL0 := Lib.hid (costs_of (by rw [← HC0.out]; omega : filsCost fs0 ≤ 1048576))
  have HS0 := Lib.hid (shortT_mono (B := 2000000) (by omega) (shortT_of (by rw [← HC0.out]; omega : filsCost fs0 ≤ 1048576)))
  have HE0 := Lib.hid (fun k => (show endF k fs0 ≤ k + 5 * C0 by rw [endF_le k fs0]; have := sum_le (fs := fs0); have hcc := HC0.out; unfold filsCost at hcc; omega))
  have hln0 : fs0.length ≤ 1048576 := HL0.out.1
  have Hse0 := Lib.hid (show sameFils fs0 fs0 = true from decide_eq_true rfl)
  have HL1 := Lib.hid (costs_of (by rw [← HC1.out]; omega : filsCost fs1 ≤ 1048576))
  have HS1 := Lib.hid (shortT_mono (B := 2000000) (by omega) (shortT_of (by rw [← HC1.out]; omega : filsCost fs1 ≤ 1048576)))
  have HE1 := Lib.hid (fun k => (show endF k fs1 ≤ k + 5 * C1 by rw [endF_le k fs1]; have := sum_le (fs := fs1); have hcc := HC1.out; unfold filsCost at hcc; omega))
  have hln1 : fs1.length ≤ 1048576 := HL1.out.1
  have Hse1 := Lib.hid (show sameFils fs1 fs1 = true from decide_eq_true rfl)
  clear k8_0 kl8
  have Hk9 := Lib.hid (fun (w' : World) (hC : Below w5.heap.size w5 w') => (⟨((X6.out).below hC).2 0, ((X7.out).below hC).2 0, hC⟩ : w'.cell? ⟨w.heap.size, 0, none⟩ = some (.slice aa0 fs0.length ca0) ∧ w'.cell? ⟨w.heap.size + 1, 0, none⟩ = some (.slice aa1 fs1.length ca1) ∧ Below w5.heap.size w5 w'))
  have HPHk9_0 := Lib.hid (HR0.out.below Bw5.out)
  have HPHk9_1 := Lib.hid (HR1.out.below Bw5.out)
  have HPHk9_2 := Lib.hid (HR2.out.below Bw5.out)
  go_wp2_with fail
  go_region_held3 (fun w' => w'.cell? ⟨w.heap.size, 0, none⟩ = some (.slice aa0 fs0.length ca0) ∧ w'.cell? ⟨w.heap.size + 1, 0, none⟩ = some (.slice aa1 fs1.length ca1) ∧ Below w5.heap.size w5 w')
    (exact Hk9.out _ (by (repeat (with_reducible first | exact Below.refl _ _ | assumption | refine ba ?_ _ | refine bd ?_ | refine bdN ?_ _ | refine bs ?_ (by first | exact Nat.le_refl _ | (dsimp only; omega) | (simp; done)) _ | refine bt ?_ (by assumption)))))
    (first
      | (go_at_call 24; (with_reducible (show Calls _ _ #[Value.agg #[Value.slice aa0 fs0.length ca0]] _ _)); refine (laws_toTree _ fs0 _ _ (HPHk9_0.out.below (by (repeat (with_reducible first | exact Below.refl _ _ | assumption | refine ba ?_ _ | refine bd ?_ | refine bdN ?_ _ | refine bs ?_ (by first | exact Nat.le_refl _ | (dsimp only; omega) | (simp; done)) _ | refine bt ?_ (by assumption))))) HL0.out).mono ?_; rintro _ w10 ⟨v10, ps10, rfl, hps10, ho10, hb10⟩; obtain ⟨a10, c10, rfl⟩ := ho10.len; have hpl10 : ps10.length = fs0.length := (by rw [← hps10, List.length_map]); rw [hpl10] at ho10 ⊢; have I10 := Lib.hid (show FilsIn w10 (fun _ => True) (.slice a10 fs0.length c10) fs0 by have h := ho10.fils (D := (fun _ => True)) (fun _ _ => trivial); rw [hps10] at h; exact h); have O10 := Lib.hid ho10; have Hps10 := Lib.hid hps10; clear ho10 hps10)
      | (go_at_call 24; (with_reducible (show Calls _ _ #[Value.agg #[Value.slice aa1 fs1.length ca1]] _ _)); refine (laws_toTree _ fs1 _ _ (HPHk9_1.out.below (by (repeat (with_reducible first | exact Below.refl _ _ | assumption | refine ba ?_ _ | refine bd ?_ | refine bdN ?_ _ | refine bs ?_ (by first | exact Nat.le_refl _ | (dsimp only; omega) | (simp; done)) _ | refine bt ?_ (by assumption))))) HL1.out).mono ?_; rintro _ w11 ⟨v11, ps11, rfl, hps11, ho11, hb11⟩; obtain ⟨a11, c11, rfl⟩ := ho11.len; have hpl11 : ps11.length = fs1.length := (by rw [← hps11, List.length_map]); rw [hpl11] at ho11 ⊢; have I11 := Lib.hid (show FilsIn w11 (fun _ => True) (.slice a11 fs1.length c11) fs1 by have h := ho11.fils (D := (fun _ => True)) (fun _ _ => trivial); rw [hps11] at h; exact h); have O11 := Lib.hid ho11; have Hps11 := Lib.hid hps11; clear ho11 hps11)
      | (go_at_call 25; refine (laws_toIntS _ ns2 _ (HPHk9_2.out.below (by (repeat (with_reducible first | exact Below.refl _ _ | assumption | refine ba ?_ _ | refine bd ?_ | refine bdN ?_ _ | refine bs ?_ (by first | exact Nat.le_refl _ | (dsimp only; omega) | (simp; done)) _ | refine bt ?_ (by assumption))))) hq2).mono ?_; rintro _ w12 ⟨v12, rfl, ho12, hb12⟩; obtain ⟨a12, c12, rfl⟩ := owns_shape ho12; have I12 := Lib.hid (IntsIn.of_owns ho12); have O12 := Lib.hid ho12; clear ho12)
      | (go_at_call 20; refine (spec_SameFinds _ fs0 (fun _ => True) _ fs1 (fun _ => True) _ ns2 _ (I10.out.below (by (repeat (with_reducible first | exact Below.refl _ _ | assumption | refine ba ?_ _ | refine bd ?_ | refine bdN ?_ _ | refine bs ?_ (by first | exact Nat.le_refl _ | (dsimp only; omega) | (simp; done)) _ | refine bt ?_ (by assumption))))) HS0.out (I11.out.below (by (repeat (with_reducible first | exact Below.refl _ _ | assumption | refine ba ?_ _ | refine bd ?_ | refine bdN ?_ _ | refine bs ?_ (by first | exact Nat.le_refl _ | (dsimp only; omega) | (simp; done)) _ | refine bt ?_ (by assumption))))) HS1.out (I12.out.below (by (repeat (with_reducible first | exact Below.refl _ _ | assumption | refine ba ?_ _ | refine bd ?_ | refine bdN ?_ _ | refine bs ?_ (by first | exact Nat.le_refl _ | (dsimp only; omega) | (simp; done)) _ | refine bt ?_ (by assumption)))))).mono ?_; rintro _ w13 ⟨rfl, hb13⟩; (try rw [← HG0.out])))
  have hs13 : Below w5.heap.size w5 w13 := by (repeat (with_reducible first | exact Below.refl _ _ | assumption | refine ba ?_ _ | refine bd ?_ | refine bdN ?_ _ | refine bs ?_ (by first | exact Nat.le_refl _ | (dsimp only; omega) | (simp; done)) _ | refine bt ?_ (by assumption)))
  have Bw13 := Lib.hid (bt Bw5.out hs13)
  have X14 := Lib.hid (X6.out.below hs13)
  have X15 := Lib.hid (X7.out.below hs13)
  clear Bw5 X6 X7
  obtain ⟨WW, hWW⟩ : ∃ WW, WW = w13 := ⟨_, rfl⟩
  have hWs : WW.heap.size = w13.heap.size + 0 := by rw [hWW]; simp
  have hcW : Below w13.heap.size w13 WW := by rw [hWW]; (repeat (with_reducible first | exact Below.refl _ _ | assumption | refine ba ?_ _ | refine bd ?_ | refine bdN ?_ _ | refine bs ?_ (by first | exact Nat.le_refl _ | (dsimp only; omega) | (simp; done)) _ | refine bt ?_ (by assumption)))
  have HwW := Lib.hid (bt Bw13.out hcW)
  have Hpl0 := Lib.hid (show w.heap.size < WW.heap.size by have := X14.out.1; omega)
  have Hpl1 := Lib.hid (show w.heap.size + 1 < WW.heap.size by have := X15.out.1; omega)
  have HWs := Lib.hid hWs
  clear hWs hcW
  have k16_0 : w13.cell? ⟨w.heap.size, 0, none⟩ = some (.slice aa0 fs0.length ca0) := (X14.out).2 0
  have kl16 := (X14.out).1
  go_wp2_with fail
  refine (laws_toTree _ fs0 _ _ (HR0.out.below (bt Bw13.out (by (repeat (with_reducible first | exact Below.refl _ _ | assumption | refine ba ?_ _ | refine bd ?_ | refine bdN ?_ _ | refine bs ?_ (by first | exact Nat.le_refl _ | (dsimp only; omega) | (simp; done)) _ | refine bt ?_ (by assumption)))))) HL0.out).mono ?_
  rintro _ w17 ⟨v17, ps17, rfl, hps17, ho17, hb17⟩
  clear k16_0 kl16
  have hs17 : Below w13.heap.size w13 w17 := by (repeat (with_reducible first | exact Below.refl _ _ | assumption | refine ba ?_ _ | refine bd ?_ | refine bdN ?_ _ | refine bs ?_ (by first | exact Nat.le_refl _ | (dsimp only; omega) | (simp; done)) _ | refine bt ?_ (by assumption)))
  have Bw17 := Lib.hid (bt Bw13.out hs17)
  have BW17 := Lib.hid (show Below WW.heap.size WW w17 by rw [hWW]; exact hb17)
  have X18 := Lib.hid (X14.out.below hs17)
  have X19 := Lib.hid (X15.out.below hs17)
  clear Bw13 X14 X15
  have Hz17 := Lib.hid (show w13.heap.size ≤ w17.heap.size by have h := hb17.size; first | omega | (simp at h; omega))
  obtain ⟨a17, c17, rfl⟩ := ho17.len
  have hpl17 : ps17.length = fs0.length := (by rw [← hps17, List.length_map])
  rw [hpl17] at ho17 ⊢
  have I17 := Lib.hid (show FilsIn w17 (fun _ => True) (.slice a17 fs0.length c17) fs0 by have h := ho17.fils (D := (fun _ => True)) (fun _ _ => trivial); rw [hps17] at h; exact h)
  have O17 := Lib.hid ho17
  have Hps17 := Lib.hid hps17
  clear ho17 hps17
  have k20_0 : w17.cell? ⟨w.heap.size + 1, 0, none⟩ = some (.slice aa1 fs1.length ca1) := (X19.out).2 0
  have kl20 := (X19.out).1
  go_wp2_with fail
  refine (laws_toTree _ fs1 _ _ (HR1.out.below (bt Bw17.out (by (repeat (with_reducible first | exact Below.refl _ _ | assumption | refine ba ?_ _ | refine bd ?_ | refine bdN ?_ _ | refine bs ?_ (by first | exact Nat.le_refl _ | (dsimp only; omega) | (simp; done)) _ | refine bt ?_ (by assumption)))))) HL1.out).mono ?_
  rintro _ w21 ⟨v21, ps21, rfl, hps21, ho21, hb21⟩
  clear k20_0 kl20
  have hs21 : Below w17.heap.size w17 w21 := by (repeat (with_reducible first | exact Below.refl _ _ | assumption | refine ba ?_ _ | refine bd ?_ | refine bdN ?_ _ | refine bs ?_ (by first | exact Nat.le_refl _ | (dsimp only; omega) | (simp; done)) _ | refine bt ?_ (by assumption)))
  have Bw21 := Lib.hid (bt Bw17.out hs21)
  have BW21 := Lib.hid (bt BW17.out hs21)
  have X22 := Lib.hid (X18.out.below hs21)
  have X23 := Lib.hid (X19.out.below hs21)
  have X24 := Lib.hid (show BoxC w21 (w17.heap.size) #[.slice a17 fs0.length c17] from ((BoxC.start w17 #[.slice a17 fs0.length c17] 25).below hb21).at (by simp))
  have J25 := Lib.hid (I17.out.below hs21)
  clear Bw17 BW17 X18 X19 I17
  have Hz21 := Lib.hid (show w17.heap.size + 1 ≤ w21.heap.size by have h := hb21.size; first | omega | (simp at h; omega))
  obtain ⟨a21, c21, rfl⟩ := ho21.len
  have hpl21 : ps21.length = fs1.length := (by rw [← hps21, List.length_map])
  rw [hpl21] at ho21 ⊢
  have I21 := Lib.hid (show FilsIn w21 (fun _ => True) (.slice a21 fs1.length c21) fs1 by have h := ho21.fils (D := (fun _ => True)) (fun _ _ => trivial); rw [hps21] at h; exact h)
  have O21 := Lib.hid ho21
  have Hps21 := Lib.hid hps21
  clear ho21 hps21
  go_wp2_with fail
  refine (laws_toIntS _ ns2 _ (HR2.out.below (bt Bw21.out (by (repeat (with_reducible first | exact Below.refl _ _ | assumption | refine ba ?_ _ | refine bd ?_ | refine bdN ?_ _ | refine bs ?_ (by first | exact Nat.le_refl _ | (dsimp only; omega) | (simp; done)) _ | refine bt ?_ (by assumption)))))) hq2).mono ?_
  rintro _ w26 ⟨v26, rfl, ho26, hb26⟩
  have hs26 : Below w21.heap.size w21 w26 := by (repeat (with_reducible first | exact Below.refl _ _ | assumption | refine ba ?_ _ | refine bd ?_ | refine bdN ?_ _ | refine bs ?_ (by first | exact Nat.le_refl _ | (dsimp only; omega) | (simp; done)) _ | refine bt ?_ (by assumption)))
  have Bw26 := Lib.hid (bt Bw21.out hs26)
  have BW26 := Lib.hid (bt BW21.out hs26)
  have X27 := Lib.hid (X22.out.below hs26)
  have X28 := Lib.hid (X23.out.below hs26)
  have X29 := Lib.hid (X24.out.below hs26)
  have X30 := Lib.hid (show BoxC w26 (w21.heap.size) #[.slice a21 fs1.length c21] from ((BoxC.start w21 #[.slice a21 fs1.length c21] 25).below hb26).at (by simp))
  have J31 := Lib.hid (J25.out.below hs26)
  have J32 := Lib.hid (I21.out.below hs26)
  clear Bw21 BW21 X22 X23 X24 J25 I21
  have Hz26 := Lib.hid (show w21.heap.size + 1 ≤ w26.heap.size by have h := hb26.size; first | omega | (simp at h; omega))
  obtain ⟨a26, c26, rfl⟩ := owns_shape ho26
  have I26 := Lib.hid (IntsIn.of_owns ho26)
  have O26 := Lib.hid ho26
  clear ho26
  have k33_0 : w26.cell? ⟨w17.heap.size, 0, none⟩ = some (.slice a17 fs0.length c17) := (X29.out).2 0
  have kl33 := (X29.out).1
  have k34_0 : w26.cell? ⟨w21.heap.size, 0, none⟩ = some (.slice a21 fs1.length c21) := (X30.out).2 0
  have kl34 := (X30.out).1
  go_wp2_with fail
  refine (impl_SameFinds _ fs0 (fun _ => True) _ fs1 (fun _ => True) _ ns2 _ (J31.out.below (by (repeat (with_reducible first | exact Below.refl _ _ | assumption | refine ba ?_ _ | refine bd ?_ | refine bdN ?_ _ | refine bs ?_ (by first | exact Nat.le_refl _ | (dsimp only; omega) | (simp; done)) _ | refine bt ?_ (by assumption))))) HS0.out (J32.out.below (by (repeat (with_reducible first | exact Below.refl _ _ | assumption | refine ba ?_ _ | refine bd ?_ | refine bdN ?_ _ | refine bs ?_ (by first | exact Nat.le_refl _ | (dsimp only; omega) | (simp; done)) _ | refine bt ?_ (by assumption))))) HS1.out (I26.out.below (by (repeat (with_reducible first | exact Below.refl _ _ | assumption | refine ba ?_ _ | refine bd ?_ | refine bdN ?_ _ | refine bs ?_ (by first | exact Nat.le_refl _ | (dsimp only; omega) | (simp; done)) _ | refine bt ?_ (by assumption)))))).mono ?_
  rintro _ w35 ⟨rfl, hb35⟩
  clear k33_0 kl33 k34_0 kl34
  have hs35 : Below w26.heap.size w26 w35 := by (repeat (with_reducible first | exact Below.refl _ _ | assumption | refine ba ?_ _ | refine bd ?_ | refine bdN ?_ _ | refine bs ?_ (by first | exact Nat.le_refl _ | (dsimp only; omega) | (simp; done)) _ | refine bt ?_ (by assumption)))
  have Bw35 := Lib.hid (bt Bw26.out hs35)
  have BW35 := Lib.hid (bt BW26.out hs35)
  have X36 := Lib.hid (X27.out.below hs35)
  have X37 := Lib.hid (X28.out.below hs35)
  have X38 := Lib.hid (X29.out.below hs35)
  have X39 := Lib.hid (X30.out.below hs35)
  have J40 := Lib.hid (J31.out.below hs35)
  have J41 := Lib.hid (J32.out.below hs35)
  have J42 := Lib.hid (I26.out.below hs35)
  clear Bw26 BW26 X27 X28 X29 X30 J31 J32 I26
  have Hz35 := Lib.hid (show w26.heap.size ≤ w35.heap.size by have h := hb35.size; first | omega | (simp at h; omega))
  try rw [← HG0.out]
  have Hk43 := Lib.hid (fun (w' : World) (hC : Below w35.heap.size w35 w') => (⟨((X36.out).below hC).2 0, ((X38.out).below hC).2 0, hC⟩ : w'.cell? ⟨w.heap.size, 0, none⟩ = some (.slice aa0 fs0.length ca0) ∧ w'.cell? ⟨w17.heap.size, 0, none⟩ = some (.slice a17 fs0.length c17) ∧ Below w35.heap.size w35 w'))
  have HPHk43 := Lib.hid (HR0.out.below Bw35.out)
  go_wp2_with fail
  go_region_held3 (fun w' => w'.cell? ⟨w.heap.size, 0, none⟩ = some (.slice aa0 fs0.length ca0) ∧ w'.cell? ⟨w17.heap.size, 0, none⟩ = some (.slice a17 fs0.length c17) ∧ Below w35.heap.size w35 w')
    (exact Hk43.out _ (by (repeat (with_reducible first | exact Below.refl _ _ | assumption | refine ba ?_ _ | refine bd ?_ | refine bdN ?_ _ | refine bs ?_ (by first | exact Nat.le_refl _ | (dsimp only; omega) | (simp; done)) _ | refine bt ?_ (by assumption)))))
    (first
      | (go_at_call 24; (with_reducible (show Calls _ _ #[Value.agg #[Value.slice aa0 fs0.length ca0]] _ _)); refine (laws_toTree _ fs0 _ _ (HPHk43.out.below (by (repeat (with_reducible first | exact Below.refl _ _ | assumption | refine ba ?_ _ | refine bd ?_ | refine bdN ?_ _ | refine bs ?_ (by first | exact Nat.le_refl _ | (dsimp only; omega) | (simp; done)) _ | refine bt ?_ (by assumption))))) HL0.out).mono ?_; rintro _ w44 ⟨v44, ps44, rfl, hps44, ho44, hb44⟩; obtain ⟨a44, c44, rfl⟩ := ho44.len; have hpl44 : ps44.length = fs0.length := (by rw [← hps44, List.length_map]); rw [hpl44] at ho44 ⊢; have I44 := Lib.hid (show FilsIn w44 (fun _ => True) (.slice a44 fs0.length c44) fs0 by have h := ho44.fils (D := (fun _ => True)) (fun _ _ => trivial); rw [hps44] at h; exact h); have O44 := Lib.hid ho44; have Hps44 := Lib.hid hps44; clear ho44 hps44)
      | (go_at_call 26; refine (laws_eqTree _ _ fs0 fs0 (fun _ => True) (fun _ => True) _ (J40.out.below (by (repeat (with_reducible first | exact Below.refl _ _ | assumption | refine ba ?_ _ | refine bd ?_ | refine bdN ?_ _ | refine bs ?_ (by first | exact Nat.le_refl _ | (dsimp only; omega) | (simp; done)) _ | refine bt ?_ (by assumption))))) (I44.out.below (by (repeat (with_reducible first | exact Below.refl _ _ | assumption | refine ba ?_ _ | refine bd ?_ | refine bdN ?_ _ | refine bs ?_ (by first | exact Nat.le_refl _ | (dsimp only; omega) | (simp; done)) _ | refine bt ?_ (by assumption)))))).mono ?_; rintro _ w45 ⟨rfl, hb45⟩; rw [Hse0.out]))
  have hs45 : Below w35.heap.size w35 w45 := by (repeat (with_reducible first | exact Below.refl _ _ | assumption | refine ba ?_ _ | refine bd ?_ | refine bdN ?_ _ | refine bs ?_ (by first | exact Nat.le_refl _ | (dsimp only; omega) | (simp; done)) _ | refine bt ?_ (by assumption)))
  have Bw45 := Lib.hid (bt Bw35.out hs45)
  have BW45 := Lib.hid (bt BW35.out hs45)
  have X46 := Lib.hid (X36.out.below hs45)
  have X47 := Lib.hid (X37.out.below hs45)
  have X48 := Lib.hid (X38.out.below hs45)
  have X49 := Lib.hid (X39.out.below hs45)
  have J50 := Lib.hid (J40.out.below hs45)
  have J51 := Lib.hid (J41.out.below hs45)
  have J52 := Lib.hid (J42.out.below hs45)
  clear Bw35 BW35 X36 X37 X38 X39 J40 J41 J42
  have Hk53 := Lib.hid (fun (w' : World) (hC : Below w45.heap.size w45 w') => (⟨((X47.out).below hC).2 0, ((X49.out).below hC).2 0, hC⟩ : w'.cell? ⟨w.heap.size + 1, 0, none⟩ = some (.slice aa1 fs1.length ca1) ∧ w'.cell? ⟨w21.heap.size, 0, none⟩ = some (.slice a21 fs1.length c21) ∧ Below w45.heap.size w45 w'))
  have HPHk53 := Lib.hid (HR1.out.below Bw45.out)
  go_wp2_with fail
  go_region_held3 (fun w' => w'.cell? ⟨w.heap.size + 1, 0, none⟩ = some (.slice aa1 fs1.length ca1) ∧ w'.cell? ⟨w21.heap.size, 0, none⟩ = some (.slice a21 fs1.length c21) ∧ Below w45.heap.size w45 w')
    (exact Hk53.out _ (by (repeat (with_reducible first | exact Below.refl _ _ | assumption | refine ba ?_ _ | refine bd ?_ | refine bdN ?_ _ | refine bs ?_ (by first | exact Nat.le_refl _ | (dsimp only; omega) | (simp; done)) _ | refine bt ?_ (by assumption)))))
    (first
      | (go_at_call 24; (with_reducible (show Calls _ _ #[Value.agg #[Value.slice aa1 fs1.length ca1]] _ _)); refine (laws_toTree _ fs1 _ _ (HPHk53.out.below (by (repeat (with_reducible first | exact Below.refl _ _ | assumption | refine ba ?_ _ | refine bd ?_ | refine bdN ?_ _ | refine bs ?_ (by first | exact Nat.le_refl _ | (dsimp only; omega) | (simp; done)) _ | refine bt ?_ (by assumption))))) HL1.out).mono ?_; rintro _ w54 ⟨v54, ps54, rfl, hps54, ho54, hb54⟩; obtain ⟨a54, c54, rfl⟩ := ho54.len; have hpl54 : ps54.length = fs1.length := (by rw [← hps54, List.length_map]); rw [hpl54] at ho54 ⊢; have I54 := Lib.hid (show FilsIn w54 (fun _ => True) (.slice a54 fs1.length c54) fs1 by have h := ho54.fils (D := (fun _ => True)) (fun _ _ => trivial); rw [hps54] at h; exact h); have O54 := Lib.hid ho54; have Hps54 := Lib.hid hps54; clear ho54 hps54)
      | (go_at_call 26; refine (laws_eqTree _ _ fs1 fs1 (fun _ => True) (fun _ => True) _ (J51.out.below (by (repeat (with_reducible first | exact Below.refl _ _ | assumption | refine ba ?_ _ | refine bd ?_ | refine bdN ?_ _ | refine bs ?_ (by first | exact Nat.le_refl _ | (dsimp only; omega) | (simp; done)) _ | refine bt ?_ (by assumption))))) (I54.out.below (by (repeat (with_reducible first | exact Below.refl _ _ | assumption | refine ba ?_ _ | refine bd ?_ | refine bdN ?_ _ | refine bs ?_ (by first | exact Nat.le_refl _ | (dsimp only; omega) | (simp; done)) _ | refine bt ?_ (by assumption)))))).mono ?_; rintro _ w55 ⟨rfl, hb55⟩; rw [Hse1.out]))
  have hs55 : Below w45.heap.size w45 w55 := by (repeat (with_reducible first | exact Below.refl _ _ | assumption | refine ba ?_ _ | refine bd ?_ | refine bdN ?_ _ | refine bs ?_ (by first | exact Nat.le_refl _ | (dsimp only; omega) | (simp; done)) _ | refine bt ?_ (by assumption)))
  have Bw55 := Lib.hid (bt Bw45.out hs55)
  have BW55 := Lib.hid (bt BW45.out hs55)
  have X56 := Lib.hid (X46.out.below hs55)
  have X57 := Lib.hid (X47.out.below hs55)
  have X58 := Lib.hid (X48.out.below hs55)
  have X59 := Lib.hid (X49.out.below hs55)
  have J60 := Lib.hid (J50.out.below hs55)
  have J61 := Lib.hid (J51.out.below hs55)
  have J62 := Lib.hid (J52.out.below hs55)
  clear Bw45 BW45 X46 X47 X48 X49 J50 J51 J52
  go_wp2_with fail
  refine (laws_toIntS _ ns2 _ (HR2.out.below (bt Bw55.out (by (repeat (with_reducible first | exact Below.refl _ _ | assumption | refine ba ?_ _ | refine bd ?_ | refine bdN ?_ _ | refine bs ?_ (by first | exact Nat.le_refl _ | (dsimp only; omega) | (simp; done)) _ | refine bt ?_ (by assumption)))))) hq2).mono ?_
  rintro _ w63 ⟨v63, rfl, ho63, hb63⟩
  have hs63 : Below w55.heap.size w55 w63 := by (repeat (with_reducible first | exact Below.refl _ _ | assumption | refine ba ?_ _ | refine bd ?_ | refine bdN ?_ _ | refine bs ?_ (by first | exact Nat.le_refl _ | (dsimp only; omega) | (simp; done)) _ | refine bt ?_ (by assumption)))
  have Bw63 := Lib.hid (bt Bw55.out hs63)
  have BW63 := Lib.hid (bt BW55.out hs63)
  have X64 := Lib.hid (X56.out.below hs63)
  have X65 := Lib.hid (X57.out.below hs63)
  have X66 := Lib.hid (X58.out.below hs63)
  have X67 := Lib.hid (X59.out.below hs63)
  have J68 := Lib.hid (J60.out.below hs63)
  have J69 := Lib.hid (J61.out.below hs63)
  have J70 := Lib.hid (J62.out.below hs63)
  clear Bw55 BW55 X56 X57 X58 X59 J60 J61 J62
  obtain ⟨a63, c63, rfl⟩ := owns_shape ho63
  have I63 := Lib.hid (IntsIn.of_owns ho63)
  have O63 := Lib.hid ho63
  clear ho63
  go_wp2_with fail
  refine (laws_eqIntS _ _ ns2 ns2 _ (J70.out.below (by (repeat (with_reducible first | exact Below.refl _ _ | assumption | refine ba ?_ _ | refine bd ?_ | refine bdN ?_ _ | refine bs ?_ (by first | exact Nat.le_refl _ | (dsimp only; omega) | (simp; done)) _ | refine bt ?_ (by assumption))))) (I63.out.below (by (repeat (with_reducible first | exact Below.refl _ _ | assumption | refine ba ?_ _ | refine bd ?_ | refine bdN ?_ _ | refine bs ?_ (by first | exact Nat.le_refl _ | (dsimp only; omega) | (simp; done)) _ | refine bt ?_ (by assumption)))))).mono ?_
  rintro _ w71 ⟨rfl, hb71⟩
  have hs71 : Below w63.heap.size w63 w71 := by (repeat (with_reducible first | exact Below.refl _ _ | assumption | refine ba ?_ _ | refine bd ?_ | refine bdN ?_ _ | refine bs ?_ (by first | exact Nat.le_refl _ | (dsimp only; omega) | (simp; done)) _ | refine bt ?_ (by assumption)))
  have Bw71 := Lib.hid (bt Bw63.out hs71)
  have BW71 := Lib.hid (bt BW63.out hs71)
  have X72 := Lib.hid (X64.out.below hs71)
  have X73 := Lib.hid (X65.out.below hs71)
  have X74 := Lib.hid (X66.out.below hs71)
  have X75 := Lib.hid (X67.out.below hs71)
  have J76 := Lib.hid (J68.out.below hs71)
  have J77 := Lib.hid (J69.out.below hs71)
  have J78 := Lib.hid (J70.out.below hs71)
  clear Bw63 BW63 X64 X65 X66 X67 J68 J69 J70
  rw [decide_eq_true (rfl : ns2 = ns2)]
  go_wp2_with fail
  go_ret
  exact ⟨rfl, Bw71.out⟩

/-! ### THE STEP TO THE ROW -/
set_option maxRecDepth 100000 in
theorem lifted (os : Os) (started : os.Started) (H : Type) (enc : TypeId × Value → H) :
    ReturnsInHanded {} Tryz.checked os 6 .any (Rows.fnExactSameFindsSpec.pre6 enc Tryz.prog Tryz.f6 Rows.fnExactSameFindsRow.domain false) (Rows.fnExactSameFindsSpec.post enc Tryz.prog Tryz.f6 false true false false) := by
  refine returnsInHanded_of_change (C := Tryz.checked) own started (by kernel_rfl) Tryz.func6
    (ChangeSpec.witness6 (enc := enc) (C := Tryz.checked) false ⟨#[], #[.agg #[.slice none 0 0], .agg #[.slice none 0 0], .slice none 0 0], []⟩ 8 (by kernel_rfl) (by kernel_rfl) (by kernel_rfl) (by kernel_rfl)) ?_
  intro W base args ds gs before hval0 hW hcnd _
  have hval : ∀ (j : Nat) t v, Tryz.f6.params[j]? = some t → args[j]? = some v → Value.okWide Tryz.prog W .any base t v := hval0
  have hW' := hW
  obtain ⟨p, q, hA0, hV, rfl, hfz, hnd⟩ := hW
  have hA : DataW.TrodAll enc Tryz.prog W 0 (fun _ => true) true Tryz.f6.params.toList args.toList ds p := hA0
  rw [Tryz.params6] at hA hval
  obtain ⟨v0, vs0, d0, ds0, p0, q0, hargs, rfl, rfl, h0, r0⟩ := trodAll_cons hA
  obtain ⟨v1, vs1, d1, ds1, p1, q1, rfl, rfl, rfl, h1, r1⟩ := trodAll_cons r0
  obtain ⟨v2, vs2, d2, ds2, p2, q2, rfl, rfl, rfl, h2, r2⟩ := trodAll_cons r1
  obtain ⟨rfl, rfl, rfl⟩ := trodAll_nil r2
  obtain rfl : args = #[v0, v1, v2] := by cases args; simp_all
  obtain ⟨rfl, rfl⟩ := trodVars_none hV
  obtain ⟨cs0, rfl, _⟩ := okWide_struct Tryz.underlying50 (hval 0 50 v0 rfl rfl)
  have k0 := h0
  have lt0 : ∀ x ∈ p0, x.block < W.heap.size := by obtain ⟨m, hm⟩ := k0; exact DataW.trod_lt m _ _ _ hm
  obtain ⟨xs0, tv0, et0, w0⟩ : ∃ fs tv, cs0 = #[tv] ∧ FilsIn W (fun _ => True) tv fs ∧ ShortT maxLen fs := by
    obtain ⟨fuel, hf⟩ := h0
    obtain ⟨a', len', cap', fs, e0, e1, e2⟩ := read_tree hf
    exact ⟨fs, _, by rw [← Array.toList_inj]; simpa [Value.cells] using e0, e1, e2⟩
  subst et0
  obtain ⟨cs1, rfl, _⟩ := okWide_struct Tryz.underlying50 (hval 1 50 v1 rfl rfl)
  have k1 := h1
  have lt1 : ∀ x ∈ p1, x.block < W.heap.size := by obtain ⟨m, hm⟩ := k1; exact DataW.trod_lt m _ _ _ hm
  obtain ⟨xs1, tv1, et1, w1⟩ : ∃ fs tv, cs1 = #[tv] ∧ FilsIn W (fun _ => True) tv fs ∧ ShortT maxLen fs := by
    obtain ⟨fuel, hf⟩ := h1
    obtain ⟨a', len', cap', fs, e0, e1, e2⟩ := read_tree hf
    exact ⟨fs, _, by rw [← Array.toList_inj]; simpa [Value.cells] using e0, e1, e2⟩
  subst et1
  obtain ⟨a2, len2, cap2, rfl⟩ := okWide_slice Tryz.underlying35 (hval 2 35 v2 rfl rfl)
  have k2 := h2
  have lt2 : ∀ x ∈ p2, x.block < W.heap.size := by obtain ⟨m, hm⟩ := k2; exact DataW.trod_lt m _ _ _ hm
  obtain ⟨xs2, w2⟩ : ∃ xs, IntsIn W (.slice a2 len2 cap2) xs := by
    obtain ⟨fuel, hf⟩ := h2
    exact ints_row Tryz.underlying35 Tryz.underlying3 (by kernel_rfl) hf
  clear hA0 hval0
  refine (walk tv0 xs0 tv1 xs1 _ xs2 W w0 w1 w2).mono fun e W' ⟨he, bel⟩ => ?_
  subst he
  exact ⟨_, rfl, _, _, _, [], _, [], hW', trodAll_mk1 (shut_bool Tryz.underlying4 _), (trodAll_cons_mk (Below.trod laidOut (by kernel_rfl) (of_decide_eq_true (by kernel_rfl)) k0 bel lt0) (trodAll_cons_mk (Below.trod laidOut (by kernel_rfl) (of_decide_eq_true (by kernel_rfl)) k1 bel lt1) (trodAll_cons_mk (Below.trod laidOut (by kernel_rfl) (of_decide_eq_true (by kernel_rfl)) k2 bel lt2) trodAll_mk0))), rfl, bel.frame _, fun h => by cases h⟩

theorem over : Rows.fnExactSameFindsRow.holds Tryz.pinned (OpenSpec.ofChange Rows.fnExactSameFindsSpec) :=
  OpenClaim.holds_of_wide 6 Tryz.f6 rfl rfl rfl rfl rfl rfl rfl ⟨rfl, rfl, rfl, rfl, rfl⟩ rfl rfl rfl rfl rfl (by kernel_rfl) Tryz.func6 (by kernel_rfl)
    (of_decide_eq_true (by kernel_rfl)) (by unfold Func.isWrapper; first | (rw [if_pos (by decide +kernel)]; kernel_rfl) | (rw [if_neg (by decide +kernel)]; exact ⟨rfl, rfl⟩))
    (fun os started H enc _ => lifted os started H enc)

/-- THE STATEMENT -/
theorem proved : Rows.FnExactSameFindsSaid := over
end Go.Proofs.YtfelbhpgifgkcaaGreat.FnExactSameFinds
