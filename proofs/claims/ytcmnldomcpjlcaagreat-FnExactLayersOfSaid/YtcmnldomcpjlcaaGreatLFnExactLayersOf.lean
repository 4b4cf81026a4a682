/- FnExactLayersOf returns true for every argument. -/
import Derived.Test.YtcmnldomcpjlcaaGreatMiss
import Derived.Test.YtcmnldomcpjlcaaGreatLayM
import Derived.Test.YtcmnldomcpjlcaaGreatExTools
import Derived.Test.YtcmnldomcpjlcaaGreatSzTree
import Derived.Test.YtcmnldomcpjlcaaGreatReadIn
import Derived.Test.YtcmnldomcpjlcaaGreatHeld
import Derived.Test.YtcmnldomcpjlcaaGreatMarks2
import Derived.Test.YtcmnldomcpjlcaaGreatInts
import Derived.Test.YtcmnldomcpjlcaaGreatStrs
import Derived.Test.YtcmnldomcpjlcaaGreatFrame
import Derived.Test.YtcmnldomcpjlcaaGreatFacts
set_option linter.unusedVariables false
set_option linter.unusedSimpArgs false
namespace Go.Proofs.YtcmnldomcpjlcaaGreat.FnExactLayersOf
open Go.ChangeShapes Go.WideShapes Go.ChangeAt Go.RowKit Go.Proofs.YtcmnldomcpjlcaaGreat.Nm
open Go.ChangeMaps (open_string shut_string)

set_option maxRecDepth 100000 in
set_option maxHeartbeats 16000000 in
theorem walk (v0 : Value) (fs0 : List Fil) (v1 : Value) (ns1 : List Int) (s2 : Bs) (w : World) (h0 : FilsIn w (fun _ => True) v0 fs0 ∧ ShortT maxLen fs0) (h1 : IntsIn w v1 ns1) (h2 : s2.length ≤ maxLen) :
    Calls Tryz.prog 7 #[.agg #[v0], v1, .string (mk s2)] w fun e w' => e = .returned (.bool true) ∧ Below w.heap.size w w' := by
  obtain ⟨hr0, hz0⟩ := h0
  have HR0 := Lib.hid hr0
  have HZ0 := Lib.hid hz0
  obtain ⟨aa0, ca0, rfl, hlc0, hmc0⟩ := hr0.len
  clear hr0 hz0 hmc0
  have HR1 := Lib.hid h1
  obtain ⟨aa1, ca1, rfl, hlc1, hmc1⟩ := h1.len
  clear h1 hmc1
  unfold maxLen at h2
  by_cases hn1 : (1048576 : Int) < (ns1.length : Int)
  · go_enter Tryz.func7, Tryz.ntmps7
    go_wp2_with fail
    go_ret
    exact ⟨rfl, by (repeat (with_reducible first | exact Below.refl _ _ | assumption | refine ba ?_ _ | refine bd ?_ | refine bdN ?_ _ | refine bs ?_ (by first | exact Nat.le_refl _ | (dsimp only; omega) | (simp; done)) _ | refine bt ?_ (by assumption)))⟩
  have hq1 : ns1.length ≤ 1048576 := by omega
  by_cases hn2 : (1048576 : Int) < (s2.length : Int)
  · go_enter Tryz.func7, Tryz.ntmps7
    go_wp2_with fail
    go_ret
    exact ⟨rfl, by (repeat (with_reducible first | exact Below.refl _ _ | assumption | refine ba ?_ _ | refine bd ?_ | refine bdN ?_ _ | refine bs ?_ (by first | exact Nat.le_refl _ | (dsimp only; omega) | (simp; done)) _ | refine bt ?_ (by assumption)))⟩
  have hq2 : s2.length ≤ 1048576 := by omega
  obtain ⟨C0, hC0⟩ : ∃ C, C = filsCost fs0 := ⟨_, rfl⟩
  have HC0 := Lib.hid hC0
  clear hC0
  obtain ⟨g0, hg0⟩ : ∃ g, g = layersOf fs0 ns1 s2 := ⟨_, rfl⟩
  obtain ⟨hgl, hgx, hgf⟩ := layers_lensM fs0 ns1 s2
  rw [← hg0] at hgl hgx hgf
  have Hgx0 := Lib.hid hgx
  clear hgx
  have HG0 := Lib.hid hg0
  clear hg0
  go_enter Tryz.func7, Tryz.ntmps7
  go_wp2_with fail
  refine (laws_szTree _ fs0 _ 1048576 _ (HR0.out.below (by (repeat (with_reducible first | exact Below.refl _ _ | assumption | refine ba ?_ _ | refine bd ?_ | refine bdN ?_ _ | refine bs ?_ (by first | exact Nat.le_refl _ | (dsimp only; omega) | (simp; done)) _ | refine bt ?_ (by assumption))))) HZ0.out (by omega)).mono ?_
  rintro _ w1 ⟨r1, rfl, hr1, hb1⟩
  have hs1 : Below w.heap.size w w1 := by (repeat (with_reducible first | exact Below.refl _ _ | assumption | refine ba ?_ _ | refine bd ?_ | refine bdN ?_ _ | refine bs ?_ (by first | exact Nat.le_refl _ | (dsimp only; omega) | (simp; done)) _ | refine bt ?_ (by assumption)))
  have Bw1 := Lib.hid (hs1)
  have X2 := Lib.hid (show BoxC w1 (w.heap.size) #[.slice aa0 fs0.length ca0] from ((BoxC.start w #[.slice aa0 fs0.length ca0] 24).below hb1).at (by simp))
  rw [← HC0.out] at hr1
  have k3_0 : w1.cell? ⟨w.heap.size, 0, none⟩ = some (.slice aa0 fs0.length ca0) := (X2.out).2 0
  have kl3 := (X2.out).1
  by_cases hn1 : r1 < 0
  · go_wp2_with fail
    go_ret
    exact ⟨rfl, Bw1.out⟩
  obtain ⟨R1, rfl⟩ := Int.eq_ofNat_of_zero_le (show 0 ≤ r1 by omega)
  have hR1 : R1 + C0 ≤ 1048576 := by omega
  clear hr1
  have HL0 := Lib.hid (costs_of (by rw [← HC0.out]; omega : filsCost fs0 ≤ 1048576))
  have HS0 := Lib.hid (shortT_mono (B := 2000000) (by omega) (shortT_of (by rw [← HC0.out]; omega : filsCost fs0 ≤ 1048576)))
  have HE0 := Lib.hid (fun k => (show endF k fs0 ≤ k + 5 * C0 by rw [endF_le k fs0]; have := sum_le (fs := fs0); have hcc := HC0.out; unfold filsCost at hcc; omega))
  have hln0 : fs0.length ≤ 1048576 := HL0.out.1
  have Hse0 := Lib.hid (show sameFils fs0 fs0 = true from decide_eq_true rfl)
  go_wp2_with fail
  refine (laws_toTree _ fs0 _ _ (HR0.out.below (bt Bw1.out (by (repeat (with_reducible first | exact Below.refl _ _ | assumption | refine ba ?_ _ | refine bd ?_ | refine bdN ?_ _ | refine bs ?_ (by first | exact Nat.le_refl _ | (dsimp only; omega) | (simp; done)) _ | refine bt ?_ (by assumption)))))) HL0.out).mono ?_
  rintro _ w4 ⟨v4, ps4, rfl, hps4, ho4, hb4⟩
  clear k3_0 kl3
  have hs4 : Below w1.heap.size w1 w4 := by (repeat (with_reducible first | exact Below.refl _ _ | assumption | refine ba ?_ _ | refine bd ?_ | refine bdN ?_ _ | refine bs ?_ (by first | exact Nat.le_refl _ | (dsimp only; omega) | (simp; done)) _ | refine bt ?_ (by assumption)))
  have Bw4 := Lib.hid (bt Bw1.out hs4)
  have X5 := Lib.hid (X2.out.below hs4)
  clear Bw1 X2
  obtain ⟨a4, c4, rfl⟩ := ho4.len
  have hpl4 : ps4.length = fs0.length := (by rw [← hps4, List.length_map])
  rw [hpl4] at ho4 ⊢
  have I4 := Lib.hid (show FilsIn w4 (fun _ => True) (.slice a4 fs0.length c4) fs0 by have h := ho4.fils (D := (fun _ => True)) (fun _ _ => trivial); rw [hps4] at h; exact h)
  have O4 := Lib.hid ho4
  have Hps4 := Lib.hid hps4
  clear ho4 hps4
  go_wp2_with fail
  refine (laws_toIntS _ ns1 _ (HR1.out.below (bt Bw4.out (by (repeat (with_reducible first | exact Below.refl _ _ | assumption | refine ba ?_ _ | refine bd ?_ | refine bdN ?_ _ | refine bs ?_ (by first | exact Nat.le_refl _ | (dsimp only; omega) | (simp; done)) _ | refine bt ?_ (by assumption)))))) hq1).mono ?_
  rintro _ w6 ⟨v6, rfl, ho6, hb6⟩
  have hs6 : Below w4.heap.size w4 w6 := by (repeat (with_reducible first | exact Below.refl _ _ | assumption | refine ba ?_ _ | refine bd ?_ | refine bdN ?_ _ | refine bs ?_ (by first | exact Nat.le_refl _ | (dsimp only; omega) | (simp; done)) _ | refine bt ?_ (by assumption)))
  have Bw6 := Lib.hid (bt Bw4.out hs6)
  have X7 := Lib.hid (X5.out.below hs6)
  have J8 := Lib.hid (I4.out.below hs6)
  have Q8 := Lib.hid (O4.out.below hs6)
  clear Bw4 X5 I4 O4
  obtain ⟨a6, c6, rfl⟩ := owns_shape ho6
  have I6 := Lib.hid (IntsIn.of_owns ho6)
  have O6 := Lib.hid ho6
  clear ho6
  go_wp2_with fail
  refine (spec_LayersOf _ fs0 (fun _ => True) _ ns1 s2 _ (J8.out.below (by (repeat (with_reducible first | exact Below.refl _ _ | assumption | refine ba ?_ _ | refine bd ?_ | refine bdN ?_ _ | refine bs ?_ (by first | exact Nat.le_refl _ | (dsimp only; omega) | (simp; done)) _ | refine bt ?_ (by assumption))))) HS0.out (I6.out.below (by (repeat (with_reducible first | exact Below.refl _ _ | assumption | refine ba ?_ _ | refine bd ?_ | refine bdN ?_ _ | refine bs ?_ (by first | exact Nat.le_refl _ | (dsimp only; omega) | (simp; done)) _ | refine bt ?_ (by assumption))))) (by omega)).mono ?_
  rintro _ w9 ⟨v9_0, ps9_0, rfl, hps9_0, ho9_0, hb9⟩
  have hs9 : Below w6.heap.size w6 w9 := by (repeat (with_reducible first | exact Below.refl _ _ | assumption | refine ba ?_ _ | refine bd ?_ | refine bdN ?_ _ | refine bs ?_ (by first | exact Nat.le_refl _ | (dsimp only; omega) | (simp; done)) _ | refine bt ?_ (by assumption)))
  have Bw9 := Lib.hid (bt Bw6.out hs9)
  have X10 := Lib.hid (X7.out.below hs9)
  have J11 := Lib.hid (J8.out.below hs9)
  have Q11 := Lib.hid (Q8.out.below hs9)
  have J12 := Lib.hid (I6.out.below hs9)
  have Q12 := Lib.hid (owns_below O6.out hs9)
  clear Bw6 X7 J8 Q8 I6 O6
  have Hz9 := Lib.hid (show w6.heap.size ≤ w9.heap.size by have h := hb9.size; first | omega | (simp at h; omega))
  try rw [← HG0.out]
  try rw [← HG0.out] at hps9_0
  try rw [← HG0.out] at ho9_0
  obtain ⟨a9_0, c9_0, rfl⟩ := owns_shape ho9_0.1
  have hpl9_0 : ps9_0.length = g0.length := (by rw [← hps9_0, List.length_map])
  rw [hpl9_0] at ho9_0 ⊢
  have I9_0 := Lib.hid (show RdSS w9 (.slice a9_0 g0.length c9_0) g0 from ⟨_, ps9_0, hps9_0, ho9_0⟩)
  have O9_0 := Lib.hid ho9_0
  have Hps9_0 := Lib.hid hps9_0
  clear ho9_0 hps9_0 hpl9_0
  obtain ⟨WW, hWW⟩ : ∃ WW, WW = w9 := ⟨_, rfl⟩
  have hWs : WW.heap.size = w9.heap.size + 0 := by rw [hWW]; simp
  have hcW : Below w9.heap.size w9 WW := by rw [hWW]; (repeat (with_reducible first | exact Below.refl _ _ | assumption | refine ba ?_ _ | refine bd ?_ | refine bdN ?_ _ | refine bs ?_ (by first | exact Nat.le_refl _ | (dsimp only; omega) | (simp; done)) _ | refine bt ?_ (by assumption)))
  have IW0 := Lib.hid (I9_0.out.below hcW)
  have HwW := Lib.hid (bt Bw9.out hcW)
  have Hpl0 := Lib.hid (show w.heap.size < WW.heap.size by have := X10.out.1; omega)
  have HWs := Lib.hid hWs
  clear hWs hcW
  have k13_0 : w9.cell? ⟨w.heap.size, 0, none⟩ = some (.slice aa0 fs0.length ca0) := (X10.out).2 0
  have kl13 := (X10.out).1
  go_wp2_with fail
  refine (laws_toTree _ fs0 _ _ (HR0.out.below (bt Bw9.out (by (repeat (with_reducible first | exact Below.refl _ _ | assumption | refine ba ?_ _ | refine bd ?_ | refine bdN ?_ _ | refine bs ?_ (by first | exact Nat.le_refl _ | (dsimp only; omega) | (simp; done)) _ | refine bt ?_ (by assumption)))))) HL0.out).mono ?_
  rintro _ w14 ⟨v14, ps14, rfl, hps14, ho14, hb14⟩
  clear k13_0 kl13
  have hs14 : Below w9.heap.size w9 w14 := by (repeat (with_reducible first | exact Below.refl _ _ | assumption | refine ba ?_ _ | refine bd ?_ | refine bdN ?_ _ | refine bs ?_ (by first | exact Nat.le_refl _ | (dsimp only; omega) | (simp; done)) _ | refine bt ?_ (by assumption)))
  have Bw14 := Lib.hid (bt Bw9.out hs14)
  have BW14 := Lib.hid (show Below WW.heap.size WW w14 by rw [hWW]; exact hb14)
  have X15 := Lib.hid (X10.out.below hs14)
  clear Bw9 X10
  have Hz14 := Lib.hid (show w9.heap.size ≤ w14.heap.size by have h := hb14.size; first | omega | (simp at h; omega))
  obtain ⟨a14, c14, rfl⟩ := ho14.len
  have hpl14 : ps14.length = fs0.length := (by rw [← hps14, List.length_map])
  rw [hpl14] at ho14 ⊢
  have I14 := Lib.hid (show FilsIn w14 (fun _ => True) (.slice a14 fs0.length c14) fs0 by have h := ho14.fils (D := (fun _ => True)) (fun _ _ => trivial); rw [hps14] at h; exact h)
  have O14 := Lib.hid ho14
  have Hps14 := Lib.hid hps14
  clear ho14 hps14
  have OO14 := Lib.hid (O14.out.mono (show w9.heap.size ≤ _ by simp))
  clear O14
  have Hv14 := Lib.hid (fun b (hb : BlkF (.slice a14 fs0.length c14) ps14 b) => (show w9.heap.size ≤ b ∧ b < w14.heap.size by have h := (blkF_ge OO14.out.1 (fun p hp => ⟨_, _, _, _, OO14.out.2.1 p hp⟩)) b hb; first | exact h | (simp at h; exact h)))
  go_wp2_with fail
  refine (laws_toIntS _ ns1 _ (HR1.out.below (bt Bw14.out (by (repeat (with_reducible first | exact Below.refl _ _ | assumption | refine ba ?_ _ | refine bd ?_ | refine bdN ?_ _ | refine bs ?_ (by first | exact Nat.le_refl _ | (dsimp only; omega) | (simp; done)) _ | refine bt ?_ (by assumption)))))) hq1).mono ?_
  rintro _ w16 ⟨v16, rfl, ho16, hb16⟩
  have hs16 : Below w14.heap.size w14 w16 := by (repeat (with_reducible first | exact Below.refl _ _ | assumption | refine ba ?_ _ | refine bd ?_ | refine bdN ?_ _ | refine bs ?_ (by first | exact Nat.le_refl _ | (dsimp only; omega) | (simp; done)) _ | refine bt ?_ (by assumption)))
  have Bw16 := Lib.hid (bt Bw14.out hs16)
  have BW16 := Lib.hid (bt BW14.out hs16)
  have X17 := Lib.hid (X15.out.below hs16)
  have X18 := Lib.hid (show BoxC w16 (w14.heap.size) #[.slice a14 fs0.length c14] from ((BoxC.start w14 #[.slice a14 fs0.length c14] 31).below hb16).at (by simp))
  have J19 := Lib.hid (I14.out.below hs16)
  have Q19 := Lib.hid (OO14.out.below hs16)
  clear Bw14 BW14 X15 I14 OO14
  have Hz16 := Lib.hid (show w14.heap.size + 1 ≤ w16.heap.size by have h := hb16.size; first | omega | (simp at h; omega))
  obtain ⟨a16, c16, rfl⟩ := owns_shape ho16
  have I16 := Lib.hid (IntsIn.of_owns ho16)
  have O16 := Lib.hid ho16
  clear ho16
  have OO16 := Lib.hid (owns_mono O16.out (show w14.heap.size + 1 ≤ _ by simp))
  clear O16
  have Hv16 := Lib.hid (fun b (hb : (Value.slice a16 ns1.length c16).ownBlock = some b) => (show w14.heap.size + 1 ≤ b ∧ b < w16.heap.size by have h := (fun b hb => OO16.out.lt b hb) b hb; first | exact h | (simp at h; exact h)))
  have k20_0 : w16.cell? ⟨w14.heap.size, 0, none⟩ = some (.slice a14 fs0.length c14) := (X18.out).2 0
  have kl20 := (X18.out).1
  go_wp2_with fail
  refine (impl_LayersOf _ fs0 (fun _ => True) _ ns1 s2 _ (J19.out.below (by (repeat (with_reducible first | exact Below.refl _ _ | assumption | refine ba ?_ _ | refine bd ?_ | refine bdN ?_ _ | refine bs ?_ (by first | exact Nat.le_refl _ | (dsimp only; omega) | (simp; done)) _ | refine bt ?_ (by assumption))))) HS0.out (I16.out.below (by (repeat (with_reducible first | exact Below.refl _ _ | assumption | refine ba ?_ _ | refine bd ?_ | refine bdN ?_ _ | refine bs ?_ (by first | exact Nat.le_refl _ | (dsimp only; omega) | (simp; done)) _ | refine bt ?_ (by assumption))))) (by omega)).mono ?_
  rintro _ w21 ⟨v21_0, ps21_0, rfl, hps21_0, ho21_0, hb21⟩
  clear k20_0 kl20
  have hs21 : Below w16.heap.size w16 w21 := by (repeat (with_reducible first | exact Below.refl _ _ | assumption | refine ba ?_ _ | refine bd ?_ | refine bdN ?_ _ | refine bs ?_ (by first | exact Nat.le_refl _ | (dsimp only; omega) | (simp; done)) _ | refine bt ?_ (by assumption)))
  have Bw21 := Lib.hid (bt Bw16.out hs21)
  have BW21 := Lib.hid (bt BW16.out hs21)
  have X22 := Lib.hid (X17.out.below hs21)
  have X23 := Lib.hid (X18.out.below hs21)
  have J24 := Lib.hid (J19.out.below hs21)
  have Q24 := Lib.hid (Q19.out.below hs21)
  have J25 := Lib.hid (I16.out.below hs21)
  have Q25 := Lib.hid (owns_below OO16.out hs21)
  clear Bw16 BW16 X17 X18 J19 Q19 I16 OO16
  have Hz21 := Lib.hid (show w16.heap.size ≤ w21.heap.size by have h := hb21.size; first | omega | (simp at h; omega))
  try rw [← HG0.out]
  try rw [← HG0.out] at hps21_0
  try rw [← HG0.out] at ho21_0
  obtain ⟨a21_0, c21_0, rfl⟩ := owns_shape ho21_0.1
  have hpl21_0 : ps21_0.length = g0.length := (by rw [← hps21_0, List.length_map])
  rw [hpl21_0] at ho21_0 ⊢
  have I21_0 := Lib.hid (show RdSS w21 (.slice a21_0 g0.length c21_0) g0 from ⟨_, ps21_0, hps21_0, ho21_0⟩)
  have O21_0 := Lib.hid ho21_0
  have Hps21_0 := Lib.hid hps21_0
  clear ho21_0 hps21_0 hpl21_0
  have OO21_0 := Lib.hid (O21_0.out.mono (show w16.heap.size ≤ _ by simp))
  clear O21_0
  have Hv26 := Lib.hid (fun b (hb : BlkV (.slice a21_0 g0.length c21_0) ps21_0 b) => (show w16.heap.size ≤ b ∧ b < w21.heap.size by have h := (blkV_ge OO21_0.out) b hb; first | exact h | (simp at h; exact h)))
  go_wp2_with fail
  refine (laws_eqStringSSR _ _ g0 g0 _ (I21_0.out.below (by (repeat (with_reducible first | exact Below.refl _ _ | assumption | refine ba ?_ _ | refine bd ?_ | refine bdN ?_ _ | refine bs ?_ (by first | exact Nat.le_refl _ | (dsimp only; omega) | (simp; done)) _ | refine bt ?_ (by assumption))))) (IW0.out.below (bt BW21.out (by (repeat (with_reducible first | exact Below.refl _ _ | assumption | refine ba ?_ _ | refine bd ?_ | refine bdN ?_ _ | refine bs ?_ (by first | exact Nat.le_refl _ | (dsimp only; omega) | (simp; done)) _ | refine bt ?_ (by assumption)))))) rfl (by omega) Hgx0.out).mono ?_
  rintro _ w27 ⟨rfl, hb27⟩
  have hs27 : Below w21.heap.size w21 w27 := by (repeat (with_reducible first | exact Below.refl _ _ | assumption | refine ba ?_ _ | refine bd ?_ | refine bdN ?_ _ | refine bs ?_ (by first | exact Nat.le_refl _ | (dsimp only; omega) | (simp; done)) _ | refine bt ?_ (by assumption)))
  have Bw27 := Lib.hid (bt Bw21.out hs27)
  have BW27 := Lib.hid (bt BW21.out hs27)
  have X28 := Lib.hid (X22.out.below hs27)
  have X29 := Lib.hid (X23.out.below hs27)
  have J30 := Lib.hid (J24.out.below hs27)
  have Q30 := Lib.hid (Q24.out.below hs27)
  have J31 := Lib.hid (J25.out.below hs27)
  have Q31 := Lib.hid (owns_below Q25.out hs27)
  have J32 := Lib.hid (I21_0.out.below hs27)
  have Q32 := Lib.hid (OO21_0.out.below hs27)
  clear Bw21 BW21 X22 X23 J24 Q24 J25 Q25 I21_0 OO21_0
  skip
  have Hk33 := Lib.hid (fun (w' : World) (hC : Below w27.heap.size w27 w') => (⟨((X28.out).below hC).2 0, ((X29.out).below hC).2 0, hC⟩ : w'.cell? ⟨w.heap.size, 0, none⟩ = some (.slice aa0 fs0.length ca0) ∧ w'.cell? ⟨w14.heap.size, 0, none⟩ = some (.slice a14 fs0.length c14) ∧ Below w27.heap.size w27 w'))
  have HPHk33 := Lib.hid (HR0.out.below Bw27.out)
  go_wp2_with fail
  go_region_held3 (fun w' => w'.cell? ⟨w.heap.size, 0, none⟩ = some (.slice aa0 fs0.length ca0) ∧ w'.cell? ⟨w14.heap.size, 0, none⟩ = some (.slice a14 fs0.length c14) ∧ Below w27.heap.size w27 w')
    (exact Hk33.out _ (by (repeat (with_reducible first | exact Below.refl _ _ | assumption | refine ba ?_ _ | refine bd ?_ | refine bdN ?_ _ | refine bs ?_ (by first | exact Nat.le_refl _ | (dsimp only; omega) | (simp; done)) _ | refine bt ?_ (by assumption)))))
    (first
      | (go_at_call 16; refine (laws_toTree _ fs0 _ _ (HPHk33.out.below (by (repeat (with_reducible first | exact Below.refl _ _ | assumption | refine ba ?_ _ | refine bd ?_ | refine bdN ?_ _ | refine bs ?_ (by first | exact Nat.le_refl _ | (dsimp only; omega) | (simp; done)) _ | refine bt ?_ (by assumption))))) HL0.out).mono ?_; rintro _ w34 ⟨v34, ps34, rfl, hps34, ho34, hb34⟩; obtain ⟨a34, c34, rfl⟩ := ho34.len; have hpl34 : ps34.length = fs0.length := (by rw [← hps34, List.length_map]); rw [hpl34] at ho34 ⊢; have I34 := Lib.hid (show FilsIn w34 (fun _ => True) (.slice a34 fs0.length c34) fs0 by have h := ho34.fils (D := (fun _ => True)) (fun _ _ => trivial); rw [hps34] at h; exact h); have O34 := Lib.hid ho34; have Hps34 := Lib.hid hps34; clear ho34 hps34)
      | (go_at_call 20; refine (laws_eqTree _ _ fs0 fs0 (fun _ => True) (fun _ => True) _ (J30.out.below (by (repeat (with_reducible first | exact Below.refl _ _ | assumption | refine ba ?_ _ | refine bd ?_ | refine bdN ?_ _ | refine bs ?_ (by first | exact Nat.le_refl _ | (dsimp only; omega) | (simp; done)) _ | refine bt ?_ (by assumption))))) (I34.out.below (by (repeat (with_reducible first | exact Below.refl _ _ | assumption | refine ba ?_ _ | refine bd ?_ | refine bdN ?_ _ | refine bs ?_ (by first | exact Nat.le_refl _ | (dsimp only; omega) | (simp; done)) _ | refine bt ?_ (by assumption)))))).mono ?_; rintro _ w35 ⟨rfl, hb35⟩; rw [Hse0.out]))
  have hs35 : Below w27.heap.size w27 w35 := by (repeat (with_reducible first | exact Below.refl _ _ | assumption | refine ba ?_ _ | refine bd ?_ | refine bdN ?_ _ | refine bs ?_ (by first | exact Nat.le_refl _ | (dsimp only; omega) | (simp; done)) _ | refine bt ?_ (by assumption)))
  have Bw35 := Lib.hid (bt Bw27.out hs35)
  have BW35 := Lib.hid (bt BW27.out hs35)
  have X36 := Lib.hid (X28.out.below hs35)
  have X37 := Lib.hid (X29.out.below hs35)
  have J38 := Lib.hid (J30.out.below hs35)
  have Q38 := Lib.hid (Q30.out.below hs35)
  have J39 := Lib.hid (J31.out.below hs35)
  have Q39 := Lib.hid (owns_below Q31.out hs35)
  have J40 := Lib.hid (J32.out.below hs35)
  have Q40 := Lib.hid (Q32.out.below hs35)
  clear Bw27 BW27 X28 X29 J30 Q30 J31 Q31 J32 Q32
  go_wp2_with fail
  refine (laws_toIntS _ ns1 _ (HR1.out.below (bt Bw35.out (by (repeat (with_reducible first | exact Below.refl _ _ | assumption | refine ba ?_ _ | refine bd ?_ | refine bdN ?_ _ | refine bs ?_ (by first | exact Nat.le_refl _ | (dsimp only; omega) | (simp; done)) _ | refine bt ?_ (by assumption)))))) hq1).mono ?_
  rintro _ w41 ⟨v41, rfl, ho41, hb41⟩
  have hs41 : Below w35.heap.size w35 w41 := by (repeat (with_reducible first | exact Below.refl _ _ | assumption | refine ba ?_ _ | refine bd ?_ | refine bdN ?_ _ | refine bs ?_ (by first | exact Nat.le_refl _ | (dsimp only; omega) | (simp; done)) _ | refine bt ?_ (by assumption)))
  have Bw41 := Lib.hid (bt Bw35.out hs41)
  have BW41 := Lib.hid (bt BW35.out hs41)
  have X42 := Lib.hid (X36.out.below hs41)
  have X43 := Lib.hid (X37.out.below hs41)
  have J44 := Lib.hid (J38.out.below hs41)
  have Q44 := Lib.hid (Q38.out.below hs41)
  have J45 := Lib.hid (J39.out.below hs41)
  have Q45 := Lib.hid (owns_below Q39.out hs41)
  have J46 := Lib.hid (J40.out.below hs41)
  have Q46 := Lib.hid (Q40.out.below hs41)
  clear Bw35 BW35 X36 X37 J38 Q38 J39 Q39 J40 Q40
  obtain ⟨a41, c41, rfl⟩ := owns_shape ho41
  have I41 := Lib.hid (IntsIn.of_owns ho41)
  have O41 := Lib.hid ho41
  clear ho41
  go_wp2_with fail
  refine (laws_eqIntS _ _ ns1 ns1 _ (J45.out.below (by (repeat (with_reducible first | exact Below.refl _ _ | assumption | refine ba ?_ _ | refine bd ?_ | refine bdN ?_ _ | refine bs ?_ (by first | exact Nat.le_refl _ | (dsimp only; omega) | (simp; done)) _ | refine bt ?_ (by assumption))))) (I41.out.below (by (repeat (with_reducible first | exact Below.refl _ _ | assumption | refine ba ?_ _ | refine bd ?_ | refine bdN ?_ _ | refine bs ?_ (by first | exact Nat.le_refl _ | (dsimp only; omega) | (simp; done)) _ | refine bt ?_ (by assumption)))))).mono ?_
  rintro _ w47 ⟨rfl, hb47⟩
  have hs47 : Below w41.heap.size w41 w47 := by (repeat (with_reducible first | exact Below.refl _ _ | assumption | refine ba ?_ _ | refine bd ?_ | refine bdN ?_ _ | refine bs ?_ (by first | exact Nat.le_refl _ | (dsimp only; omega) | (simp; done)) _ | refine bt ?_ (by assumption)))
  have Bw47 := Lib.hid (bt Bw41.out hs47)
  have BW47 := Lib.hid (bt BW41.out hs47)
  have X48 := Lib.hid (X42.out.below hs47)
  have X49 := Lib.hid (X43.out.below hs47)
  have J50 := Lib.hid (J44.out.below hs47)
  have Q50 := Lib.hid (Q44.out.below hs47)
  have J51 := Lib.hid (J45.out.below hs47)
  have Q51 := Lib.hid (owns_below Q45.out hs47)
  have J52 := Lib.hid (J46.out.below hs47)
  have Q52 := Lib.hid (Q46.out.below hs47)
  clear Bw41 BW41 X42 X43 J44 Q44 J45 Q45 J46 Q46
  rw [decide_eq_true (rfl : ns1 = ns1)]
  have k53_0 : w47.cell? ⟨w14.heap.size, 0, none⟩ = some (.slice a14 fs0.length c14) := (X49.out).2 0
  have kl53 := (X49.out).1
  go_wp2_with fail
  have hkk : 1 ≤ 1 := by omega
  refine (laws_markTree (w9.heap.size) _ ps14 1 _ (Q50.out.below (by (repeat (with_reducible first | exact Below.refl _ _ | assumption | refine ba ?_ _ | refine bd ?_ | refine bdN ?_ _ | refine bs ?_ (by first | exact Nat.le_refl _ | (dsimp only; omega) | (simp; done)) _ | refine bt ?_ (by assumption))))) hkk (by rw [Hps14.out]; have := HE0.out 1; omega) (by omega)).mono ?_
  rintro _ w54 ⟨rfl, _, ht54⟩
  clear k53_0 kl53
  have Ht54 := Lib.hid ht54
  clear ht54
  have BW54 := Lib.hid (BW47.out.trans (Ht54.out.below BW47.out.size (fun b hb => by have := (Hv14.out b hb).1; have := Hpl0.out; have := HWs.out; have := Hz14.out; have := Hz16.out; have := Hz21.out; omega)))
  have Bw54 := Lib.hid (show Below w.heap.size w w54 from HwW.out.trans (BW54.out.mono HwW.out.size))
  have X55 := Lib.hid (X48.out.turned Ht54.out (fun hb => by have := Hv14.out _ hb; have := Hpl0.out; have := HWs.out; have := Hz14.out; have := Hz16.out; have := Hz21.out; omega))
  have X56 := Lib.hid (X49.out.turned Ht54.out (fun hb => by have := Hv14.out _ hb; have := Hpl0.out; have := HWs.out; have := Hz14.out; have := Hz16.out; have := Hz21.out; omega))
  have Q57 := Lib.hid (owns_turned Q51.out Ht54.out (fun b hb hS => by have := Hv14.out b hS; have := Hv16.out b hb; have := Hpl0.out; have := HWs.out; have := Hz14.out; have := Hz16.out; have := Hz21.out; omega))
  have Q58 := Lib.hid (ss_turned Q52.out Ht54.out (fun b hb hS => by have := Hv14.out b hS; have := Hv26.out b hb; have := Hpl0.out; have := HWs.out; have := Hz14.out; have := Hz16.out; have := Hz21.out; omega))
  clear Bw47 BW47 X48 X49 J50 Q50 J51 Q51 J52 Q52
  clear hkk
  obtain ⟨K59, hK59⟩ : ∃ K, K = endF 1 (ps14.map (·.1)) := ⟨_, rfl⟩
  have hK59b : 1 ≤ K59 ∧ K59 ≤ 1 + 5 * C0 := by rw [hK59]; exact ⟨endF_mono _ _, by rw [Hps14.out]; exact HE0.out 1⟩
  rw [← hK59]
  have HK59 := Lib.hid hK59
  clear hK59
  go_wp2_with fail
  have hkk : 1 ≤ K59 := by omega
  refine (laws_markIntS (w14.heap.size + 1) _ ns1 K59 _ (owns_below Q57.out (by (repeat (with_reducible first | exact Below.refl _ _ | assumption | refine ba ?_ _ | refine bd ?_ | refine bdN ?_ _ | refine bs ?_ (by first | exact Nat.le_refl _ | (dsimp only; omega) | (simp; done)) _ | refine bt ?_ (by assumption))))) hkk (by omega)).mono ?_
  rintro _ w60 ⟨rfl, _, ht60⟩
  have Ht60 := Lib.hid ht60
  clear ht60
  have BW60 := Lib.hid (BW54.out.trans (Ht60.out.below BW54.out.size (fun b hb => by have := (Hv16.out b hb).1; have := Hpl0.out; have := HWs.out; have := Hz14.out; have := Hz16.out; have := Hz21.out; omega)))
  have Bw60 := Lib.hid (show Below w.heap.size w w60 from HwW.out.trans (BW60.out.mono HwW.out.size))
  have X61 := Lib.hid (X55.out.turned Ht60.out (fun hb => by have := Hv16.out _ hb; have := Hpl0.out; have := HWs.out; have := Hz14.out; have := Hz16.out; have := Hz21.out; omega))
  have Q62 := Lib.hid (ss_turned Q58.out Ht60.out (fun b hb hS => by have := Hv16.out b hS; have := Hv26.out b hb; have := Hpl0.out; have := HWs.out; have := Hz14.out; have := Hz16.out; have := Hz21.out; omega))
  clear Bw54 BW54 X55 Q57 Q58
  clear hkk
  obtain ⟨K63, hK63⟩ : ∃ K, K = K59 + ns1.length := ⟨_, rfl⟩
  have hK63b : K59 ≤ K63 ∧ K63 ≤ K59 + 1048576 := by rw [hK63]; exact ⟨by omega, by omega⟩
  rw [← hK63]
  have HK63 := Lib.hid hK63
  clear hK63
  have hk0 : ¬ ((K63 : Nat) : Int) < 0 := Int.not_lt.2 (Int.natCast_nonneg _)
  have I_64 := Lib.hid (show RdSS w60 (.slice a21_0 g0.length c21_0) g0 from ⟨_, ps21_0, Hps21_0.out, Q62.out⟩)
  go_wp2_with fail
  refine (laws_eqStringSSR _ _ g0 g0 _ (I_64.out.below (by (repeat (with_reducible first | exact Below.refl _ _ | assumption | refine ba ?_ _ | refine bd ?_ | refine bdN ?_ _ | refine bs ?_ (by first | exact Nat.le_refl _ | (dsimp only; omega) | (simp; done)) _ | refine bt ?_ (by assumption))))) (IW0.out.below (bt BW60.out (by (repeat (with_reducible first | exact Below.refl _ _ | assumption | refine ba ?_ _ | refine bd ?_ | refine bdN ?_ _ | refine bs ?_ (by first | exact Nat.le_refl _ | (dsimp only; omega) | (simp; done)) _ | refine bt ?_ (by assumption)))))) rfl (by omega) Hgx0.out).mono ?_
  rintro _ w65 ⟨rfl, hb65⟩
  clear hk0
  have hs65 : Below w60.heap.size w60 w65 := by (repeat (with_reducible first | exact Below.refl _ _ | assumption | refine ba ?_ _ | refine bd ?_ | refine bdN ?_ _ | refine bs ?_ (by first | exact Nat.le_refl _ | (dsimp only; omega) | (simp; done)) _ | refine bt ?_ (by assumption)))
  have Bw65 := Lib.hid (bt Bw60.out hs65)
  have BW65 := Lib.hid (bt BW60.out hs65)
  have X66 := Lib.hid (X61.out.below hs65)
  have J67 := Lib.hid (I_64.out.below hs65)
  have Q67 := Lib.hid (Q62.out.below hs65)
  clear Bw60 BW60 X61 I_64 Q62
  skip
  go_wp2_with fail
  have hkk : 1 ≤ 1 := by omega
  refine (laws_markStringSSV (w16.heap.size) _ ps21_0 1 _ (Q67.out.below (by (repeat (with_reducible first | exact Below.refl _ _ | assumption | refine ba ?_ _ | refine bd ?_ | refine bdN ?_ _ | refine bs ?_ (by first | exact Nat.le_refl _ | (dsimp only; omega) | (simp; done)) _ | refine bt ?_ (by assumption))))) hkk (by rw [Hps21_0.out]; omega) (by rw [Hps21_0.out]; omega)).mono ?_
  rintro _ w68 ⟨rfl, hm68, ht68⟩
  have M68 := Lib.hid (show MkSS w68 _ 1 g0 from ⟨_, ps21_0, Hps21_0.out, hm68⟩)
  clear hm68
  have Ht68 := Lib.hid ht68
  clear ht68
  have BW68 := Lib.hid (BW65.out.trans (Ht68.out.below BW65.out.size (fun b hb => by have := (Hv26.out b hb).1; have := Hpl0.out; have := HWs.out; have := Hz14.out; have := Hz16.out; have := Hz21.out; omega)))
  have Bw68 := Lib.hid (show Below w.heap.size w w68 from HwW.out.trans (BW68.out.mono HwW.out.size))
  have X69 := Lib.hid (X66.out.turned Ht68.out (fun hb => by have := Hv26.out _ hb; have := Hpl0.out; have := HWs.out; have := Hz14.out; have := Hz16.out; have := Hz21.out; omega))
  clear Bw65 BW65 X66 J67 Q67
  clear hkk
  rw [Hps21_0.out]
  obtain ⟨K70, hK70⟩ : ∃ K, K = 1 + flenL g0 := ⟨_, rfl⟩
  have hK70b : 1 ≤ K70 ∧ K70 ≤ 1 + flenL g0 := by rw [hK70]; exact ⟨by omega, by omega⟩
  rw [← hK70]
  have HK70 := Lib.hid hK70
  clear hK70
  go_wp2_with fail
  refine (laws_heldStringSSR _ g0 1 _ (M68.out.below (by (repeat (with_reducible first | exact Below.refl _ _ | assumption | refine ba ?_ _ | refine bd ?_ | refine bdN ?_ _ | refine bs ?_ (by first | exact Nat.le_refl _ | (dsimp only; omega) | (simp; done)) _ | refine bt ?_ (by assumption))))) (by omega) (by omega) (by omega)).mono ?_
  rintro _ w71 ⟨rfl, hb71⟩
  have hs71 : Below w68.heap.size w68 w71 := by (repeat (with_reducible first | exact Below.refl _ _ | assumption | refine ba ?_ _ | refine bd ?_ | refine bdN ?_ _ | refine bs ?_ (by first | exact Nat.le_refl _ | (dsimp only; omega) | (simp; done)) _ | refine bt ?_ (by assumption)))
  have Bw71 := Lib.hid (bt Bw68.out hs71)
  have BW71 := Lib.hid (bt BW68.out hs71)
  have X72 := Lib.hid (X69.out.below hs71)
  have N73 := Lib.hid (M68.out.below hs71)
  clear Bw68 BW68 X69 M68
  rw [← HK70.out]
  have hk0 : ¬ ((K70 : Nat) : Int) < 0 := Int.not_lt.2 (Int.natCast_nonneg _)
  have k74_0 : w71.cell? ⟨w.heap.size, 0, none⟩ = some (.slice aa0 fs0.length ca0) := (X72.out).2 0
  have kl74 := (X72.out).1
  go_wp2_with fail
  refine (laws_toTree _ fs0 _ _ (HR0.out.below (bt Bw71.out (by (repeat (with_reducible first | exact Below.refl _ _ | assumption | refine ba ?_ _ | refine bd ?_ | refine bdN ?_ _ | refine bs ?_ (by first | exact Nat.le_refl _ | (dsimp only; omega) | (simp; done)) _ | refine bt ?_ (by assumption)))))) HL0.out).mono ?_
  rintro _ w75 ⟨v75, ps75, rfl, hps75, ho75, hb75⟩
  clear hk0 k74_0 kl74
  have hs75 : Below w71.heap.size w71 w75 := by (repeat (with_reducible first | exact Below.refl _ _ | assumption | refine ba ?_ _ | refine bd ?_ | refine bdN ?_ _ | refine bs ?_ (by first | exact Nat.le_refl _ | (dsimp only; omega) | (simp; done)) _ | refine bt ?_ (by assumption)))
  have Bw75 := Lib.hid (bt Bw71.out hs75)
  have BW75 := Lib.hid (bt BW71.out hs75)
  have X76 := Lib.hid (X72.out.below hs75)
  have N77 := Lib.hid (N73.out.below hs75)
  clear Bw71 BW71 X72 N73
  obtain ⟨a75, c75, rfl⟩ := ho75.len
  have hpl75 : ps75.length = fs0.length := (by rw [← hps75, List.length_map])
  rw [hpl75] at ho75 ⊢
  have I75 := Lib.hid (show FilsIn w75 (fun _ => True) (.slice a75 fs0.length c75) fs0 by have h := ho75.fils (D := (fun _ => True)) (fun _ _ => trivial); rw [hps75] at h; exact h)
  have O75 := Lib.hid ho75
  have Hps75 := Lib.hid hps75
  clear ho75 hps75
  go_wp2_with fail
  refine (laws_toIntS _ ns1 _ (HR1.out.below (bt Bw75.out (by (repeat (with_reducible first | exact Below.refl _ _ | assumption | refine ba ?_ _ | refine bd ?_ | refine bdN ?_ _ | refine bs ?_ (by first | exact Nat.le_refl _ | (dsimp only; omega) | (simp; done)) _ | refine bt ?_ (by assumption)))))) hq1).mono ?_
  rintro _ w78 ⟨v78, rfl, ho78, hb78⟩
  have hs78 : Below w75.heap.size w75 w78 := by (repeat (with_reducible first | exact Below.refl _ _ | assumption | refine ba ?_ _ | refine bd ?_ | refine bdN ?_ _ | refine bs ?_ (by first | exact Nat.le_refl _ | (dsimp only; omega) | (simp; done)) _ | refine bt ?_ (by assumption)))
  have Bw78 := Lib.hid (bt Bw75.out hs78)
  have BW78 := Lib.hid (bt BW75.out hs78)
  have X79 := Lib.hid (X76.out.below hs78)
  have J80 := Lib.hid (I75.out.below hs78)
  have Q80 := Lib.hid (O75.out.below hs78)
  have N81 := Lib.hid (N77.out.below hs78)
  clear Bw75 BW75 X76 I75 O75 N77
  obtain ⟨a78, c78, rfl⟩ := owns_shape ho78
  have I78 := Lib.hid (IntsIn.of_owns ho78)
  have O78 := Lib.hid ho78
  clear ho78
  go_wp2_with fail
  refine (impl_LayersOf _ fs0 (fun _ => True) _ ns1 s2 _ (J80.out.below (by (repeat (with_reducible first | exact Below.refl _ _ | assumption | refine ba ?_ _ | refine bd ?_ | refine bdN ?_ _ | refine bs ?_ (by first | exact Nat.le_refl _ | (dsimp only; omega) | (simp; done)) _ | refine bt ?_ (by assumption))))) HS0.out (I78.out.below (by (repeat (with_reducible first | exact Below.refl _ _ | assumption | refine ba ?_ _ | refine bd ?_ | refine bdN ?_ _ | refine bs ?_ (by first | exact Nat.le_refl _ | (dsimp only; omega) | (simp; done)) _ | refine bt ?_ (by assumption))))) (by omega)).mono ?_
  rintro _ w82 ⟨v82_0, ps82_0, rfl, hps82_0, ho82_0, hb82⟩
  have hs82 : Below w78.heap.size w78 w82 := by (repeat (with_reducible first | exact Below.refl _ _ | assumption | refine ba ?_ _ | refine bd ?_ | refine bdN ?_ _ | refine bs ?_ (by first | exact Nat.le_refl _ | (dsimp only; omega) | (simp; done)) _ | refine bt ?_ (by assumption)))
  have Bw82 := Lib.hid (bt Bw78.out hs82)
  have BW82 := Lib.hid (bt BW78.out hs82)
  have X83 := Lib.hid (X79.out.below hs82)
  have J84 := Lib.hid (J80.out.below hs82)
  have Q84 := Lib.hid (Q80.out.below hs82)
  have J85 := Lib.hid (I78.out.below hs82)
  have Q85 := Lib.hid (owns_below O78.out hs82)
  have N86 := Lib.hid (N81.out.below hs82)
  clear Bw78 BW78 X79 J80 Q80 I78 O78 N81
  have Hz82 := Lib.hid (show w78.heap.size ≤ w82.heap.size by have h := hb82.size; first | omega | (simp at h; omega))
  try rw [← HG0.out]
  try rw [← HG0.out] at hps82_0
  try rw [← HG0.out] at ho82_0
  obtain ⟨a82_0, c82_0, rfl⟩ := owns_shape ho82_0.1
  have hpl82_0 : ps82_0.length = g0.length := (by rw [← hps82_0, List.length_map])
  rw [hpl82_0] at ho82_0 ⊢
  have I82_0 := Lib.hid (show RdSS w82 (.slice a82_0 g0.length c82_0) g0 from ⟨_, ps82_0, hps82_0, ho82_0⟩)
  have O82_0 := Lib.hid ho82_0
  have Hps82_0 := Lib.hid hps82_0
  clear ho82_0 hps82_0 hpl82_0
  go_wp2_with fail
  refine (laws_eqStringSSR _ _ g0 g0 _ (I82_0.out.below (by (repeat (with_reducible first | exact Below.refl _ _ | assumption | refine ba ?_ _ | refine bd ?_ | refine bdN ?_ _ | refine bs ?_ (by first | exact Nat.le_refl _ | (dsimp only; omega) | (simp; done)) _ | refine bt ?_ (by assumption))))) (IW0.out.below (bt BW82.out (by (repeat (with_reducible first | exact Below.refl _ _ | assumption | refine ba ?_ _ | refine bd ?_ | refine bdN ?_ _ | refine bs ?_ (by first | exact Nat.le_refl _ | (dsimp only; omega) | (simp; done)) _ | refine bt ?_ (by assumption)))))) rfl (by omega) Hgx0.out).mono ?_
  rintro _ w87 ⟨rfl, hb87⟩
  have hs87 : Below w82.heap.size w82 w87 := by (repeat (with_reducible first | exact Below.refl _ _ | assumption | refine ba ?_ _ | refine bd ?_ | refine bdN ?_ _ | refine bs ?_ (by first | exact Nat.le_refl _ | (dsimp only; omega) | (simp; done)) _ | refine bt ?_ (by assumption)))
  have Bw87 := Lib.hid (bt Bw82.out hs87)
  have BW87 := Lib.hid (bt BW82.out hs87)
  have X88 := Lib.hid (X83.out.below hs87)
  have J89 := Lib.hid (I82_0.out.below hs87)
  have N90 := Lib.hid (N86.out.below hs87)
  clear Bw82 BW82 X83 I82_0 N86
  skip
  go_wp2_with fail
  refine (laws_heldStringSSR _ g0 1 _ (N90.out.below (by (repeat (with_reducible first | exact Below.refl _ _ | assumption | refine ba ?_ _ | refine bd ?_ | refine bdN ?_ _ | refine bs ?_ (by first | exact Nat.le_refl _ | (dsimp only; omega) | (simp; done)) _ | refine bt ?_ (by assumption))))) (by omega) (by omega) (by omega)).mono ?_
  rintro _ w91 ⟨rfl, hb91⟩
  have hs91 : Below w87.heap.size w87 w91 := by (repeat (with_reducible first | exact Below.refl _ _ | assumption | refine ba ?_ _ | refine bd ?_ | refine bdN ?_ _ | refine bs ?_ (by first | exact Nat.le_refl _ | (dsimp only; omega) | (simp; done)) _ | refine bt ?_ (by assumption)))
  have Bw91 := Lib.hid (bt Bw87.out hs91)
  have BW91 := Lib.hid (bt BW87.out hs91)
  have X92 := Lib.hid (X88.out.below hs91)
  have J93 := Lib.hid (J89.out.below hs91)
  have N94 := Lib.hid (N90.out.below hs91)
  clear Bw87 BW87 X88 J89 N90
  rw [← HK70.out]
  have hk0 : ¬ ((K70 : Nat) : Int) < 0 := Int.not_lt.2 (Int.natCast_nonneg _)
  go_wp2_with fail
  go_ret
  exact ⟨rfl, Bw91.out⟩

/-! ### THE STEP TO THE ROW -/
set_option maxRecDepth 100000 in
theorem lifted (os : Os) (started : os.Started) (H : Type) (enc : TypeId × Value → H) :
    ReturnsInHanded {} Tryz.checked os 7 .any (Rows.fnExactLayersOfSpec.pre6 enc Tryz.prog Tryz.f7 Rows.fnExactLayersOfRow.domain false) (Rows.fnExactLayersOfSpec.post enc Tryz.prog Tryz.f7 false true false false) := by
  refine returnsInHanded_of_change (C := Tryz.checked) own started (by kernel_rfl) Tryz.func7
    (ChangeSpec.witness6 (enc := enc) (C := Tryz.checked) false ⟨#[], #[.agg #[.slice none 0 0], .slice none 0 0, .string ByteArray.empty], []⟩ 8 (by kernel_rfl) (by kernel_rfl) (by kernel_rfl) (by kernel_rfl)) ?_
  intro W base args ds gs before hval0 hW hcnd _
  have hval : ∀ (j : Nat) t v, Tryz.f7.params[j]? = some t → args[j]? = some v → Value.okWide Tryz.prog W .any base t v := hval0
  have hW' := hW
  obtain ⟨p, q, hA0, hV, rfl, hfz, hnd⟩ := hW
  have hA : DataW.TrodAll enc Tryz.prog W 0 (fun _ => true) true Tryz.f7.params.toList args.toList ds p := hA0
  rw [Tryz.params7] at hA hval
  obtain ⟨v0, vs0, d0, ds0, p0, q0, hargs, rfl, rfl, h0, r0⟩ := trodAll_cons hA
  obtain ⟨v1, vs1, d1, ds1, p1, q1, rfl, rfl, rfl, h1, r1⟩ := trodAll_cons r0
  obtain ⟨v2, vs2, d2, ds2, p2, q2, rfl, rfl, rfl, h2, r2⟩ := trodAll_cons r1
  obtain ⟨rfl, rfl, rfl⟩ := trodAll_nil r2
  obtain rfl : args = #[v0, v1, v2] := by cases args; simp_all
  obtain ⟨rfl, rfl⟩ := trodVars_none hV
  obtain ⟨cs0, rfl, _⟩ := okWide_struct Tryz.underlying24 (hval 0 24 v0 rfl rfl)
  have k0 := h0
  have lt0 : ∀ x ∈ p0, x.block < W.heap.size := by obtain ⟨m, hm⟩ := k0; exact DataW.trod_lt m _ _ _ hm
  obtain ⟨xs0, tv0, et0, w0⟩ : ∃ fs tv, cs0 = #[tv] ∧ FilsIn W (fun _ => True) tv fs ∧ ShortT maxLen fs := by
    obtain ⟨fuel, hf⟩ := h0
    obtain ⟨a', len', cap', fs, e0, e1, e2⟩ := read_tree hf
    exact ⟨fs, _, by rw [← Array.toList_inj]; simpa [Value.cells] using e0, e1, e2⟩
  subst et0
  obtain ⟨a1, len1, cap1, rfl⟩ := okWide_slice Tryz.underlying25 (hval 1 25 v1 rfl rfl)
  have k1 := h1
  have lt1 : ∀ x ∈ p1, x.block < W.heap.size := by obtain ⟨m, hm⟩ := k1; exact DataW.trod_lt m _ _ _ hm
  obtain ⟨xs1, w1⟩ : ∃ xs, IntsIn W (.slice a1 len1 cap1) xs := by
    obtain ⟨fuel, hf⟩ := h1
    exact ints_row Tryz.underlying25 Tryz.underlying3 (by kernel_rfl) hf
  obtain ⟨s2, rfl, rfl, rfl, ws2⟩ := open_string Tryz.underlying9 (hval 2 9 v2 rfl rfl) h2
  obtain ⟨l2, hl2⟩ := mk_of s2
  have w2 : l2.length ≤ maxLen := by rw [← mk_size, ← hl2]; exact ws2
  clear hA0 hval0
  rw [hl2]
  refine (walk tv0 xs0 _ xs1 l2 W w0 w1 w2).mono fun e W' ⟨he, bel⟩ => ?_
  subst he
  rw [← hl2]
  exact ⟨_, rfl, _, _, _, [], _, [], hW', trodAll_mk1 (shut_bool Tryz.underlying4 _), (trodAll_cons_mk (Below.trod laidOut (by kernel_rfl) (of_decide_eq_true (by kernel_rfl)) k0 bel lt0) (trodAll_cons_mk (Below.trod laidOut (by kernel_rfl) (of_decide_eq_true (by kernel_rfl)) k1 bel lt1) (trodAll_cons_mk (shut_string Tryz.underlying9 ws2) trodAll_mk0))), rfl, bel.frame _, fun h => by cases h⟩

set_option maxRecDepth 100000 in
set_option maxHeartbeats 16000000 in
theorem closed : joinedFacts Tryz.pinned.checked.prog 7 Tryz.f7 Rows.fnExactLayersOfSpec Rows.fnExactLayersOfRow = true := by
  unfold joinedFacts
  simp only [Bool.and_eq_true]
  with_reducible repeat' apply And.intro
  rotate_left 25
  exact Facts.enter
  exact Facts.lifts
  exact Facts.make
  all_goals as_aux_lemma => exact of_decide_eq_true (by kernel_rfl)

theorem over : Rows.fnExactLayersOfRow.holds Tryz.pinned (OpenSpec.ofChange Rows.fnExactLayersOfSpec) :=
  OpenClaim.holds_of_wide 7 Tryz.f7 rfl rfl rfl rfl rfl rfl rfl ⟨rfl, rfl, rfl, rfl, rfl⟩ rfl rfl rfl rfl rfl (by kernel_rfl) Tryz.func7 closed
    (of_decide_eq_true (by kernel_rfl)) (by unfold Func.isWrapper; first | (rw [if_pos (by decide +kernel)]; kernel_rfl) | (rw [if_neg (by decide +kernel)]; exact ⟨rfl, rfl⟩))
    (fun os started H enc _ => lifted os started H enc)

/-- THE STATEMENT -/
theorem proved : Rows.FnExactLayersOfSaid := over
end Go.Proofs.YtcmnldomcpjlcaaGreat.FnExactLayersOf
