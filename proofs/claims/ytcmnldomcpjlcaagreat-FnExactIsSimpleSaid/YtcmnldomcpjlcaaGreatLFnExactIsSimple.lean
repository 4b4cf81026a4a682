/- FnExactIsSimple returns true for every argument. -/
import Derived.Test.YtcmnldomcpjlcaaGreatSimple
import Derived.Test.YtcmnldomcpjlcaaGreatExTools
import Derived.Test.YtcmnldomcpjlcaaGreatSzTree
import Derived.Test.YtcmnldomcpjlcaaGreatReadIn
import Derived.Test.YtcmnldomcpjlcaaGreatHeld
import Derived.Test.YtcmnldomcpjlcaaGreatMarks2
import Derived.Test.YtcmnldomcpjlcaaGreatInts
import Derived.Test.YtcmnldomcpjlcaaGreatStrs
import Derived.Test.YtcmnldomcpjlcaaGreatFrame
import Derived.Test.YtcmnldomcpjlcaaGreatFacts
set_option linter.unusedVariables false
set_option linter.unusedSimpArgs false
namespace Go.Proofs.YtcmnldomcpjlcaaGreat.FnExactIsSimple
open Go.ChangeShapes Go.WideShapes Go.ChangeAt Go.RowKit Go.Proofs.YtcmnldomcpjlcaaGreat.Nm
open Go.ChangeMaps (open_string shut_string)

set_option maxRecDepth 100000 in
set_option maxHeartbeats 16000000 in
theorem walk (v0 : Value) (fs0 : List Fil) (v1 : Value) (ns1 : List Int) (s2 : Bs) (w : World) (h0 : FilsIn w (fun _ => True) v0 fs0 ∧ ShortT maxLen fs0) (h1 : IntsIn w v1 ns1) (h2 : s2.length ≤ maxLen) :
    Calls Tryz.prog 6 #[.agg #[v0], v1, .string (mk s2)] w fun e w' => e = .returned (.bool true) ∧ Below w.heap.size w w' := by
  obtain ⟨hr0, hz0⟩ := h0
  have HR0 := Lib.hid hr0
  have HZ0 := Lib.hid hz0
  obtain ⟨aa0, ca0, rfl, hlc0, hmc0⟩ := hr0.len
  clear hr0 hz0 hmc0
  have HR1 := Lib.hid h1
  obtain ⟨aa1, ca1, rfl, hlc1, hmc1⟩ := h1.len
  clear h1 hmc1
  unfold maxLen at h2
  by_cases hn1 : (1048576 : Int) < (ns1.length : Int)
  · go_enter Tryz.func6, Tryz.ntmps6
    go_wp2_with fail
    go_ret
    exact ⟨rfl, by (repeat (with_reducible first | exact Below.refl _ _ | assumption | refine ba ?_ _ | refine bd ?_ | refine bdN ?_ _ | refine bs ?_ (by first | exact Nat.le_refl _ | (dsimp only; omega) | (simp; done)) _ | refine bt ?_ (by assumption)))⟩
  have hq1 : ns1.length ≤ 1048576 := by omega
  by_cases hn2 : (1048576 : Int) < (s2.length : Int)
  · go_enter Tryz.func6, Tryz.ntmps6
    go_wp2_with fail
    go_ret
    exact ⟨rfl, by (repeat (with_reducible first | exact Below.refl _ _ | assumption | refine ba ?_ _ | refine bd ?_ | refine bdN ?_ _ | refine bs ?_ (by first | exact Nat.le_refl _ | (dsimp only; omega) | (simp; done)) _ | refine bt ?_ (by assumption)))⟩
  have hq2 : s2.length ≤ 1048576 := by omega
  obtain ⟨C0, hC0⟩ : ∃ C, C = filsCost fs0 := ⟨_, rfl⟩
  have HC0 := Lib.hid hC0
  clear hC0
  obtain ⟨g0, hg0⟩ : ∃ g, g = isSimple fs0 ns1 s2 := ⟨_, rfl⟩
  have HG0 := Lib.hid hg0
  clear hg0
  go_enter Tryz.func6, Tryz.ntmps6
  go_wp2_with fail
  refine (laws_szTree _ fs0 _ 1048576 _ (HR0.out.below (by (repeat (with_reducible first | exact Below.refl _ _ | assumption | refine ba ?_ _ | refine bd ?_ | refine bdN ?_ _ | refine bs ?_ (by first | exact Nat.le_refl _ | (dsimp only; omega) | (simp; done)) _ | refine bt ?_ (by assumption))))) HZ0.out (by omega)).mono ?_
  rintro _ w1 ⟨r1, rfl, hr1, hb1⟩
  have hs1 : Below w.heap.size w w1 := by (repeat (with_reducible first | exact Below.refl _ _ | assumption | refine ba ?_ _ | refine bd ?_ | refine bdN ?_ _ | refine bs ?_ (by first | exact Nat.le_refl _ | (dsimp only; omega) | (simp; done)) _ | refine bt ?_ (by assumption)))
  have Bw1 := Lib.hid (hs1)
  have X2 := Lib.hid (show BoxC w1 (w.heap.size) #[.slice aa0 fs0.length ca0] from ((BoxC.start w #[.slice aa0 fs0.length ca0] 24).below hb1).at (by simp))
  rw [← HC0.out] at hr1
  have k3_0 : w1.cell? ⟨w.heap.size, 0, none⟩ = some (.slice aa0 fs0.length ca0) := (X2.out).2 0
  have kl3 := (X2.out).1
  by_cases hn1 : r1 < 0
  · go_wp2_with fail
    go_ret
    exact ⟨rfl, Bw1.out⟩
  obtain ⟨R1, rfl⟩ := Int.eq_ofNat_of_zero_le (show 0 ≤ r1 by omega)
  have hR1 : R1 + C0 ≤ 1048576 := by omega
  clear hr1
  have HL0 := Lib.hid (costs_of (by rw [← HC0.out]; omega : filsCost fs0 ≤ 1048576))
  have HS0 := Lib.hid (shortT_mono (B := 2000000) (by omega) (shortT_of (by rw [← HC0.out]; omega : filsCost fs0 ≤ 1048576)))
  have HE0 := Lib.hid (fun k => (show endF k fs0 ≤ k + 5 * C0 by rw [endF_le k fs0]; have := sum_le (fs := fs0); have hcc := HC0.out; unfold filsCost at hcc; omega))
  have hln0 : fs0.length ≤ 1048576 := HL0.out.1
  have Hse0 := Lib.hid (show sameFils fs0 fs0 = true from decide_eq_true rfl)
  go_wp2_with fail
  refine (laws_toTree _ fs0 _ _ (HR0.out.below (bt Bw1.out (by (repeat (with_reducible first | exact Below.refl _ _ | assumption | refine ba ?_ _ | refine bd ?_ | refine bdN ?_ _ | refine bs ?_ (by first | exact Nat.le_refl _ | (dsimp only; omega) | (simp; done)) _ | refine bt ?_ (by assumption)))))) HL0.out).mono ?_
  rintro _ w4 ⟨v4, ps4, rfl, hps4, ho4, hb4⟩
  clear k3_0 kl3
  have hs4 : Below w1.heap.size w1 w4 := by (repeat (with_reducible first | exact Below.refl _ _ | assumption | refine ba ?_ _ | refine bd ?_ | refine bdN ?_ _ | refine bs ?_ (by first | exact Nat.le_refl _ | (dsimp only; omega) | (simp; done)) _ | refine bt ?_ (by assumption)))
  have Bw4 := Lib.hid (bt Bw1.out hs4)
  have X5 := Lib.hid (X2.out.below hs4)
  clear Bw1 X2
  obtain ⟨a4, c4, rfl⟩ := ho4.len
  have hpl4 : ps4.length = fs0.length := (by rw [← hps4, List.length_map])
  rw [hpl4] at ho4 ⊢
  have I4 := Lib.hid (show FilsIn w4 (fun _ => True) (.slice a4 fs0.length c4) fs0 by have h := ho4.fils (D := (fun _ => True)) (fun _ _ => trivial); rw [hps4] at h; exact h)
  have O4 := Lib.hid ho4
  have Hps4 := Lib.hid hps4
  clear ho4 hps4
  go_wp2_with fail
  refine (laws_toIntS _ ns1 _ (HR1.out.below (bt Bw4.out (by (repeat (with_reducible first | exact Below.refl _ _ | assumption | refine ba ?_ _ | refine bd ?_ | refine bdN ?_ _ | refine bs ?_ (by first | exact Nat.le_refl _ | (dsimp only; omega) | (simp; done)) _ | refine bt ?_ (by assumption)))))) hq1).mono ?_
  rintro _ w6 ⟨v6, rfl, ho6, hb6⟩
  have hs6 : Below w4.heap.size w4 w6 := by (repeat (with_reducible first | exact Below.refl _ _ | assumption | refine ba ?_ _ | refine bd ?_ | refine bdN ?_ _ | refine bs ?_ (by first | exact Nat.le_refl _ | (dsimp only; omega) | (simp; done)) _ | refine bt ?_ (by assumption)))
  have Bw6 := Lib.hid (bt Bw4.out hs6)
  have X7 := Lib.hid (X5.out.below hs6)
  have J8 := Lib.hid (I4.out.below hs6)
  clear Bw4 X5 I4
  obtain ⟨a6, c6, rfl⟩ := owns_shape ho6
  have I6 := Lib.hid (IntsIn.of_owns ho6)
  have O6 := Lib.hid ho6
  clear ho6
  go_wp2_with fail
  refine (spec_IsSimple _ fs0 (fun _ => True) _ ns1 s2 _ (J8.out.below (by (repeat (with_reducible first | exact Below.refl _ _ | assumption | refine ba ?_ _ | refine bd ?_ | refine bdN ?_ _ | refine bs ?_ (by first | exact Nat.le_refl _ | (dsimp only; omega) | (simp; done)) _ | refine bt ?_ (by assumption))))) HS0.out (I6.out.below (by (repeat (with_reducible first | exact Below.refl _ _ | assumption | refine ba ?_ _ | refine bd ?_ | refine bdN ?_ _ | refine bs ?_ (by first | exact Nat.le_refl _ | (dsimp only; omega) | (simp; done)) _ | refine bt ?_ (by assumption))))) (by omega)).mono ?_
  rintro _ w9 ⟨rfl, hb9⟩
  have hs9 : Below w6.heap.size w6 w9 := by (repeat (with_reducible first | exact Below.refl _ _ | assumption | refine ba ?_ _ | refine bd ?_ | refine bdN ?_ _ | refine bs ?_ (by first | exact Nat.le_refl _ | (dsimp only; omega) | (simp; done)) _ | refine bt ?_ (by assumption)))
  have Bw9 := Lib.hid (bt Bw6.out hs9)
  have X10 := Lib.hid (X7.out.below hs9)
  have J11 := Lib.hid (J8.out.below hs9)
  have J12 := Lib.hid (I6.out.below hs9)
  clear Bw6 X7 J8 I6
  have Hz9 := Lib.hid (show w6.heap.size ≤ w9.heap.size by have h := hb9.size; first | omega | (simp at h; omega))
  try rw [← HG0.out]
  obtain ⟨WW, hWW⟩ : ∃ WW, WW = w9 := ⟨_, rfl⟩
  have hWs : WW.heap.size = w9.heap.size + 0 := by rw [hWW]; simp
  have hcW : Below w9.heap.size w9 WW := by rw [hWW]; (repeat (with_reducible first | exact Below.refl _ _ | assumption | refine ba ?_ _ | refine bd ?_ | refine bdN ?_ _ | refine bs ?_ (by first | exact Nat.le_refl _ | (dsimp only; omega) | (simp; done)) _ | refine bt ?_ (by assumption)))
  have HwW := Lib.hid (bt Bw9.out hcW)
  have Hpl0 := Lib.hid (show w.heap.size < WW.heap.size by have := X10.out.1; omega)
  have HWs := Lib.hid hWs
  clear hWs hcW
  have k13_0 : w9.cell? ⟨w.heap.size, 0, none⟩ = some (.slice aa0 fs0.length ca0) := (X10.out).2 0
  have kl13 := (X10.out).1
  go_wp2_with fail
  refine (laws_toTree _ fs0 _ _ (HR0.out.below (bt Bw9.out (by (repeat (with_reducible first | exact Below.refl _ _ | assumption | refine ba ?_ _ | refine bd ?_ | refine bdN ?_ _ | refine bs ?_ (by first | exact Nat.le_refl _ | (dsimp only; omega) | (simp; done)) _ | refine bt ?_ (by assumption)))))) HL0.out).mono ?_
  rintro _ w14 ⟨v14, ps14, rfl, hps14, ho14, hb14⟩
  clear k13_0 kl13
  have hs14 : Below w9.heap.size w9 w14 := by (repeat (with_reducible first | exact Below.refl _ _ | assumption | refine ba ?_ _ | refine bd ?_ | refine bdN ?_ _ | refine bs ?_ (by first | exact Nat.le_refl _ | (dsimp only; omega) | (simp; done)) _ | refine bt ?_ (by assumption)))
  have Bw14 := Lib.hid (bt Bw9.out hs14)
  have BW14 := Lib.hid (show Below WW.heap.size WW w14 by rw [hWW]; exact hb14)
  have X15 := Lib.hid (X10.out.below hs14)
  clear Bw9 X10
  have Hz14 := Lib.hid (show w9.heap.size ≤ w14.heap.size by have h := hb14.size; first | omega | (simp at h; omega))
  obtain ⟨a14, c14, rfl⟩ := ho14.len
  have hpl14 : ps14.length = fs0.length := (by rw [← hps14, List.length_map])
  rw [hpl14] at ho14 ⊢
  have I14 := Lib.hid (show FilsIn w14 (fun _ => True) (.slice a14 fs0.length c14) fs0 by have h := ho14.fils (D := (fun _ => True)) (fun _ _ => trivial); rw [hps14] at h; exact h)
  have O14 := Lib.hid ho14
  have Hps14 := Lib.hid hps14
  clear ho14 hps14
  go_wp2_with fail
  refine (laws_toIntS _ ns1 _ (HR1.out.below (bt Bw14.out (by (repeat (with_reducible first | exact Below.refl _ _ | assumption | refine ba ?_ _ | refine bd ?_ | refine bdN ?_ _ | refine bs ?_ (by first | exact Nat.le_refl _ | (dsimp only; omega) | (simp; done)) _ | refine bt ?_ (by assumption)))))) hq1).mono ?_
  rintro _ w16 ⟨v16, rfl, ho16, hb16⟩
  have hs16 : Below w14.heap.size w14 w16 := by (repeat (with_reducible first | exact Below.refl _ _ | assumption | refine ba ?_ _ | refine bd ?_ | refine bdN ?_ _ | refine bs ?_ (by first | exact Nat.le_refl _ | (dsimp only; omega) | (simp; done)) _ | refine bt ?_ (by assumption)))
  have Bw16 := Lib.hid (bt Bw14.out hs16)
  have BW16 := Lib.hid (bt BW14.out hs16)
  have X17 := Lib.hid (X15.out.below hs16)
  have X18 := Lib.hid (show BoxC w16 (w14.heap.size) #[.slice a14 fs0.length c14] from ((BoxC.start w14 #[.slice a14 fs0.length c14] 31).below hb16).at (by simp))
  have J19 := Lib.hid (I14.out.below hs16)
  clear Bw14 BW14 X15 I14
  have Hz16 := Lib.hid (show w14.heap.size + 1 ≤ w16.heap.size by have h := hb16.size; first | omega | (simp at h; omega))
  obtain ⟨a16, c16, rfl⟩ := owns_shape ho16
  have I16 := Lib.hid (IntsIn.of_owns ho16)
  have O16 := Lib.hid ho16
  clear ho16
  have k20_0 : w16.cell? ⟨w14.heap.size, 0, none⟩ = some (.slice a14 fs0.length c14) := (X18.out).2 0
  have kl20 := (X18.out).1
  go_wp2_with fail
  refine (impl_IsSimple _ fs0 (fun _ => True) _ ns1 s2 _ (J19.out.below (by (repeat (with_reducible first | exact Below.refl _ _ | assumption | refine ba ?_ _ | refine bd ?_ | refine bdN ?_ _ | refine bs ?_ (by first | exact Nat.le_refl _ | (dsimp only; omega) | (simp; done)) _ | refine bt ?_ (by assumption))))) HS0.out (I16.out.below (by (repeat (with_reducible first | exact Below.refl _ _ | assumption | refine ba ?_ _ | refine bd ?_ | refine bdN ?_ _ | refine bs ?_ (by first | exact Nat.le_refl _ | (dsimp only; omega) | (simp; done)) _ | refine bt ?_ (by assumption))))) (by omega)).mono ?_
  rintro _ w21 ⟨rfl, hb21⟩
  clear k20_0 kl20
  have hs21 : Below w16.heap.size w16 w21 := by (repeat (with_reducible first | exact Below.refl _ _ | assumption | refine ba ?_ _ | refine bd ?_ | refine bdN ?_ _ | refine bs ?_ (by first | exact Nat.le_refl _ | (dsimp only; omega) | (simp; done)) _ | refine bt ?_ (by assumption)))
  have Bw21 := Lib.hid (bt Bw16.out hs21)
  have BW21 := Lib.hid (bt BW16.out hs21)
  have X22 := Lib.hid (X17.out.below hs21)
  have X23 := Lib.hid (X18.out.below hs21)
  have J24 := Lib.hid (J19.out.below hs21)
  have J25 := Lib.hid (I16.out.below hs21)
  clear Bw16 BW16 X17 X18 J19 I16
  have Hz21 := Lib.hid (show w16.heap.size ≤ w21.heap.size by have h := hb21.size; first | omega | (simp at h; omega))
  try rw [← HG0.out]
  have Hk26 := Lib.hid (fun (w' : World) (hC : Below w21.heap.size w21 w') => (⟨((X22.out).below hC).2 0, ((X23.out).below hC).2 0, hC⟩ : w'.cell? ⟨w.heap.size, 0, none⟩ = some (.slice aa0 fs0.length ca0) ∧ w'.cell? ⟨w14.heap.size, 0, none⟩ = some (.slice a14 fs0.length c14) ∧ Below w21.heap.size w21 w'))
  have HPHk26 := Lib.hid (HR0.out.below Bw21.out)
  go_wp2_with fail
  go_region_held3 (fun w' => w'.cell? ⟨w.heap.size, 0, none⟩ = some (.slice aa0 fs0.length ca0) ∧ w'.cell? ⟨w14.heap.size, 0, none⟩ = some (.slice a14 fs0.length c14) ∧ Below w21.heap.size w21 w')
    (exact Hk26.out _ (by (repeat (with_reducible first | exact Below.refl _ _ | assumption | refine ba ?_ _ | refine bd ?_ | refine bdN ?_ _ | refine bs ?_ (by first | exact Nat.le_refl _ | (dsimp only; omega) | (simp; done)) _ | refine bt ?_ (by assumption)))))
    (first
      | (go_at_call 16; refine (laws_toTree _ fs0 _ _ (HPHk26.out.below (by (repeat (with_reducible first | exact Below.refl _ _ | assumption | refine ba ?_ _ | refine bd ?_ | refine bdN ?_ _ | refine bs ?_ (by first | exact Nat.le_refl _ | (dsimp only; omega) | (simp; done)) _ | refine bt ?_ (by assumption))))) HL0.out).mono ?_; rintro _ w27 ⟨v27, ps27, rfl, hps27, ho27, hb27⟩; obtain ⟨a27, c27, rfl⟩ := ho27.len; have hpl27 : ps27.length = fs0.length := (by rw [← hps27, List.length_map]); rw [hpl27] at ho27 ⊢; have I27 := Lib.hid (show FilsIn w27 (fun _ => True) (.slice a27 fs0.length c27) fs0 by have h := ho27.fils (D := (fun _ => True)) (fun _ _ => trivial); rw [hps27] at h; exact h); have O27 := Lib.hid ho27; have Hps27 := Lib.hid hps27; clear ho27 hps27)
      | (go_at_call 20; refine (laws_eqTree _ _ fs0 fs0 (fun _ => True) (fun _ => True) _ (J24.out.below (by (repeat (with_reducible first | exact Below.refl _ _ | assumption | refine ba ?_ _ | refine bd ?_ | refine bdN ?_ _ | refine bs ?_ (by first | exact Nat.le_refl _ | (dsimp only; omega) | (simp; done)) _ | refine bt ?_ (by assumption))))) (I27.out.below (by (repeat (with_reducible first | exact Below.refl _ _ | assumption | refine ba ?_ _ | refine bd ?_ | refine bdN ?_ _ | refine bs ?_ (by first | exact Nat.le_refl _ | (dsimp only; omega) | (simp; done)) _ | refine bt ?_ (by assumption)))))).mono ?_; rintro _ w28 ⟨rfl, hb28⟩; rw [Hse0.out]))
  have hs28 : Below w21.heap.size w21 w28 := by (repeat (with_reducible first | exact Below.refl _ _ | assumption | refine ba ?_ _ | refine bd ?_ | refine bdN ?_ _ | refine bs ?_ (by first | exact Nat.le_refl _ | (dsimp only; omega) | (simp; done)) _ | refine bt ?_ (by assumption)))
  have Bw28 := Lib.hid (bt Bw21.out hs28)
  have BW28 := Lib.hid (bt BW21.out hs28)
  have X29 := Lib.hid (X22.out.below hs28)
  have X30 := Lib.hid (X23.out.below hs28)
  have J31 := Lib.hid (J24.out.below hs28)
  have J32 := Lib.hid (J25.out.below hs28)
  clear Bw21 BW21 X22 X23 J24 J25
  go_wp2_with fail
  refine (laws_toIntS _ ns1 _ (HR1.out.below (bt Bw28.out (by (repeat (with_reducible first | exact Below.refl _ _ | assumption | refine ba ?_ _ | refine bd ?_ | refine bdN ?_ _ | refine bs ?_ (by first | exact Nat.le_refl _ | (dsimp only; omega) | (simp; done)) _ | refine bt ?_ (by assumption)))))) hq1).mono ?_
  rintro _ w33 ⟨v33, rfl, ho33, hb33⟩
  have hs33 : Below w28.heap.size w28 w33 := by (repeat (with_reducible first | exact Below.refl _ _ | assumption | refine ba ?_ _ | refine bd ?_ | refine bdN ?_ _ | refine bs ?_ (by first | exact Nat.le_refl _ | (dsimp only; omega) | (simp; done)) _ | refine bt ?_ (by assumption)))
  have Bw33 := Lib.hid (bt Bw28.out hs33)
  have BW33 := Lib.hid (bt BW28.out hs33)
  have X34 := Lib.hid (X29.out.below hs33)
  have X35 := Lib.hid (X30.out.below hs33)
  have J36 := Lib.hid (J31.out.below hs33)
  have J37 := Lib.hid (J32.out.below hs33)
  clear Bw28 BW28 X29 X30 J31 J32
  obtain ⟨a33, c33, rfl⟩ := owns_shape ho33
  have I33 := Lib.hid (IntsIn.of_owns ho33)
  have O33 := Lib.hid ho33
  clear ho33
  go_wp2_with fail
  refine (laws_eqIntS _ _ ns1 ns1 _ (J37.out.below (by (repeat (with_reducible first | exact Below.refl _ _ | assumption | refine ba ?_ _ | refine bd ?_ | refine bdN ?_ _ | refine bs ?_ (by first | exact Nat.le_refl _ | (dsimp only; omega) | (simp; done)) _ | refine bt ?_ (by assumption))))) (I33.out.below (by (repeat (with_reducible first | exact Below.refl _ _ | assumption | refine ba ?_ _ | refine bd ?_ | refine bdN ?_ _ | refine bs ?_ (by first | exact Nat.le_refl _ | (dsimp only; omega) | (simp; done)) _ | refine bt ?_ (by assumption)))))).mono ?_
  rintro _ w38 ⟨rfl, hb38⟩
  have hs38 : Below w33.heap.size w33 w38 := by (repeat (with_reducible first | exact Below.refl _ _ | assumption | refine ba ?_ _ | refine bd ?_ | refine bdN ?_ _ | refine bs ?_ (by first | exact Nat.le_refl _ | (dsimp only; omega) | (simp; done)) _ | refine bt ?_ (by assumption)))
  have Bw38 := Lib.hid (bt Bw33.out hs38)
  have BW38 := Lib.hid (bt BW33.out hs38)
  have X39 := Lib.hid (X34.out.below hs38)
  have X40 := Lib.hid (X35.out.below hs38)
  have J41 := Lib.hid (J36.out.below hs38)
  have J42 := Lib.hid (J37.out.below hs38)
  clear Bw33 BW33 X34 X35 J36 J37
  rw [decide_eq_true (rfl : ns1 = ns1)]
  go_wp2_with fail
  go_ret
  exact ⟨rfl, Bw38.out⟩

/-! ### THE STEP TO THE ROW -/
set_option maxRecDepth 100000 in
theorem lifted (os : Os) (started : os.Started) (H : Type) (enc : TypeId × Value → H) :
    ReturnsInHanded {} Tryz.checked os 6 .any (Rows.fnExactIsSimpleSpec.pre6 enc Tryz.prog Tryz.f6 Rows.fnExactIsSimpleRow.domain false) (Rows.fnExactIsSimpleSpec.post enc Tryz.prog Tryz.f6 false true false false) := by
  refine returnsInHanded_of_change (C := Tryz.checked) own started (by kernel_rfl) Tryz.func6
    (ChangeSpec.witness6 (enc := enc) (C := Tryz.checked) false ⟨#[], #[.agg #[.slice none 0 0], .slice none 0 0, .string ByteArray.empty], []⟩ 8 (by kernel_rfl) (by kernel_rfl) (by kernel_rfl) (by kernel_rfl)) ?_
  intro W base args ds gs before hval0 hW hcnd _
  have hval : ∀ (j : Nat) t v, Tryz.f6.params[j]? = some t → args[j]? = some v → Value.okWide Tryz.prog W .any base t v := hval0
  have hW' := hW
  obtain ⟨p, q, hA0, hV, rfl, hfz, hnd⟩ := hW
  have hA : DataW.TrodAll enc Tryz.prog W 0 (fun _ => true) true Tryz.f6.params.toList args.toList ds p := hA0
  rw [Tryz.params6] at hA hval
  obtain ⟨v0, vs0, d0, ds0, p0, q0, hargs, rfl, rfl, h0, r0⟩ := trodAll_cons hA
  obtain ⟨v1, vs1, d1, ds1, p1, q1, rfl, rfl, rfl, h1, r1⟩ := trodAll_cons r0
  obtain ⟨v2, vs2, d2, ds2, p2, q2, rfl, rfl, rfl, h2, r2⟩ := trodAll_cons r1
  obtain ⟨rfl, rfl, rfl⟩ := trodAll_nil r2
  obtain rfl : args = #[v0, v1, v2] := by cases args; simp_all
  obtain ⟨rfl, rfl⟩ := trodVars_none hV
  obtain ⟨cs0, rfl, _⟩ := okWide_struct Tryz.underlying24 (hval 0 24 v0 rfl rfl)
  have k0 := h0
  have lt0 : ∀ x ∈ p0, x.block < W.heap.size := by obtain ⟨m, hm⟩ := k0; exact DataW.trod_lt m _ _ _ hm
  obtain ⟨xs0, tv0, et0, w0⟩ : ∃ fs tv, cs0 = #[tv] ∧ FilsIn W (fun _ => True) tv fs ∧ ShortT maxLen fs := by
    obtain ⟨fuel, hf⟩ := h0
    obtain ⟨a', len', cap', fs, e0, e1, e2⟩ := read_tree hf
    exact ⟨fs, _, by rw [← Array.toList_inj]; simpa [Value.cells] using e0, e1, e2⟩
  subst et0
  obtain ⟨a1, len1, cap1, rfl⟩ := okWide_slice Tryz.underlying25 (hval 1 25 v1 rfl rfl)
  have k1 := h1
  have lt1 : ∀ x ∈ p1, x.block < W.heap.size := by obtain ⟨m, hm⟩ := k1; exact DataW.trod_lt m _ _ _ hm
  obtain ⟨xs1, w1⟩ : ∃ xs, IntsIn W (.slice a1 len1 cap1) xs := by
    obtain ⟨fuel, hf⟩ := h1
    exact ints_row Tryz.underlying25 Tryz.underlying3 (by kernel_rfl) hf
  obtain ⟨s2, rfl, rfl, rfl, ws2⟩ := open_string Tryz.underlying9 (hval 2 9 v2 rfl rfl) h2
  obtain ⟨l2, hl2⟩ := mk_of s2
  have w2 : l2.length ≤ maxLen := by rw [← mk_size, ← hl2]; exact ws2
  clear hA0 hval0
  rw [hl2]
  refine (walk tv0 xs0 _ xs1 l2 W w0 w1 w2).mono fun e W' ⟨he, bel⟩ => ?_
  subst he
  rw [← hl2]
  exact ⟨_, rfl, _, _, _, [], _, [], hW', trodAll_mk1 (shut_bool Tryz.underlying4 _), (trodAll_cons_mk (Below.trod laidOut (by kernel_rfl) (of_decide_eq_true (by kernel_rfl)) k0 bel lt0) (trodAll_cons_mk (Below.trod laidOut (by kernel_rfl) (of_decide_eq_true (by kernel_rfl)) k1 bel lt1) (trodAll_cons_mk (shut_string Tryz.underlying9 ws2) trodAll_mk0))), rfl, bel.frame _, fun h => by cases h⟩

set_option maxRecDepth 100000 in
set_option maxHeartbeats 16000000 in
theorem closed : joinedFacts Tryz.pinned.checked.prog 6 Tryz.f6 Rows.fnExactIsSimpleSpec Rows.fnExactIsSimpleRow = true := by
  unfold joinedFacts
  simp only [Bool.and_eq_true]
  with_reducible repeat' apply And.intro
  rotate_left 25
  exact Facts.enter
  exact Facts.lifts
  exact Facts.make
  all_goals as_aux_lemma => exact of_decide_eq_true (by kernel_rfl)

theorem over : Rows.fnExactIsSimpleRow.holds Tryz.pinned (OpenSpec.ofChange Rows.fnExactIsSimpleSpec) :=
  OpenClaim.holds_of_wide 6 Tryz.f6 rfl rfl rfl rfl rfl rfl rfl ⟨rfl, rfl, rfl, rfl, rfl⟩ rfl rfl rfl rfl rfl (by kernel_rfl) Tryz.func6 closed
    (of_decide_eq_true (by kernel_rfl)) (by unfold Func.isWrapper; first | (rw [if_pos (by decide +kernel)]; kernel_rfl) | (rw [if_neg (by decide +kernel)]; exact ⟨rfl, rfl⟩))
    (fun os started H enc _ => lifted os started H enc)

/-- THE STATEMENT -/
theorem proved : Rows.FnExactIsSimpleSaid := over
end Go.Proofs.YtcmnldomcpjlcaaGreat.FnExactIsSimple
