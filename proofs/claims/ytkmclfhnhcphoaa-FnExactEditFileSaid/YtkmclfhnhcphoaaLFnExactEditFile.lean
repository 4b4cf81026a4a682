/- FnExactEditFile returns true for every argument. -/
import Derived.Test.YtkmclfhnhcphoaaExAdds
import Derived.Test.YtkmclfhnhcphoaaSEdit
import Derived.Test.YtkmclfhnhcphoaaExTools
import Derived.Test.YtkmclfhnhcphoaaSzTree
import Derived.Test.YtkmclfhnhcphoaaReadIn
import Derived.Test.YtkmclfhnhcphoaaHeld
import Derived.Test.YtkmclfhnhcphoaaMarks2
import Derived.Test.YtkmclfhnhcphoaaInts
import Derived.Test.YtkmclfhnhcphoaaStrs
import Derived.Test.YtkmclfhnhcphoaaFrame
set_option linter.unusedVariables false
set_option linter.unusedSimpArgs false
namespace Go.Proofs.Ytkmclfhnhcphoaa.FnExactEditFile
open Go.ChangeShapes Go.WideShapes Go.ChangeAt Go.RowKit Go.Proofs.Ytkmclfhnhcphoaa.Nm

set_option maxRecDepth 100000 in
set_option maxHeartbeats 16000000 in
theorem walk (v0 : Value) (fs0 : List Fil) (n1 : Int) (n2 : Int) (v3 : Value) (ss3 : List Stm) (w : World) (h0 : FilsIn w (fun _ => True) v0 fs0 ∧ ShortT maxLen fs0) (h1 : (Lit.int .i64 n1).wf = true) (h2 : (Lit.int .i64 n2).wf = true) (h3 : StmsIn w (fun _ => True) v3 ss3 ∧ Short maxLen ss3) :
    Calls Try.prog 5 #[.agg #[v0], .int .i64 n1, .int .i64 n2, v3] w fun e w' => e = .returned (.bool true) ∧ Below w.heap.size w w' := by
  obtain ⟨hr0, hz0⟩ := h0
  have HR0 := Lib.hid hr0
  have HZ0 := Lib.hid hz0
  obtain ⟨aa0, ca0, rfl, hlc0, hmc0⟩ := hr0.len
  clear hr0 hz0 hmc0
  obtain ⟨hr3, hz3⟩ := h3
  have HR3 := Lib.hid hr3
  have HZ3 := Lib.hid hz3
  obtain ⟨aa3, ca3, rfl, hlc3, hmc3⟩ := hr3.len
  clear hr3 hz3 hmc3
  obtain ⟨C0, hC0⟩ : ∃ C, C = filsCost fs0 := ⟨_, rfl⟩
  have HC0 := Lib.hid hC0
  clear hC0
  obtain ⟨C3, hC3⟩ : ∃ C, C = stmsCost ss3 := ⟨_, rfl⟩
  have HC3 := Lib.hid hC3
  clear hC3
  obtain ⟨g0, hg0⟩ : ∃ g, g = (edFil fs0 n1 n2 ss3).1 := ⟨_, rfl⟩
  obtain ⟨g1, hg1⟩ : ∃ g, g = (edFil fs0 n1 n2 ss3).2 := ⟨_, rfl⟩
  have hgf := edFil_fine fs0 n1 n2 ss3
  rw [← hg0] at hgf
  have Hgb0 := Lib.hid (end_fine hgf.1 hgf.2)
  have hgl := hgf.2
  clear hgf
  have HG0 := Lib.hid hg0
  clear hg0
  have HG1 := Lib.hid hg1
  clear hg1
  have Hsg0 := Lib.hid (show sameFils g0 g0 = true from decide_eq_true rfl)
  go_enter Try.func5, Try.ntmps5
  go_wp2_with fail
  refine (laws_szTree _ fs0 _ 1048576 _ (HR0.out.below (by (repeat (with_reducible first | exact Below.refl _ _ | assumption | refine ba ?_ _ | refine bd ?_ | refine bdN ?_ _ | refine bs ?_ (by first | exact Nat.le_refl _ | (dsimp only; omega) | (simp; done)) _ | refine bt ?_ (by assumption))))) HZ0.out (by omega)).mono ?_
  rintro _ w1 ⟨r1, rfl, hr1, hb1⟩
  have hs1 : Below w.heap.size w w1 := by (repeat (with_reducible first | exact Below.refl _ _ | assumption | refine ba ?_ _ | refine bd ?_ | refine bdN ?_ _ | refine bs ?_ (by first | exact Nat.le_refl _ | (dsimp only; omega) | (simp; done)) _ | refine bt ?_ (by assumption)))
  have Bw1 := Lib.hid (hs1)
  have X2 := Lib.hid (show BoxC w1 (w.heap.size) #[.slice aa0 fs0.length ca0] from ((BoxC.start w #[.slice aa0 fs0.length ca0] 24).below (by (repeat (with_reducible first | exact Below.refl _ _ | assumption | refine ba ?_ _ | refine bd ?_ | refine bdN ?_ _ | refine bs ?_ (by first | exact Nat.le_refl _ | (dsimp only; omega) | (simp; done)) _ | refine bt ?_ (by assumption))))).at (by simp))
  rw [← HC0.out] at hr1
  by_cases hn1 : r1 < 0
  · go_wp2_with fail
    go_ret
    exact ⟨rfl, Bw1.out⟩
  obtain ⟨R1, rfl⟩ := Int.eq_ofNat_of_zero_le (show 0 ≤ r1 by omega)
  have hR1 : R1 + C0 ≤ 1048576 := by omega
  clear hr1
  go_wp2_with fail
  refine (laws_szStmtS _ ss3 _ R1 _ (HR3.out.below (bt Bw1.out (by (repeat (with_reducible first | exact Below.refl _ _ | assumption | refine ba ?_ _ | refine bd ?_ | refine bdN ?_ _ | refine bs ?_ (by first | exact Nat.le_refl _ | (dsimp only; omega) | (simp; done)) _ | refine bt ?_ (by assumption)))))) HZ3.out (by omega)).mono ?_
  rintro _ w3 ⟨r3, rfl, hr3, hb3⟩
  have hs3 : Below w1.heap.size w1 w3 := by (repeat (with_reducible first | exact Below.refl _ _ | assumption | refine ba ?_ _ | refine bd ?_ | refine bdN ?_ _ | refine bs ?_ (by first | exact Nat.le_refl _ | (dsimp only; omega) | (simp; done)) _ | refine bt ?_ (by assumption)))
  have Bw3 := Lib.hid (bt Bw1.out hs3)
  have X4 := Lib.hid (X2.out.below hs3)
  clear Bw1 X2
  rw [← HC3.out] at hr3
  have k5_0 : w3.cell? ⟨w.heap.size, 0, none⟩ = some (.slice aa0 fs0.length ca0) := (X4.out).2 0
  have kl5 := (X4.out).1
  by_cases hn3 : r3 < 0
  · go_wp2_with fail
    go_ret
    exact ⟨rfl, Bw3.out⟩
  obtain ⟨R3, rfl⟩ := Int.eq_ofNat_of_zero_le (show 0 ≤ r3 by omega)
  have hR3 : R3 + C3 ≤ R1 := by omega
  clear hr3
  have HL0 := Lib.hid (costs_of (by rw [← HC0.out]; omega : filsCost fs0 ≤ 1048576))
  have HS0 := Lib.hid (shortT_mono (B := 2000000) (by omega) (shortT_of (by rw [← HC0.out]; omega : filsCost fs0 ≤ 1048576)))
  have HE0 := Lib.hid (fun k => (show endF k fs0 ≤ k + 5 * C0 by rw [endF_le k fs0]; have := sum_le (fs := fs0); have hcc := HC0.out; unfold filsCost at hcc; omega))
  have hln0 : fs0.length ≤ 1048576 := HL0.out.1
  have Hse0 := Lib.hid (show sameFils fs0 fs0 = true from decide_eq_true rfl)
  have HS3 := Lib.hid (short_mono (B := 8000000) (by omega) (short_of (by rw [← HC3.out]; omega : stmsCost ss3 ≤ 1048576)))
  have hln3 : ss3.length ≤ C3 := by have := HC3.out; unfold stmsCost at this; omega
  have Hse3 := Lib.hid (show sameStms ss3 ss3 = true from decide_eq_true rfl)
  go_wp2_with fail
  refine (laws_toTree _ fs0 _ _ (HR0.out.below (bt Bw3.out (by (repeat (with_reducible first | exact Below.refl _ _ | assumption | refine ba ?_ _ | refine bd ?_ | refine bdN ?_ _ | refine bs ?_ (by first | exact Nat.le_refl _ | (dsimp only; omega) | (simp; done)) _ | refine bt ?_ (by assumption)))))) HL0.out).mono ?_
  rintro _ w6 ⟨v6, ps6, rfl, hps6, ho6, hb6⟩
  clear k5_0 kl5
  have hs6 : Below w3.heap.size w3 w6 := by (repeat (with_reducible first | exact Below.refl _ _ | assumption | refine ba ?_ _ | refine bd ?_ | refine bdN ?_ _ | refine bs ?_ (by first | exact Nat.le_refl _ | (dsimp only; omega) | (simp; done)) _ | refine bt ?_ (by assumption)))
  have Bw6 := Lib.hid (bt Bw3.out hs6)
  have X7 := Lib.hid (X4.out.below hs6)
  clear Bw3 X4
  obtain ⟨a6, c6, rfl⟩ := ho6.len
  have hpl6 : ps6.length = fs0.length := (by rw [← hps6, List.length_map])
  rw [hpl6] at ho6 ⊢
  have I6 := Lib.hid (show FilsIn w6 (fun _ => True) (.slice a6 fs0.length c6) fs0 by have h := ho6.fils (D := (fun _ => True)) (fun _ _ => trivial); rw [hps6] at h; exact h)
  have O6 := Lib.hid ho6
  have Hps6 := Lib.hid hps6
  clear ho6 hps6
  go_wp2_with fail
  refine (laws_toStmtS _ ss3 _ _ (HR3.out.below (bt Bw6.out (by (repeat (with_reducible first | exact Below.refl _ _ | assumption | refine ba ?_ _ | refine bd ?_ | refine bdN ?_ _ | refine bs ?_ (by first | exact Nat.le_refl _ | (dsimp only; omega) | (simp; done)) _ | refine bt ?_ (by assumption)))))) (by omega)).mono ?_
  rintro _ w8 ⟨v8, rfl, ho8, hb8⟩
  have hs8 : Below w6.heap.size w6 w8 := by (repeat (with_reducible first | exact Below.refl _ _ | assumption | refine ba ?_ _ | refine bd ?_ | refine bdN ?_ _ | refine bs ?_ (by first | exact Nat.le_refl _ | (dsimp only; omega) | (simp; done)) _ | refine bt ?_ (by assumption)))
  have Bw8 := Lib.hid (bt Bw6.out hs8)
  have X9 := Lib.hid (X7.out.below hs8)
  have J10 := Lib.hid (I6.out.below hs8)
  have Q10 := Lib.hid (O6.out.below hs8)
  clear Bw6 X7 I6 O6
  obtain ⟨a8, c8, rfl⟩ := owns_shape ho8
  have I8 := Lib.hid (show StmsIn w8 (fun _ => True) (.slice a8 ss3.length c8) ss3 from StmsIn.of_owns ho8 (fun _ _ => trivial))
  have O8 := Lib.hid ho8
  clear ho8
  go_wp2_with fail
  refine (spec_EditFileX _ fs0 _ _ _ n1 n2 _ ss3 _ (Q10.out.below (by (repeat (with_reducible first | exact Below.refl _ _ | assumption | refine ba ?_ _ | refine bd ?_ | refine bdN ?_ _ | refine bs ?_ (by first | exact Nat.le_refl _ | (dsimp only; omega) | (simp; done)) _ | refine bt ?_ (by assumption))))) Hps6.out HS0.out HL0.out (owns_below O8.out (by (repeat (with_reducible first | exact Below.refl _ _ | assumption | refine ba ?_ _ | refine bd ?_ | refine bdN ?_ _ | refine bs ?_ (by first | exact Nat.le_refl _ | (dsimp only; omega) | (simp; done)) _ | refine bt ?_ (by assumption))))) HS3.out (by omega)).mono ?_
  rintro _ w11 ⟨v11_0, ps11_0, rfl, hps11_0, ho11_0, hb11⟩
  have hs11 : Below w8.heap.size w8 w11 := by (repeat (with_reducible first | exact Below.refl _ _ | assumption | refine ba ?_ _ | refine bd ?_ | refine bdN ?_ _ | refine bs ?_ (by first | exact Nat.le_refl _ | (dsimp only; omega) | (simp; done)) _ | refine bt ?_ (by assumption)))
  have Bw11 := Lib.hid (bt Bw8.out hs11)
  have X12 := Lib.hid (X9.out.below hs11)
  have J13 := Lib.hid (J10.out.below hs11)
  have Q13 := Lib.hid (Q10.out.below hs11)
  have J14 := Lib.hid (I8.out.below hs11)
  have Q14 := Lib.hid (owns_below O8.out hs11)
  clear Bw8 X9 J10 Q10 I8 O8
  have Hz11 := Lib.hid (show w8.heap.size ≤ w11.heap.size by have h := hb11.size; first | omega | (simp at h; omega))
  try rw [← HG0.out]
  try rw [← HG0.out] at hps11_0
  try rw [← HG0.out] at ho11_0
  obtain ⟨a11_0, c11_0, rfl⟩ := ho11_0.len
  have hpl11_0 : ps11_0.length = g0.length := (by rw [← hps11_0, List.length_map])
  rw [hpl11_0] at ho11_0 ⊢
  have I11_0 := Lib.hid (show FilsIn w11 (fun _ => True) (.slice a11_0 g0.length c11_0) g0 by have h := ho11_0.fils (D := (fun _ => True)) (fun _ _ => trivial); rw [hps11_0] at h; exact h)
  have O11_0 := Lib.hid ho11_0
  have Hps11_0 := Lib.hid hps11_0
  clear ho11_0 hps11_0
  try rw [← HG1.out]
  obtain ⟨WW, hWW⟩ : ∃ WW, WW = (w11.alloc (.cells #[.slice a11_0 g0.length c11_0] 32)) := ⟨_, rfl⟩
  have hWs : WW.heap.size = w11.heap.size + 1 := by rw [hWW]; simp
  have hcW : Below w11.heap.size w11 WW := by rw [hWW]; (repeat (with_reducible first | exact Below.refl _ _ | assumption | refine ba ?_ _ | refine bd ?_ | refine bdN ?_ _ | refine bs ?_ (by first | exact Nat.le_refl _ | (dsimp only; omega) | (simp; done)) _ | refine bt ?_ (by assumption)))
  have IW0 := Lib.hid (I11_0.out.below hcW)
  have HwW := Lib.hid (bt Bw11.out hcW)
  have Hpl0 := Lib.hid (show w.heap.size < WW.heap.size by have := X12.out.1; omega)
  have Hwl0 := Lib.hid (show w11.heap.size < WW.heap.size by omega)
  have HWs := Lib.hid hWs
  clear hWs hcW
  have k15_0 : w11.cell? ⟨w.heap.size, 0, none⟩ = some (.slice aa0 fs0.length ca0) := (X12.out).2 0
  have kl15 := (X12.out).1
  go_wp2_with fail
  refine (laws_toTree _ fs0 _ _ (HR0.out.below (bt Bw11.out (by (repeat (with_reducible first | exact Below.refl _ _ | assumption | refine ba ?_ _ | refine bd ?_ | refine bdN ?_ _ | refine bs ?_ (by first | exact Nat.le_refl _ | (dsimp only; omega) | (simp; done)) _ | refine bt ?_ (by assumption)))))) HL0.out).mono ?_
  rintro _ w16 ⟨v16, ps16, rfl, hps16, ho16, hb16⟩
  clear k15_0 kl15
  have hs16 : Below w11.heap.size w11 w16 := by (repeat (with_reducible first | exact Below.refl _ _ | assumption | refine ba ?_ _ | refine bd ?_ | refine bdN ?_ _ | refine bs ?_ (by first | exact Nat.le_refl _ | (dsimp only; omega) | (simp; done)) _ | refine bt ?_ (by assumption)))
  have Bw16 := Lib.hid (bt Bw11.out hs16)
  have BW16 := Lib.hid (show Below WW.heap.size WW w16 by rw [hWW]; exact hb16)
  have X17 := Lib.hid (X12.out.below hs16)
  have X18 := Lib.hid (show BoxC w16 (w11.heap.size) #[.slice a11_0 g0.length c11_0] from ((BoxC.start w11 #[.slice a11_0 g0.length c11_0] 32).below (by (repeat (with_reducible first | exact Below.refl _ _ | assumption | refine ba ?_ _ | refine bd ?_ | refine bdN ?_ _ | refine bs ?_ (by first | exact Nat.le_refl _ | (dsimp only; omega) | (simp; done)) _ | refine bt ?_ (by assumption))))).at (by simp))
  clear Bw11 X12
  have Hz16 := Lib.hid (show w11.heap.size + 1 ≤ w16.heap.size by have h := hb16.size; first | omega | (simp at h; omega))
  obtain ⟨a16, c16, rfl⟩ := ho16.len
  have hpl16 : ps16.length = fs0.length := (by rw [← hps16, List.length_map])
  rw [hpl16] at ho16 ⊢
  have I16 := Lib.hid (show FilsIn w16 (fun _ => True) (.slice a16 fs0.length c16) fs0 by have h := ho16.fils (D := (fun _ => True)) (fun _ _ => trivial); rw [hps16] at h; exact h)
  have O16 := Lib.hid ho16
  have Hps16 := Lib.hid hps16
  clear ho16 hps16
  have OO16 := Lib.hid (O16.out.mono (show w11.heap.size + 1 ≤ _ by simp))
  clear O16
  have Hv16 := Lib.hid (fun b (hb : BlkF (.slice a16 fs0.length c16) ps16 b) => (show w11.heap.size + 1 ≤ b ∧ b < w16.heap.size by have h := (blkF_ge OO16.out.1 (fun p hp => ⟨_, _, _, _, OO16.out.2.1 p hp⟩)) b hb; first | exact h | (simp at h; exact h)))
  go_wp2_with fail
  refine (laws_toStmtS _ ss3 _ _ (HR3.out.below (bt Bw16.out (by (repeat (with_reducible first | exact Below.refl _ _ | assumption | refine ba ?_ _ | refine bd ?_ | refine bdN ?_ _ | refine bs ?_ (by first | exact Nat.le_refl _ | (dsimp only; omega) | (simp; done)) _ | refine bt ?_ (by assumption)))))) (by omega)).mono ?_
  rintro _ w19 ⟨v19, rfl, ho19, hb19⟩
  have hs19 : Below w16.heap.size w16 w19 := by (repeat (with_reducible first | exact Below.refl _ _ | assumption | refine ba ?_ _ | refine bd ?_ | refine bdN ?_ _ | refine bs ?_ (by first | exact Nat.le_refl _ | (dsimp only; omega) | (simp; done)) _ | refine bt ?_ (by assumption)))
  have Bw19 := Lib.hid (bt Bw16.out hs19)
  have BW19 := Lib.hid (bt BW16.out hs19)
  have X20 := Lib.hid (X17.out.below hs19)
  have X21 := Lib.hid (X18.out.below hs19)
  have X22 := Lib.hid (show BoxC w19 (w16.heap.size) #[.slice a16 fs0.length c16] from ((BoxC.start w16 #[.slice a16 fs0.length c16] 32).below (by (repeat (with_reducible first | exact Below.refl _ _ | assumption | refine ba ?_ _ | refine bd ?_ | refine bdN ?_ _ | refine bs ?_ (by first | exact Nat.le_refl _ | (dsimp only; omega) | (simp; done)) _ | refine bt ?_ (by assumption))))).at (by simp))
  have J23 := Lib.hid (I16.out.below hs19)
  have Q23 := Lib.hid (OO16.out.below hs19)
  clear Bw16 BW16 X17 X18 I16 OO16
  have Hz19 := Lib.hid (show w16.heap.size + 1 ≤ w19.heap.size by have h := hb19.size; first | omega | (simp at h; omega))
  obtain ⟨a19, c19, rfl⟩ := owns_shape ho19
  have I19 := Lib.hid (show StmsIn w19 (fun _ => True) (.slice a19 ss3.length c19) ss3 from StmsIn.of_owns ho19 (fun _ _ => trivial))
  have O19 := Lib.hid ho19
  clear ho19
  have OO19 := Lib.hid (owns_mono O19.out (show w16.heap.size + 1 ≤ _ by simp))
  clear O19
  have Hv19 := Lib.hid (fun b (hb : (Value.slice a19 ss3.length c19).ownBlock = some b) => (show w16.heap.size + 1 ≤ b ∧ b < w19.heap.size by have h := (fun b hb => OO19.out.lt b hb) b hb; first | exact h | (simp at h; exact h)))
  have k24_0 : w19.cell? ⟨w16.heap.size, 0, none⟩ = some (.slice a16 fs0.length c16) := (X22.out).2 0
  have kl24 := (X22.out).1
  go_wp2_with fail
  refine (impl_EditFileX _ fs0 _ _ _ n1 n2 _ ss3 _ (Q23.out.below (by (repeat (with_reducible first | exact Below.refl _ _ | assumption | refine ba ?_ _ | refine bd ?_ | refine bdN ?_ _ | refine bs ?_ (by first | exact Nat.le_refl _ | (dsimp only; omega) | (simp; done)) _ | refine bt ?_ (by assumption))))) Hps16.out HS0.out HL0.out (owns_below OO19.out (by (repeat (with_reducible first | exact Below.refl _ _ | assumption | refine ba ?_ _ | refine bd ?_ | refine bdN ?_ _ | refine bs ?_ (by first | exact Nat.le_refl _ | (dsimp only; omega) | (simp; done)) _ | refine bt ?_ (by assumption))))) HS3.out).mono ?_
  rintro _ w25 ⟨v25_0, ps25_0, rfl, hps25_0, ho25_0, hb25⟩
  clear k24_0 kl24
  have hs25 : Below w19.heap.size w19 w25 := by (repeat (with_reducible first | exact Below.refl _ _ | assumption | refine ba ?_ _ | refine bd ?_ | refine bdN ?_ _ | refine bs ?_ (by first | exact Nat.le_refl _ | (dsimp only; omega) | (simp; done)) _ | refine bt ?_ (by assumption)))
  have Bw25 := Lib.hid (bt Bw19.out hs25)
  have BW25 := Lib.hid (bt BW19.out hs25)
  have X26 := Lib.hid (X20.out.below hs25)
  have X27 := Lib.hid (X21.out.below hs25)
  have X28 := Lib.hid (X22.out.below hs25)
  have J29 := Lib.hid (J23.out.below hs25)
  have Q29 := Lib.hid (Q23.out.below hs25)
  have J30 := Lib.hid (I19.out.below hs25)
  have Q30 := Lib.hid (owns_below OO19.out hs25)
  clear Bw19 BW19 X20 X21 X22 J23 Q23 I19 OO19
  have Hz25 := Lib.hid (show w19.heap.size ≤ w25.heap.size by have h := hb25.size; first | omega | (simp at h; omega))
  try rw [← HG0.out]
  try rw [← HG0.out] at hps25_0
  try rw [← HG0.out] at ho25_0
  obtain ⟨a25_0, c25_0, rfl⟩ := ho25_0.len
  have hpl25_0 : ps25_0.length = g0.length := (by rw [← hps25_0, List.length_map])
  rw [hpl25_0] at ho25_0 ⊢
  have I25_0 := Lib.hid (show FilsIn w25 (fun _ => True) (.slice a25_0 g0.length c25_0) g0 by have h := ho25_0.fils (D := (fun _ => True)) (fun _ _ => trivial); rw [hps25_0] at h; exact h)
  have O25_0 := Lib.hid ho25_0
  have Hps25_0 := Lib.hid hps25_0
  clear ho25_0 hps25_0
  try rw [← HG1.out]
  have OO25_0 := Lib.hid (O25_0.out.mono (show w19.heap.size ≤ _ by simp))
  clear O25_0
  have Hv31 := Lib.hid (fun b (hb : BlkF (.slice a25_0 g0.length c25_0) ps25_0 b) => (show w19.heap.size ≤ b ∧ b < w25.heap.size by have h := (blkF_ge OO25_0.out.1 (fun p hp => ⟨_, _, _, _, OO25_0.out.2.1 p hp⟩)) b hb; first | exact h | (simp at h; exact h)))
  have k32_0 : w25.cell? ⟨w11.heap.size, 0, none⟩ = some (.slice a11_0 g0.length c11_0) := (X27.out).2 0
  have kl32 := (X27.out).1
  go_wp2_with fail
  refine (laws_eqTree _ _ g0 g0 (fun _ => True) (fun _ => True) _ (I25_0.out.below (by (repeat (with_reducible first | exact Below.refl _ _ | assumption | refine ba ?_ _ | refine bd ?_ | refine bdN ?_ _ | refine bs ?_ (by first | exact Nat.le_refl _ | (dsimp only; omega) | (simp; done)) _ | refine bt ?_ (by assumption))))) (IW0.out.below (bt BW25.out (by (repeat (with_reducible first | exact Below.refl _ _ | assumption | refine ba ?_ _ | refine bd ?_ | refine bdN ?_ _ | refine bs ?_ (by first | exact Nat.le_refl _ | (dsimp only; omega) | (simp; done)) _ | refine bt ?_ (by assumption))))))).mono ?_
  rintro _ w33 ⟨rfl, hb33⟩
  clear k32_0 kl32
  have hs33 : Below w25.heap.size w25 w33 := by (repeat (with_reducible first | exact Below.refl _ _ | assumption | refine ba ?_ _ | refine bd ?_ | refine bdN ?_ _ | refine bs ?_ (by first | exact Nat.le_refl _ | (dsimp only; omega) | (simp; done)) _ | refine bt ?_ (by assumption)))
  have Bw33 := Lib.hid (bt Bw25.out hs33)
  have BW33 := Lib.hid (bt BW25.out hs33)
  have X34 := Lib.hid (X26.out.below hs33)
  have X35 := Lib.hid (X27.out.below hs33)
  have X36 := Lib.hid (X28.out.below hs33)
  have X37 := Lib.hid (show BoxC w33 (w25.heap.size) #[.slice a25_0 g0.length c25_0] from ((BoxC.start w25 #[.slice a25_0 g0.length c25_0] 32).below (by (repeat (with_reducible first | exact Below.refl _ _ | assumption | refine ba ?_ _ | refine bd ?_ | refine bdN ?_ _ | refine bs ?_ (by first | exact Nat.le_refl _ | (dsimp only; omega) | (simp; done)) _ | refine bt ?_ (by assumption))))).at (by simp))
  have J38 := Lib.hid (J29.out.below hs33)
  have Q38 := Lib.hid (Q29.out.below hs33)
  have J39 := Lib.hid (J30.out.below hs33)
  have Q39 := Lib.hid (owns_below Q30.out hs33)
  have J40 := Lib.hid (I25_0.out.below hs33)
  have Q40 := Lib.hid (OO25_0.out.below hs33)
  clear Bw25 BW25 X26 X27 X28 J29 Q29 J30 Q30 I25_0 OO25_0
  rw [Hsg0.out]
  have Hk41 := Lib.hid (fun (w' : World) (hC : Below w33.heap.size w33 w') => (⟨((X34.out).below hC).2 0, ((X36.out).below hC).2 0, hC⟩ : w'.cell? ⟨w.heap.size, 0, none⟩ = some (.slice aa0 fs0.length ca0) ∧ w'.cell? ⟨w16.heap.size, 0, none⟩ = some (.slice a16 fs0.length c16) ∧ Below w33.heap.size w33 w'))
  have HPHk41 := Lib.hid (HR0.out.below Bw33.out)
  go_wp2_with fail
  go_region_held3 (fun w' => w'.cell? ⟨w.heap.size, 0, none⟩ = some (.slice aa0 fs0.length ca0) ∧ w'.cell? ⟨w16.heap.size, 0, none⟩ = some (.slice a16 fs0.length c16) ∧ Below w33.heap.size w33 w')
    (exact Hk41.out _ (by (repeat (with_reducible first | exact Below.refl _ _ | assumption | refine ba ?_ _ | refine bd ?_ | refine bdN ?_ _ | refine bs ?_ (by first | exact Nat.le_refl _ | (dsimp only; omega) | (simp; done)) _ | refine bt ?_ (by assumption)))))
    (first
      | (go_at_call 15; refine (laws_toTree _ fs0 _ _ (HPHk41.out.below (by (repeat (with_reducible first | exact Below.refl _ _ | assumption | refine ba ?_ _ | refine bd ?_ | refine bdN ?_ _ | refine bs ?_ (by first | exact Nat.le_refl _ | (dsimp only; omega) | (simp; done)) _ | refine bt ?_ (by assumption))))) HL0.out).mono ?_; rintro _ w42 ⟨v42, ps42, rfl, hps42, ho42, hb42⟩; obtain ⟨a42, c42, rfl⟩ := ho42.len; have hpl42 : ps42.length = fs0.length := (by rw [← hps42, List.length_map]); rw [hpl42] at ho42 ⊢; have I42 := Lib.hid (show FilsIn w42 (fun _ => True) (.slice a42 fs0.length c42) fs0 by have h := ho42.fils (D := (fun _ => True)) (fun _ _ => trivial); rw [hps42] at h; exact h); have O42 := Lib.hid ho42; have Hps42 := Lib.hid hps42; clear ho42 hps42)
      | (go_at_call 18; refine (laws_eqTree _ _ fs0 fs0 (fun _ => True) (fun _ => True) _ (J38.out.below (by (repeat (with_reducible first | exact Below.refl _ _ | assumption | refine ba ?_ _ | refine bd ?_ | refine bdN ?_ _ | refine bs ?_ (by first | exact Nat.le_refl _ | (dsimp only; omega) | (simp; done)) _ | refine bt ?_ (by assumption))))) (I42.out.below (by (repeat (with_reducible first | exact Below.refl _ _ | assumption | refine ba ?_ _ | refine bd ?_ | refine bdN ?_ _ | refine bs ?_ (by first | exact Nat.le_refl _ | (dsimp only; omega) | (simp; done)) _ | refine bt ?_ (by assumption)))))).mono ?_; rintro _ w43 ⟨rfl, hb43⟩; rw [Hse0.out]))
  have hs43 : Below w33.heap.size w33 w43 := by (repeat (with_reducible first | exact Below.refl _ _ | assumption | refine ba ?_ _ | refine bd ?_ | refine bdN ?_ _ | refine bs ?_ (by first | exact Nat.le_refl _ | (dsimp only; omega) | (simp; done)) _ | refine bt ?_ (by assumption)))
  have Bw43 := Lib.hid (bt Bw33.out hs43)
  have BW43 := Lib.hid (bt BW33.out hs43)
  have X44 := Lib.hid (X34.out.below hs43)
  have X45 := Lib.hid (X35.out.below hs43)
  have X46 := Lib.hid (X36.out.below hs43)
  have X47 := Lib.hid (X37.out.below hs43)
  have J48 := Lib.hid (J38.out.below hs43)
  have Q48 := Lib.hid (Q38.out.below hs43)
  have J49 := Lib.hid (J39.out.below hs43)
  have Q49 := Lib.hid (owns_below Q39.out hs43)
  have J50 := Lib.hid (J40.out.below hs43)
  have Q50 := Lib.hid (Q40.out.below hs43)
  clear Bw33 BW33 X34 X35 X36 X37 J38 Q38 J39 Q39 J40 Q40
  go_wp2_with fail
  refine (laws_toStmtS _ ss3 _ _ (HR3.out.below (bt Bw43.out (by (repeat (with_reducible first | exact Below.refl _ _ | assumption | refine ba ?_ _ | refine bd ?_ | refine bdN ?_ _ | refine bs ?_ (by first | exact Nat.le_refl _ | (dsimp only; omega) | (simp; done)) _ | refine bt ?_ (by assumption)))))) (by omega)).mono ?_
  rintro _ w51 ⟨v51, rfl, ho51, hb51⟩
  have hs51 : Below w43.heap.size w43 w51 := by (repeat (with_reducible first | exact Below.refl _ _ | assumption | refine ba ?_ _ | refine bd ?_ | refine bdN ?_ _ | refine bs ?_ (by first | exact Nat.le_refl _ | (dsimp only; omega) | (simp; done)) _ | refine bt ?_ (by assumption)))
  have Bw51 := Lib.hid (bt Bw43.out hs51)
  have BW51 := Lib.hid (bt BW43.out hs51)
  have X52 := Lib.hid (X44.out.below hs51)
  have X53 := Lib.hid (X45.out.below hs51)
  have X54 := Lib.hid (X46.out.below hs51)
  have X55 := Lib.hid (X47.out.below hs51)
  have J56 := Lib.hid (J48.out.below hs51)
  have Q56 := Lib.hid (Q48.out.below hs51)
  have J57 := Lib.hid (J49.out.below hs51)
  have Q57 := Lib.hid (owns_below Q49.out hs51)
  have J58 := Lib.hid (J50.out.below hs51)
  have Q58 := Lib.hid (Q50.out.below hs51)
  clear Bw43 BW43 X44 X45 X46 X47 J48 Q48 J49 Q49 J50 Q50
  obtain ⟨a51, c51, rfl⟩ := owns_shape ho51
  have I51 := Lib.hid (show StmsIn w51 (fun _ => True) (.slice a51 ss3.length c51) ss3 from StmsIn.of_owns ho51 (fun _ _ => trivial))
  have O51 := Lib.hid ho51
  clear ho51
  go_wp2_with fail
  refine (laws_eqStmtS _ _ ss3 ss3 (fun _ => True) (fun _ => True) _ (J57.out.below (by (repeat (with_reducible first | exact Below.refl _ _ | assumption | refine ba ?_ _ | refine bd ?_ | refine bdN ?_ _ | refine bs ?_ (by first | exact Nat.le_refl _ | (dsimp only; omega) | (simp; done)) _ | refine bt ?_ (by assumption))))) (I51.out.below (by (repeat (with_reducible first | exact Below.refl _ _ | assumption | refine ba ?_ _ | refine bd ?_ | refine bdN ?_ _ | refine bs ?_ (by first | exact Nat.le_refl _ | (dsimp only; omega) | (simp; done)) _ | refine bt ?_ (by assumption)))))).mono ?_
  rintro _ w59 ⟨rfl, hb59⟩
  have hs59 : Below w51.heap.size w51 w59 := by (repeat (with_reducible first | exact Below.refl _ _ | assumption | refine ba ?_ _ | refine bd ?_ | refine bdN ?_ _ | refine bs ?_ (by first | exact Nat.le_refl _ | (dsimp only; omega) | (simp; done)) _ | refine bt ?_ (by assumption)))
  have Bw59 := Lib.hid (bt Bw51.out hs59)
  have BW59 := Lib.hid (bt BW51.out hs59)
  have X60 := Lib.hid (X52.out.below hs59)
  have X61 := Lib.hid (X53.out.below hs59)
  have X62 := Lib.hid (X54.out.below hs59)
  have X63 := Lib.hid (X55.out.below hs59)
  have J64 := Lib.hid (J56.out.below hs59)
  have Q64 := Lib.hid (Q56.out.below hs59)
  have J65 := Lib.hid (J57.out.below hs59)
  have Q65 := Lib.hid (owns_below Q57.out hs59)
  have J66 := Lib.hid (J58.out.below hs59)
  have Q66 := Lib.hid (Q58.out.below hs59)
  clear Bw51 BW51 X52 X53 X54 X55 J56 Q56 J57 Q57 J58 Q58
  rw [Hse3.out]
  have k67_0 : w59.cell? ⟨w16.heap.size, 0, none⟩ = some (.slice a16 fs0.length c16) := (X62.out).2 0
  have kl67 := (X62.out).1
  go_wp2_with fail
  have hkk : 1 ≤ 1 := by omega
  refine (laws_markTree (w11.heap.size + 1) _ ps16 1 _ (Q64.out.below (by (repeat (with_reducible first | exact Below.refl _ _ | assumption | refine ba ?_ _ | refine bd ?_ | refine bdN ?_ _ | refine bs ?_ (by first | exact Nat.le_refl _ | (dsimp only; omega) | (simp; done)) _ | refine bt ?_ (by assumption))))) hkk (by rw [Hps16.out]; have := HE0.out 1; omega) (by omega)).mono ?_
  rintro _ w68 ⟨rfl, _, ht68⟩
  clear k67_0 kl67
  have Ht68 := Lib.hid ht68
  clear ht68
  have BW68 := Lib.hid (BW59.out.trans (Ht68.out.below BW59.out.size (fun b hb => by have := (Hv16.out b hb).1; have := Hpl0.out; have := Hwl0.out; have := HWs.out; have := Hz16.out; have := Hz19.out; have := Hz25.out; omega)))
  have Bw68 := Lib.hid (show Below w.heap.size w w68 from HwW.out.trans (BW68.out.mono HwW.out.size))
  have X69 := Lib.hid (X60.out.turned Ht68.out (fun hb => by have := Hv16.out _ hb; have := Hpl0.out; have := Hwl0.out; have := HWs.out; have := Hz16.out; have := Hz19.out; have := Hz25.out; omega))
  have X70 := Lib.hid (X61.out.turned Ht68.out (fun hb => by have := Hv16.out _ hb; have := Hpl0.out; have := Hwl0.out; have := HWs.out; have := Hz16.out; have := Hz19.out; have := Hz25.out; omega))
  have X71 := Lib.hid (X62.out.turned Ht68.out (fun hb => by have := Hv16.out _ hb; have := Hpl0.out; have := Hwl0.out; have := HWs.out; have := Hz16.out; have := Hz19.out; have := Hz25.out; omega))
  have X72 := Lib.hid (X63.out.turned Ht68.out (fun hb => by have := Hv16.out _ hb; have := Hpl0.out; have := Hwl0.out; have := HWs.out; have := Hz16.out; have := Hz19.out; have := Hz25.out; omega))
  have Q73 := Lib.hid (owns_turned Q65.out Ht68.out (fun b hb hS => by have := Hv16.out b hS; have := Hv19.out b hb; have := Hpl0.out; have := Hwl0.out; have := HWs.out; have := Hz16.out; have := Hz19.out; have := Hz25.out; omega))
  have Q74 := Lib.hid (fils_turned Q66.out Ht68.out (fun b hb hS => by have := Hv16.out b hS; have := Hv31.out b hb; have := Hpl0.out; have := Hwl0.out; have := HWs.out; have := Hz16.out; have := Hz19.out; have := Hz25.out; omega))
  clear Bw59 BW59 X60 X61 X62 X63 J64 Q64 J65 Q65 J66 Q66
  clear hkk
  obtain ⟨K75, hK75⟩ : ∃ K, K = endF 1 (ps16.map (·.1)) := ⟨_, rfl⟩
  have hK75b : 1 ≤ K75 ∧ K75 ≤ 1 + 5 * C0 := by rw [hK75]; exact ⟨endF_mono _ _, by rw [Hps16.out]; exact HE0.out 1⟩
  rw [← hK75]
  have HK75 := Lib.hid hK75
  clear hK75
  go_wp2_with fail
  have hkk : 1 ≤ K75 := by omega
  refine (laws_markStmtS (w16.heap.size + 1) _ ss3 K75 _ (owns_below Q73.out (by (repeat (with_reducible first | exact Below.refl _ _ | assumption | refine ba ?_ _ | refine bd ?_ | refine bdN ?_ _ | refine bs ?_ (by first | exact Nat.le_refl _ | (dsimp only; omega) | (simp; done)) _ | refine bt ?_ (by assumption))))) hkk (by omega)).mono ?_
  rintro _ w76 ⟨rfl, _, ht76⟩
  have Ht76 := Lib.hid ht76
  clear ht76
  have BW76 := Lib.hid (BW68.out.trans (Ht76.out.below BW68.out.size (fun b hb => by have := (Hv19.out b hb).1; have := Hpl0.out; have := Hwl0.out; have := HWs.out; have := Hz16.out; have := Hz19.out; have := Hz25.out; omega)))
  have Bw76 := Lib.hid (show Below w.heap.size w w76 from HwW.out.trans (BW76.out.mono HwW.out.size))
  have X77 := Lib.hid (X69.out.turned Ht76.out (fun hb => by have := Hv19.out _ hb; have := Hpl0.out; have := Hwl0.out; have := HWs.out; have := Hz16.out; have := Hz19.out; have := Hz25.out; omega))
  have X78 := Lib.hid (X70.out.turned Ht76.out (fun hb => by have := Hv19.out _ hb; have := Hpl0.out; have := Hwl0.out; have := HWs.out; have := Hz16.out; have := Hz19.out; have := Hz25.out; omega))
  have X79 := Lib.hid (X72.out.turned Ht76.out (fun hb => by have := Hv19.out _ hb; have := Hpl0.out; have := Hwl0.out; have := HWs.out; have := Hz16.out; have := Hz19.out; have := Hz25.out; omega))
  have Q80 := Lib.hid (fils_turned Q74.out Ht76.out (fun b hb hS => by have := Hv19.out b hS; have := Hv31.out b hb; have := Hpl0.out; have := Hwl0.out; have := HWs.out; have := Hz16.out; have := Hz19.out; have := Hz25.out; omega))
  clear Bw68 BW68 X69 X70 X72 Q73 Q74
  clear hkk
  obtain ⟨K81, hK81⟩ : ∃ K, K = K75 + 5 * ss3.length := ⟨_, rfl⟩
  have hK81b : K75 ≤ K81 ∧ K81 ≤ K75 + 5 * C3 := by rw [hK81]; exact ⟨by omega, by omega⟩
  rw [← hK81]
  have HK81 := Lib.hid hK81
  clear hK81
  have hk0 : ¬ ((K81 : Nat) : Int) < 0 := Int.not_lt.2 (Int.natCast_nonneg _)
  have I_82 := Lib.hid (show FilsIn w76 (fun _ => True) (.slice a25_0 g0.length c25_0) g0 by have h := Q80.out.fils (D := (fun _ => True)) (fun _ _ => trivial); rw [Hps25_0.out] at h; exact h)
  have k83_0 : w76.cell? ⟨w11.heap.size, 0, none⟩ = some (.slice a11_0 g0.length c11_0) := (X78.out).2 0
  have kl83 := (X78.out).1
  have k84_0 : w76.cell? ⟨w25.heap.size, 0, none⟩ = some (.slice a25_0 g0.length c25_0) := (X79.out).2 0
  have kl84 := (X79.out).1
  go_wp2_with fail
  refine (laws_eqTree _ _ g0 g0 (fun _ => True) (fun _ => True) _ (I_82.out.below (by (repeat (with_reducible first | exact Below.refl _ _ | assumption | refine ba ?_ _ | refine bd ?_ | refine bdN ?_ _ | refine bs ?_ (by first | exact Nat.le_refl _ | (dsimp only; omega) | (simp; done)) _ | refine bt ?_ (by assumption))))) (IW0.out.below (bt BW76.out (by (repeat (with_reducible first | exact Below.refl _ _ | assumption | refine ba ?_ _ | refine bd ?_ | refine bdN ?_ _ | refine bs ?_ (by first | exact Nat.le_refl _ | (dsimp only; omega) | (simp; done)) _ | refine bt ?_ (by assumption))))))).mono ?_
  rintro _ w85 ⟨rfl, hb85⟩
  clear hk0 k83_0 kl83 k84_0 kl84
  have hs85 : Below w76.heap.size w76 w85 := by (repeat (with_reducible first | exact Below.refl _ _ | assumption | refine ba ?_ _ | refine bd ?_ | refine bdN ?_ _ | refine bs ?_ (by first | exact Nat.le_refl _ | (dsimp only; omega) | (simp; done)) _ | refine bt ?_ (by assumption)))
  have Bw85 := Lib.hid (bt Bw76.out hs85)
  have BW85 := Lib.hid (bt BW76.out hs85)
  have X86 := Lib.hid (X77.out.below hs85)
  have X87 := Lib.hid (X78.out.below hs85)
  have X88 := Lib.hid (X79.out.below hs85)
  have J89 := Lib.hid (I_82.out.below hs85)
  have Q89 := Lib.hid (Q80.out.below hs85)
  clear Bw76 BW76 X77 X78 X79 I_82 Q80
  rw [Hsg0.out]
  have k90_0 : w85.cell? ⟨w25.heap.size, 0, none⟩ = some (.slice a25_0 g0.length c25_0) := (X88.out).2 0
  have kl90 := (X88.out).1
  go_wp2_with fail
  have hkk : 1 ≤ 1 := by omega
  refine (laws_markTree (w19.heap.size) _ ps25_0 1 _ (Q89.out.below (by (repeat (with_reducible first | exact Below.refl _ _ | assumption | refine ba ?_ _ | refine bd ?_ | refine bdN ?_ _ | refine bs ?_ (by first | exact Nat.le_refl _ | (dsimp only; omega) | (simp; done)) _ | refine bt ?_ (by assumption))))) hkk (by rw [Hps25_0.out]; have := Hgb0.out 1; omega) (by omega)).mono ?_
  rintro _ w91 ⟨rfl, hm91, ht91⟩
  clear k90_0 kl90
  have M91 := Lib.hid (show FilsIn w91 (fun _ => True) _ (marksF 1 g0) by have h := hm91.fils (D := (fun _ => True)) (fun _ _ => trivial); rw [markP_fst, Hps25_0.out] at h; exact h)
  clear hm91
  have Ht91 := Lib.hid ht91
  clear ht91
  have BW91 := Lib.hid (BW85.out.trans (Ht91.out.below BW85.out.size (fun b hb => by have := (Hv31.out b hb).1; have := Hpl0.out; have := Hwl0.out; have := HWs.out; have := Hz16.out; have := Hz19.out; have := Hz25.out; omega)))
  have Bw91 := Lib.hid (show Below w.heap.size w w91 from HwW.out.trans (BW91.out.mono HwW.out.size))
  have X92 := Lib.hid (X86.out.turned Ht91.out (fun hb => by have := Hv31.out _ hb; have := Hpl0.out; have := Hwl0.out; have := HWs.out; have := Hz16.out; have := Hz19.out; have := Hz25.out; omega))
  have X93 := Lib.hid (X87.out.turned Ht91.out (fun hb => by have := Hv31.out _ hb; have := Hpl0.out; have := Hwl0.out; have := HWs.out; have := Hz16.out; have := Hz19.out; have := Hz25.out; omega))
  have X94 := Lib.hid (X88.out.turned Ht91.out (fun hb => by have := Hv31.out _ hb; have := Hpl0.out; have := Hwl0.out; have := HWs.out; have := Hz16.out; have := Hz19.out; have := Hz25.out; omega))
  clear Bw85 BW85 X86 X87 X88 J89 Q89
  clear hkk
  rw [Hps25_0.out]
  obtain ⟨K95, hK95⟩ : ∃ K, K = endF 1 g0 := ⟨_, rfl⟩
  have hK95b : 1 ≤ K95 ∧ K95 ≤ 1 + 1000 := by rw [hK95]; exact ⟨endF_mono _ _, by have := Hgb0.out 1; omega⟩
  rw [← hK95]
  have HK95 := Lib.hid hK95
  clear hK95
  have k96_0 : w91.cell? ⟨w25.heap.size, 0, none⟩ = some (.slice a25_0 g0.length c25_0) := (X94.out).2 0
  have kl96 := (X94.out).1
  go_wp2_with fail
  refine (laws_heldTree _ (fun _ => True) g0 1 _ (M91.out.below (by (repeat (with_reducible first | exact Below.refl _ _ | assumption | refine ba ?_ _ | refine bd ?_ | refine bdN ?_ _ | refine bs ?_ (by first | exact Nat.le_refl _ | (dsimp only; omega) | (simp; done)) _ | refine bt ?_ (by assumption))))) (by omega) (by have := Hgb0.out 1; omega) (by omega)).mono ?_
  rintro _ w97 ⟨rfl, hb97⟩
  clear k96_0 kl96
  have hs97 : Below w91.heap.size w91 w97 := by (repeat (with_reducible first | exact Below.refl _ _ | assumption | refine ba ?_ _ | refine bd ?_ | refine bdN ?_ _ | refine bs ?_ (by first | exact Nat.le_refl _ | (dsimp only; omega) | (simp; done)) _ | refine bt ?_ (by assumption)))
  have Bw97 := Lib.hid (bt Bw91.out hs97)
  have BW97 := Lib.hid (bt BW91.out hs97)
  have X98 := Lib.hid (X92.out.below hs97)
  have X99 := Lib.hid (X93.out.below hs97)
  have X100 := Lib.hid (X94.out.below hs97)
  have N101 := Lib.hid (M91.out.below hs97)
  clear Bw91 BW91 X92 X93 X94 M91
  rw [← HK95.out]
  have hk0 : ¬ ((K95 : Nat) : Int) < 0 := Int.not_lt.2 (Int.natCast_nonneg _)
  have k102_0 : w97.cell? ⟨w.heap.size, 0, none⟩ = some (.slice aa0 fs0.length ca0) := (X98.out).2 0
  have kl102 := (X98.out).1
  go_wp2_with fail
  refine (laws_toTree _ fs0 _ _ (HR0.out.below (bt Bw97.out (by (repeat (with_reducible first | exact Below.refl _ _ | assumption | refine ba ?_ _ | refine bd ?_ | refine bdN ?_ _ | refine bs ?_ (by first | exact Nat.le_refl _ | (dsimp only; omega) | (simp; done)) _ | refine bt ?_ (by assumption)))))) HL0.out).mono ?_
  rintro _ w103 ⟨v103, ps103, rfl, hps103, ho103, hb103⟩
  clear hk0 k102_0 kl102
  have hs103 : Below w97.heap.size w97 w103 := by (repeat (with_reducible first | exact Below.refl _ _ | assumption | refine ba ?_ _ | refine bd ?_ | refine bdN ?_ _ | refine bs ?_ (by first | exact Nat.le_refl _ | (dsimp only; omega) | (simp; done)) _ | refine bt ?_ (by assumption)))
  have Bw103 := Lib.hid (bt Bw97.out hs103)
  have BW103 := Lib.hid (bt BW97.out hs103)
  have X104 := Lib.hid (X98.out.below hs103)
  have X105 := Lib.hid (X99.out.below hs103)
  have X106 := Lib.hid (X100.out.below hs103)
  have N107 := Lib.hid (N101.out.below hs103)
  clear Bw97 BW97 X98 X99 X100 N101
  obtain ⟨a103, c103, rfl⟩ := ho103.len
  have hpl103 : ps103.length = fs0.length := (by rw [← hps103, List.length_map])
  rw [hpl103] at ho103 ⊢
  have I103 := Lib.hid (show FilsIn w103 (fun _ => True) (.slice a103 fs0.length c103) fs0 by have h := ho103.fils (D := (fun _ => True)) (fun _ _ => trivial); rw [hps103] at h; exact h)
  have O103 := Lib.hid ho103
  have Hps103 := Lib.hid hps103
  clear ho103 hps103
  go_wp2_with fail
  refine (laws_toStmtS _ ss3 _ _ (HR3.out.below (bt Bw103.out (by (repeat (with_reducible first | exact Below.refl _ _ | assumption | refine ba ?_ _ | refine bd ?_ | refine bdN ?_ _ | refine bs ?_ (by first | exact Nat.le_refl _ | (dsimp only; omega) | (simp; done)) _ | refine bt ?_ (by assumption)))))) (by omega)).mono ?_
  rintro _ w108 ⟨v108, rfl, ho108, hb108⟩
  have hs108 : Below w103.heap.size w103 w108 := by (repeat (with_reducible first | exact Below.refl _ _ | assumption | refine ba ?_ _ | refine bd ?_ | refine bdN ?_ _ | refine bs ?_ (by first | exact Nat.le_refl _ | (dsimp only; omega) | (simp; done)) _ | refine bt ?_ (by assumption)))
  have Bw108 := Lib.hid (bt Bw103.out hs108)
  have BW108 := Lib.hid (bt BW103.out hs108)
  have X109 := Lib.hid (X104.out.below hs108)
  have X110 := Lib.hid (X105.out.below hs108)
  have X111 := Lib.hid (X106.out.below hs108)
  have J112 := Lib.hid (I103.out.below hs108)
  have Q112 := Lib.hid (O103.out.below hs108)
  have N113 := Lib.hid (N107.out.below hs108)
  clear Bw103 BW103 X104 X105 X106 I103 O103 N107
  obtain ⟨a108, c108, rfl⟩ := owns_shape ho108
  have I108 := Lib.hid (show StmsIn w108 (fun _ => True) (.slice a108 ss3.length c108) ss3 from StmsIn.of_owns ho108 (fun _ _ => trivial))
  have O108 := Lib.hid ho108
  clear ho108
  go_wp2_with fail
  refine (impl_EditFileX _ fs0 _ _ _ n1 n2 _ ss3 _ (Q112.out.below (by (repeat (with_reducible first | exact Below.refl _ _ | assumption | refine ba ?_ _ | refine bd ?_ | refine bdN ?_ _ | refine bs ?_ (by first | exact Nat.le_refl _ | (dsimp only; omega) | (simp; done)) _ | refine bt ?_ (by assumption))))) Hps103.out HS0.out HL0.out (owns_below O108.out (by (repeat (with_reducible first | exact Below.refl _ _ | assumption | refine ba ?_ _ | refine bd ?_ | refine bdN ?_ _ | refine bs ?_ (by first | exact Nat.le_refl _ | (dsimp only; omega) | (simp; done)) _ | refine bt ?_ (by assumption))))) HS3.out).mono ?_
  rintro _ w114 ⟨v114_0, ps114_0, rfl, hps114_0, ho114_0, hb114⟩
  have hs114 : Below w108.heap.size w108 w114 := by (repeat (with_reducible first | exact Below.refl _ _ | assumption | refine ba ?_ _ | refine bd ?_ | refine bdN ?_ _ | refine bs ?_ (by first | exact Nat.le_refl _ | (dsimp only; omega) | (simp; done)) _ | refine bt ?_ (by assumption)))
  have Bw114 := Lib.hid (bt Bw108.out hs114)
  have BW114 := Lib.hid (bt BW108.out hs114)
  have X115 := Lib.hid (X109.out.below hs114)
  have X116 := Lib.hid (X110.out.below hs114)
  have X117 := Lib.hid (X111.out.below hs114)
  have J118 := Lib.hid (J112.out.below hs114)
  have Q118 := Lib.hid (Q112.out.below hs114)
  have J119 := Lib.hid (I108.out.below hs114)
  have Q119 := Lib.hid (owns_below O108.out hs114)
  have N120 := Lib.hid (N113.out.below hs114)
  clear Bw108 BW108 X109 X110 X111 J112 Q112 I108 O108 N113
  have Hz114 := Lib.hid (show w108.heap.size ≤ w114.heap.size by have h := hb114.size; first | omega | (simp at h; omega))
  try rw [← HG0.out]
  try rw [← HG0.out] at hps114_0
  try rw [← HG0.out] at ho114_0
  obtain ⟨a114_0, c114_0, rfl⟩ := ho114_0.len
  have hpl114_0 : ps114_0.length = g0.length := (by rw [← hps114_0, List.length_map])
  rw [hpl114_0] at ho114_0 ⊢
  have I114_0 := Lib.hid (show FilsIn w114 (fun _ => True) (.slice a114_0 g0.length c114_0) g0 by have h := ho114_0.fils (D := (fun _ => True)) (fun _ _ => trivial); rw [hps114_0] at h; exact h)
  have O114_0 := Lib.hid ho114_0
  have Hps114_0 := Lib.hid hps114_0
  clear ho114_0 hps114_0
  try rw [← HG1.out]
  have k121_0 : w114.cell? ⟨w11.heap.size, 0, none⟩ = some (.slice a11_0 g0.length c11_0) := (X116.out).2 0
  have kl121 := (X116.out).1
  go_wp2_with fail
  refine (laws_eqTree _ _ g0 g0 (fun _ => True) (fun _ => True) _ (I114_0.out.below (by (repeat (with_reducible first | exact Below.refl _ _ | assumption | refine ba ?_ _ | refine bd ?_ | refine bdN ?_ _ | refine bs ?_ (by first | exact Nat.le_refl _ | (dsimp only; omega) | (simp; done)) _ | refine bt ?_ (by assumption))))) (IW0.out.below (bt BW114.out (by (repeat (with_reducible first | exact Below.refl _ _ | assumption | refine ba ?_ _ | refine bd ?_ | refine bdN ?_ _ | refine bs ?_ (by first | exact Nat.le_refl _ | (dsimp only; omega) | (simp; done)) _ | refine bt ?_ (by assumption))))))).mono ?_
  rintro _ w122 ⟨rfl, hb122⟩
  clear k121_0 kl121
  have hs122 : Below w114.heap.size w114 w122 := by (repeat (with_reducible first | exact Below.refl _ _ | assumption | refine ba ?_ _ | refine bd ?_ | refine bdN ?_ _ | refine bs ?_ (by first | exact Nat.le_refl _ | (dsimp only; omega) | (simp; done)) _ | refine bt ?_ (by assumption)))
  have Bw122 := Lib.hid (bt Bw114.out hs122)
  have BW122 := Lib.hid (bt BW114.out hs122)
  have X123 := Lib.hid (X115.out.below hs122)
  have X124 := Lib.hid (X116.out.below hs122)
  have X125 := Lib.hid (show BoxC w122 (w114.heap.size) #[.slice a114_0 g0.length c114_0] from ((BoxC.start w114 #[.slice a114_0 g0.length c114_0] 32).below (by (repeat (with_reducible first | exact Below.refl _ _ | assumption | refine ba ?_ _ | refine bd ?_ | refine bdN ?_ _ | refine bs ?_ (by first | exact Nat.le_refl _ | (dsimp only; omega) | (simp; done)) _ | refine bt ?_ (by assumption))))).at (by simp))
  have X126 := Lib.hid (X117.out.below hs122)
  have J127 := Lib.hid (I114_0.out.below hs122)
  have N128 := Lib.hid (N120.out.below hs122)
  clear Bw114 BW114 X115 X116 X117 I114_0 N120
  rw [Hsg0.out]
  have k129_0 : w122.cell? ⟨w25.heap.size, 0, none⟩ = some (.slice a25_0 g0.length c25_0) := (X126.out).2 0
  have kl129 := (X126.out).1
  go_wp2_with fail
  refine (laws_heldTree _ (fun _ => True) g0 1 _ (N128.out.below (by (repeat (with_reducible first | exact Below.refl _ _ | assumption | refine ba ?_ _ | refine bd ?_ | refine bdN ?_ _ | refine bs ?_ (by first | exact Nat.le_refl _ | (dsimp only; omega) | (simp; done)) _ | refine bt ?_ (by assumption))))) (by omega) (by have := Hgb0.out 1; omega) (by omega)).mono ?_
  rintro _ w130 ⟨rfl, hb130⟩
  clear k129_0 kl129
  have hs130 : Below w122.heap.size w122 w130 := by (repeat (with_reducible first | exact Below.refl _ _ | assumption | refine ba ?_ _ | refine bd ?_ | refine bdN ?_ _ | refine bs ?_ (by first | exact Nat.le_refl _ | (dsimp only; omega) | (simp; done)) _ | refine bt ?_ (by assumption)))
  have Bw130 := Lib.hid (bt Bw122.out hs130)
  have BW130 := Lib.hid (bt BW122.out hs130)
  have X131 := Lib.hid (X123.out.below hs130)
  have X132 := Lib.hid (X124.out.below hs130)
  have X133 := Lib.hid (X125.out.below hs130)
  have X134 := Lib.hid (X126.out.below hs130)
  have J135 := Lib.hid (J127.out.below hs130)
  have N136 := Lib.hid (N128.out.below hs130)
  clear Bw122 BW122 X123 X124 X125 X126 J127 N128
  rw [← HK95.out]
  have hk0 : ¬ ((K95 : Nat) : Int) < 0 := Int.not_lt.2 (Int.natCast_nonneg _)
  go_wp2_with fail
  go_ret
  exact ⟨rfl, Bw130.out⟩

/-! ### THE STEP TO THE ROW -/
set_option maxRecDepth 100000 in
theorem lifted (os : Os) (started : os.Started) (H : Type) (enc : TypeId × Value → H) :
    ReturnsInHanded {} Try.checked os 5 .any (Rows.fnExactEditFileSpec.pre6 enc Try.prog Try.f5 Rows.fnExactEditFileRow.domain false) (Rows.fnExactEditFileSpec.post enc Try.prog Try.f5 false true false false) := by
  refine returnsInHanded_of_change (C := Try.checked) own started (by kernel_rfl) Try.func5
    (ChangeSpec.witness6 (enc := enc) (C := Try.checked) false ⟨#[], #[.agg #[.slice none 0 0], .int .i64 0, .int .i64 0, .slice none 0 0], []⟩ 8 (by kernel_rfl) (by kernel_rfl) (by kernel_rfl) (by kernel_rfl)) ?_
  intro W base args ds gs before hval0 hW hcnd _
  have hval : ∀ (j : Nat) t v, Try.f5.params[j]? = some t → args[j]? = some v → Value.okWide Try.prog W .any base t v := hval0
  have hW' := hW
  obtain ⟨p, q, hA0, hV, rfl, hfz, hnd⟩ := hW
  have hA : DataW.TrodAll enc Try.prog W 0 (fun _ => true) true Try.f5.params.toList args.toList ds p := hA0
  rw [Try.params5] at hA hval
  obtain ⟨v0, vs0, d0, ds0, p0, q0, hargs, rfl, rfl, h0, r0⟩ := trodAll_cons hA
  obtain ⟨v1, vs1, d1, ds1, p1, q1, rfl, rfl, rfl, h1, r1⟩ := trodAll_cons r0
  obtain ⟨v2, vs2, d2, ds2, p2, q2, rfl, rfl, rfl, h2, r2⟩ := trodAll_cons r1
  obtain ⟨v3, vs3, d3, ds3, p3, q3, rfl, rfl, rfl, h3, r3⟩ := trodAll_cons r2
  obtain ⟨rfl, rfl, rfl⟩ := trodAll_nil r3
  obtain rfl : args = #[v0, v1, v2, v3] := by cases args; simp_all
  obtain ⟨rfl, rfl⟩ := trodVars_none hV
  obtain ⟨cs0, rfl, _⟩ := okWide_struct Try.underlying24 (hval 0 24 v0 rfl rfl)
  have k0 := h0
  have lt0 : ∀ x ∈ p0, x.block < W.heap.size := by obtain ⟨m, hm⟩ := k0; exact DataW.trod_lt m _ _ _ hm
  obtain ⟨xs0, tv0, et0, w0⟩ : ∃ fs tv, cs0 = #[tv] ∧ FilsIn W (fun _ => True) tv fs ∧ ShortT maxLen fs := by
    obtain ⟨fuel, hf⟩ := h0
    obtain ⟨a', len', cap', fs, e0, e1, e2⟩ := read_tree hf
    exact ⟨fs, _, by rw [← Array.toList_inj]; simpa [Value.cells] using e0, e1, e2⟩
  subst et0
  obtain ⟨n1, rfl, rfl, rfl, w1⟩ := open_int Try.underlying3 (hval 1 3 v1 rfl rfl) h1
  obtain ⟨n2, rfl, rfl, rfl, w2⟩ := open_int Try.underlying3 (hval 2 3 v2 rfl rfl) h2
  obtain ⟨a3, len3, cap3, rfl⟩ := okWide_slice Try.underlying25 (hval 3 25 v3 rfl rfl)
  have k3 := h3
  have lt3 : ∀ x ∈ p3, x.block < W.heap.size := by obtain ⟨m, hm⟩ := k3; exact DataW.trod_lt m _ _ _ hm
  obtain ⟨xs3, w3⟩ : ∃ ss, StmsIn W (fun _ => True) (.slice a3 len3 cap3) ss ∧ Short maxLen ss := by
    obtain ⟨fuel, hf⟩ := h3
    obtain ⟨a', len', cap', ss, e0, _, e1, e2⟩ := read_stms hf
    simp [Value.cells] at e0
    obtain ⟨rfl, rfl, rfl⟩ := e0
    exact ⟨ss, e1, e2⟩
  clear hA0 hval0
  refine (walk tv0 xs0 n1 n2 _ xs3 W w0 w1 w2 w3).mono fun e W' ⟨he, bel⟩ => ?_
  subst he
  exact ⟨_, rfl, _, _, _, [], _, [], hW', trodAll_mk1 (shut_bool Try.underlying4 _), (trodAll_cons_mk (Below.trod laidOut (by kernel_rfl) (of_decide_eq_true (by kernel_rfl)) k0 bel lt0) (trodAll_cons_mk (shut_int Try.underlying3 w1) (trodAll_cons_mk (shut_int Try.underlying3 w2) (trodAll_cons_mk (Below.trod laidOut (by kernel_rfl) (of_decide_eq_true (by kernel_rfl)) k3 bel lt3) trodAll_mk0)))), rfl, bel.frame _, fun h => by cases h⟩

theorem over : Rows.fnExactEditFileRow.holds Try.pinned (OpenSpec.ofChange Rows.fnExactEditFileSpec) :=
  OpenClaim.holds_of_wide 5 Try.f5 rfl rfl rfl rfl rfl rfl rfl ⟨rfl, rfl, rfl, rfl, rfl⟩ rfl rfl rfl rfl rfl (by kernel_rfl) Try.func5 (by kernel_rfl)
    (of_decide_eq_true (by kernel_rfl)) (by unfold Func.isWrapper; first | (rw [if_pos (by decide +kernel)]; kernel_rfl) | (rw [if_neg (by decide +kernel)]; exact ⟨rfl, rfl⟩))
    (fun os started H enc _ => lifted os started H enc)

/-- THE STATEMENT -/
theorem proved : Rows.FnExactEditFileSaid := over
end Go.Proofs.Ytkmclfhnhcphoaa.FnExactEditFile
