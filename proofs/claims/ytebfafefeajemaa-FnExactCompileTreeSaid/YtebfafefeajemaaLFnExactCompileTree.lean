/- FnExactCompileTree returns true for every argument. -/
import Derived.Test.YtebfafefeajemaaCTree
import Derived.Test.YtebfafefeajemaaMarkC
import Derived.Test.YtebfafefeajemaaStoreMem
import Derived.Test.YtebfafefeajemaaExTools
import Derived.Test.YtebfafefeajemaaSzTree
import Derived.Test.YtebfafefeajemaaReadIn
import Derived.Test.YtebfafefeajemaaHeld
import Derived.Test.YtebfafefeajemaaMarks2
import Derived.Test.YtebfafefeajemaaInts
import Derived.Test.YtebfafefeajemaaStrs
import Derived.Test.YtebfafefeajemaaFrame
set_option linter.unusedVariables false
set_option linter.unusedSimpArgs false
namespace Go.Proofs.Ytebfafefeajemaa.FnExactCompileTree
open Go.ChangeShapes Go.WideShapes Go.ChangeAt Go.RowKit Go.Proofs.Ytebfafefeajemaa.Nm

set_option maxRecDepth 100000 in
set_option maxHeartbeats 16000000 in
theorem walk (v0 : Value) (fs0 : List Fil) (n1 : Int) (w : World) (h0 : FilsIn w (fun _ => True) v0 fs0 ∧ ShortT maxLen fs0) (h1 : (Lit.int .i64 n1).wf = true) :
    Calls Try.prog 6 #[.agg #[v0], .int .i64 n1] w fun e w' => e = .returned (.bool true) ∧ Below w.heap.size w w' := by
  obtain ⟨hr0, hz0⟩ := h0
  have HR0 := Lib.hid hr0
  have HZ0 := Lib.hid hz0
  obtain ⟨aa0, ca0, rfl, hlc0, hmc0⟩ := hr0.len
  clear hr0 hz0 hmc0
  obtain ⟨C0, hC0⟩ : ∃ C, C = filsCost fs0 := ⟨_, rfl⟩
  have HC0 := Lib.hid hC0
  clear hC0
  obtain ⟨g0, hg0⟩ : ∃ g, g = compileTree fs0 n1 := ⟨_, rfl⟩
  have hgf := compileTree_fine fs0 n1
  rw [← hg0] at hgf
  have Hgb0 := Lib.hid (endC_fine hgf.1 hgf.2)
  have hgl := hgf.2
  clear hgf
  have HG0 := Lib.hid hg0
  clear hg0
  have Hsg0 := Lib.hid (show sameCmps g0 g0 = true from decide_eq_true rfl)
  go_enter Try.func6, Try.ntmps6
  go_wp2_with fail
  refine (laws_szTree _ fs0 _ 1048576 _ (HR0.out.below (by (repeat (with_reducible first | exact Below.refl _ _ | assumption | refine ba ?_ _ | refine bd ?_ | refine bdN ?_ _ | refine bs ?_ (by first | exact Nat.le_refl _ | (dsimp only; omega) | (simp; done)) _ | refine bt ?_ (by assumption))))) HZ0.out (by omega)).mono ?_
  rintro _ w1 ⟨r1, rfl, hr1, hb1⟩
  have hs1 : Below w.heap.size w w1 := by (repeat (with_reducible first | exact Below.refl _ _ | assumption | refine ba ?_ _ | refine bd ?_ | refine bdN ?_ _ | refine bs ?_ (by first | exact Nat.le_refl _ | (dsimp only; omega) | (simp; done)) _ | refine bt ?_ (by assumption)))
  have Bw1 := Lib.hid (hs1)
  have X2 := Lib.hid (show BoxC w1 (w.heap.size) #[.slice aa0 fs0.length ca0] from ((BoxC.start w #[.slice aa0 fs0.length ca0] 57).below hb1).at (by simp))
  rw [← HC0.out] at hr1
  have k3_0 : w1.cell? ⟨w.heap.size, 0, none⟩ = some (.slice aa0 fs0.length ca0) := (X2.out).2 0
  have kl3 := (X2.out).1
  by_cases hn1 : r1 < 0
  · go_wp2_with fail
    go_ret
    exact ⟨rfl, Bw1.out⟩
  obtain ⟨R1, rfl⟩ := Int.eq_ofNat_of_zero_le (show 0 ≤ r1 by omega)
  have hR1 : R1 + C0 ≤ 1048576 := by omega
  clear hr1
  have HL0 := Lib.hid (costs_of (by rw [← HC0.out]; omega : filsCost fs0 ≤ 1048576))
  have HS0 := Lib.hid (shortT_mono (B := 2000000) (by omega) (shortT_of (by rw [← HC0.out]; omega : filsCost fs0 ≤ 1048576)))
  have HE0 := Lib.hid (fun k => (show endF k fs0 ≤ k + 5 * C0 by rw [endF_le k fs0]; have := sum_le (fs := fs0); have hcc := HC0.out; unfold filsCost at hcc; omega))
  have hln0 : fs0.length ≤ 1048576 := HL0.out.1
  have Hse0 := Lib.hid (show sameFils fs0 fs0 = true from decide_eq_true rfl)
  have HS1048 := Lib.hid (shortT_of (by rw [← HC0.out]; omega : filsCost fs0 ≤ 1048576))
  go_wp2_with fail
  refine (laws_toTree _ fs0 _ _ (HR0.out.below (bt Bw1.out (by (repeat (with_reducible first | exact Below.refl _ _ | assumption | refine ba ?_ _ | refine bd ?_ | refine bdN ?_ _ | refine bs ?_ (by first | exact Nat.le_refl _ | (dsimp only; omega) | (simp; done)) _ | refine bt ?_ (by assumption)))))) HL0.out).mono ?_
  rintro _ w4 ⟨v4, ps4, rfl, hps4, ho4, hb4⟩
  clear k3_0 kl3
  have hs4 : Below w1.heap.size w1 w4 := by (repeat (with_reducible first | exact Below.refl _ _ | assumption | refine ba ?_ _ | refine bd ?_ | refine bdN ?_ _ | refine bs ?_ (by first | exact Nat.le_refl _ | (dsimp only; omega) | (simp; done)) _ | refine bt ?_ (by assumption)))
  have Bw4 := Lib.hid (bt Bw1.out hs4)
  have X5 := Lib.hid (X2.out.below hs4)
  clear Bw1 X2
  obtain ⟨a4, c4, rfl⟩ := ho4.len
  have hpl4 : ps4.length = fs0.length := (by rw [← hps4, List.length_map])
  rw [hpl4] at ho4 ⊢
  have I4 := Lib.hid (show FilsIn w4 (fun _ => True) (.slice a4 fs0.length c4) fs0 by have h := ho4.fils (D := (fun _ => True)) (fun _ _ => trivial); rw [hps4] at h; exact h)
  have O4 := Lib.hid ho4
  have Hps4 := Lib.hid hps4
  clear ho4 hps4
  go_wp2_with fail
  refine (spec_CompileTree _ fs0 _ n1 _ _ (O4.out.below (by (repeat (with_reducible first | exact Below.refl _ _ | assumption | refine ba ?_ _ | refine bd ?_ | refine bdN ?_ _ | refine bs ?_ (by first | exact Nat.le_refl _ | (dsimp only; omega) | (simp; done)) _ | refine bt ?_ (by assumption))))) Hps4.out HS1048.out HL0.out).mono ?_
  rintro _ w6 ⟨v6_0, ps6_0, rfl, hps6_0, ho6_0, hb6⟩
  have hs6 : Below w4.heap.size w4 w6 := by (repeat (with_reducible first | exact Below.refl _ _ | assumption | refine ba ?_ _ | refine bd ?_ | refine bdN ?_ _ | refine bs ?_ (by first | exact Nat.le_refl _ | (dsimp only; omega) | (simp; done)) _ | refine bt ?_ (by assumption)))
  have Bw6 := Lib.hid (bt Bw4.out hs6)
  have X7 := Lib.hid (X5.out.below hs6)
  have J8 := Lib.hid (I4.out.below hs6)
  have Q8 := Lib.hid (O4.out.below hs6)
  clear Bw4 X5 I4 O4
  have Hz6 := Lib.hid (show w4.heap.size ≤ w6.heap.size by have h := hb6.size; first | omega | (simp at h; omega))
  try rw [← HG0.out]
  try rw [← HG0.out] at hps6_0
  try rw [← HG0.out] at ho6_0
  obtain ⟨a6_0, c6_0, rfl⟩ := ho6_0.len
  have hpl6_0 : ps6_0.length = g0.length := (by rw [← hps6_0, List.length_map])
  rw [hpl6_0] at ho6_0 ⊢
  have I6_0 := Lib.hid (show CmpsIn w6 (fun _ => True) (.slice a6_0 g0.length c6_0) g0 by have h := ho6_0.fils (D := (fun _ => True)) (fun _ _ => trivial); rw [hps6_0] at h; exact h)
  have O6_0 := Lib.hid ho6_0
  have Hps6_0 := Lib.hid hps6_0
  clear ho6_0 hps6_0
  obtain ⟨WW, hWW⟩ : ∃ WW, WW = w6 := ⟨_, rfl⟩
  have hWs : WW.heap.size = w6.heap.size + 0 := by rw [hWW]; simp
  have hcW : Below w6.heap.size w6 WW := by rw [hWW]; (repeat (with_reducible first | exact Below.refl _ _ | assumption | refine ba ?_ _ | refine bd ?_ | refine bdN ?_ _ | refine bs ?_ (by first | exact Nat.le_refl _ | (dsimp only; omega) | (simp; done)) _ | refine bt ?_ (by assumption)))
  have IW0 := Lib.hid (I6_0.out.below hcW)
  have HwW := Lib.hid (bt Bw6.out hcW)
  have Hpl0 := Lib.hid (show w.heap.size < WW.heap.size by have := X7.out.1; omega)
  have HWs := Lib.hid hWs
  clear hWs hcW
  have k9_0 : w6.cell? ⟨w.heap.size, 0, none⟩ = some (.slice aa0 fs0.length ca0) := (X7.out).2 0
  have kl9 := (X7.out).1
  go_wp2_with fail
  refine (laws_toTree _ fs0 _ _ (HR0.out.below (bt Bw6.out (by (repeat (with_reducible first | exact Below.refl _ _ | assumption | refine ba ?_ _ | refine bd ?_ | refine bdN ?_ _ | refine bs ?_ (by first | exact Nat.le_refl _ | (dsimp only; omega) | (simp; done)) _ | refine bt ?_ (by assumption)))))) HL0.out).mono ?_
  rintro _ w10 ⟨v10, ps10, rfl, hps10, ho10, hb10⟩
  clear k9_0 kl9
  have hs10 : Below w6.heap.size w6 w10 := by (repeat (with_reducible first | exact Below.refl _ _ | assumption | refine ba ?_ _ | refine bd ?_ | refine bdN ?_ _ | refine bs ?_ (by first | exact Nat.le_refl _ | (dsimp only; omega) | (simp; done)) _ | refine bt ?_ (by assumption)))
  have Bw10 := Lib.hid (bt Bw6.out hs10)
  have BW10 := Lib.hid (show Below WW.heap.size WW w10 by rw [hWW]; exact hb10)
  have X11 := Lib.hid (X7.out.below hs10)
  clear Bw6 X7
  have Hz10 := Lib.hid (show w6.heap.size ≤ w10.heap.size by have h := hb10.size; first | omega | (simp at h; omega))
  obtain ⟨a10, c10, rfl⟩ := ho10.len
  have hpl10 : ps10.length = fs0.length := (by rw [← hps10, List.length_map])
  rw [hpl10] at ho10 ⊢
  have I10 := Lib.hid (show FilsIn w10 (fun _ => True) (.slice a10 fs0.length c10) fs0 by have h := ho10.fils (D := (fun _ => True)) (fun _ _ => trivial); rw [hps10] at h; exact h)
  have O10 := Lib.hid ho10
  have Hps10 := Lib.hid hps10
  clear ho10 hps10
  have OO10 := Lib.hid (O10.out.mono (show w6.heap.size ≤ _ by simp))
  clear O10
  have Hv10 := Lib.hid (fun b (hb : BlkF (.slice a10 fs0.length c10) ps10 b) => (show w6.heap.size ≤ b ∧ b < w10.heap.size by have h := (blkF_ge OO10.out.1 (fun p hp => ⟨_, _, _, _, OO10.out.2.1 p hp⟩)) b hb; first | exact h | (simp at h; exact h)))
  go_wp2_with fail
  refine (impl_CompileTree _ fs0 _ n1 _ _ (OO10.out.below (by (repeat (with_reducible first | exact Below.refl _ _ | assumption | refine ba ?_ _ | refine bd ?_ | refine bdN ?_ _ | refine bs ?_ (by first | exact Nat.le_refl _ | (dsimp only; omega) | (simp; done)) _ | refine bt ?_ (by assumption))))) Hps10.out HS1048.out HL0.out).mono ?_
  rintro _ w12 ⟨v12_0, ps12_0, rfl, hps12_0, ho12_0, hb12⟩
  have hs12 : Below w10.heap.size w10 w12 := by (repeat (with_reducible first | exact Below.refl _ _ | assumption | refine ba ?_ _ | refine bd ?_ | refine bdN ?_ _ | refine bs ?_ (by first | exact Nat.le_refl _ | (dsimp only; omega) | (simp; done)) _ | refine bt ?_ (by assumption)))
  have Bw12 := Lib.hid (bt Bw10.out hs12)
  have BW12 := Lib.hid (bt BW10.out hs12)
  have X13 := Lib.hid (X11.out.below hs12)
  have X14 := Lib.hid (show BoxC w12 (w10.heap.size) #[.slice a10 fs0.length c10] from ((BoxC.start w10 #[.slice a10 fs0.length c10] 62).below hb12).at (by simp))
  have J15 := Lib.hid (I10.out.below hs12)
  have Q15 := Lib.hid (OO10.out.below hs12)
  clear Bw10 BW10 X11 I10 OO10
  have Hz12 := Lib.hid (show w10.heap.size + 1 ≤ w12.heap.size by have h := hb12.size; first | omega | (simp at h; omega))
  try rw [← HG0.out]
  try rw [← HG0.out] at hps12_0
  try rw [← HG0.out] at ho12_0
  obtain ⟨a12_0, c12_0, rfl⟩ := ho12_0.len
  have hpl12_0 : ps12_0.length = g0.length := (by rw [← hps12_0, List.length_map])
  rw [hpl12_0] at ho12_0 ⊢
  have I12_0 := Lib.hid (show CmpsIn w12 (fun _ => True) (.slice a12_0 g0.length c12_0) g0 by have h := ho12_0.fils (D := (fun _ => True)) (fun _ _ => trivial); rw [hps12_0] at h; exact h)
  have O12_0 := Lib.hid ho12_0
  have Hps12_0 := Lib.hid hps12_0
  clear ho12_0 hps12_0
  have OO12_0 := Lib.hid (O12_0.out.mono (show w10.heap.size + 1 ≤ _ by simp))
  clear O12_0
  have Hv16 := Lib.hid (fun b (hb : BlkC (.slice a12_0 g0.length c12_0) ps12_0 b) => (show w10.heap.size + 1 ≤ b ∧ b < w12.heap.size by have h := (blkC_ge OO12_0.out) b hb; first | exact h | (simp at h; exact h)))
  go_wp2_with fail
  refine (laws_eqCompiledS _ _ g0 g0 (fun _ => True) (fun _ => True) _ (I12_0.out.below (by (repeat (with_reducible first | exact Below.refl _ _ | assumption | refine ba ?_ _ | refine bd ?_ | refine bdN ?_ _ | refine bs ?_ (by first | exact Nat.le_refl _ | (dsimp only; omega) | (simp; done)) _ | refine bt ?_ (by assumption))))) (IW0.out.below (bt BW12.out (by (repeat (with_reducible first | exact Below.refl _ _ | assumption | refine ba ?_ _ | refine bd ?_ | refine bdN ?_ _ | refine bs ?_ (by first | exact Nat.le_refl _ | (dsimp only; omega) | (simp; done)) _ | refine bt ?_ (by assumption))))))).mono ?_
  rintro _ w17 ⟨rfl, hb17⟩
  have hs17 : Below w12.heap.size w12 w17 := by (repeat (with_reducible first | exact Below.refl _ _ | assumption | refine ba ?_ _ | refine bd ?_ | refine bdN ?_ _ | refine bs ?_ (by first | exact Nat.le_refl _ | (dsimp only; omega) | (simp; done)) _ | refine bt ?_ (by assumption)))
  have Bw17 := Lib.hid (bt Bw12.out hs17)
  have BW17 := Lib.hid (bt BW12.out hs17)
  have X18 := Lib.hid (X13.out.below hs17)
  have X19 := Lib.hid (X14.out.below hs17)
  have J20 := Lib.hid (J15.out.below hs17)
  have Q20 := Lib.hid (Q15.out.below hs17)
  have J21 := Lib.hid (I12_0.out.below hs17)
  have Q21 := Lib.hid (OO12_0.out.below hs17)
  clear Bw12 BW12 X13 X14 J15 Q15 I12_0 OO12_0
  rw [Hsg0.out]
  have Hk22 := Lib.hid (fun (w' : World) (hC : Below w17.heap.size w17 w') => (⟨((X18.out).below hC).2 0, ((X19.out).below hC).2 0, hC⟩ : w'.cell? ⟨w.heap.size, 0, none⟩ = some (.slice aa0 fs0.length ca0) ∧ w'.cell? ⟨w10.heap.size, 0, none⟩ = some (.slice a10 fs0.length c10) ∧ Below w17.heap.size w17 w'))
  have HPHk22 := Lib.hid (HR0.out.below Bw17.out)
  go_wp2_with fail
  go_region_held3 (fun w' => w'.cell? ⟨w.heap.size, 0, none⟩ = some (.slice aa0 fs0.length ca0) ∧ w'.cell? ⟨w10.heap.size, 0, none⟩ = some (.slice a10 fs0.length c10) ∧ Below w17.heap.size w17 w')
    (exact Hk22.out _ (by (repeat (with_reducible first | exact Below.refl _ _ | assumption | refine ba ?_ _ | refine bd ?_ | refine bdN ?_ _ | refine bs ?_ (by first | exact Nat.le_refl _ | (dsimp only; omega) | (simp; done)) _ | refine bt ?_ (by assumption)))))
    (first
      | (go_at_call 39; refine (laws_toTree _ fs0 _ _ (HPHk22.out.below (by (repeat (with_reducible first | exact Below.refl _ _ | assumption | refine ba ?_ _ | refine bd ?_ | refine bdN ?_ _ | refine bs ?_ (by first | exact Nat.le_refl _ | (dsimp only; omega) | (simp; done)) _ | refine bt ?_ (by assumption))))) HL0.out).mono ?_; rintro _ w23 ⟨v23, ps23, rfl, hps23, ho23, hb23⟩; obtain ⟨a23, c23, rfl⟩ := ho23.len; have hpl23 : ps23.length = fs0.length := (by rw [← hps23, List.length_map]); rw [hpl23] at ho23 ⊢; have I23 := Lib.hid (show FilsIn w23 (fun _ => True) (.slice a23 fs0.length c23) fs0 by have h := ho23.fils (D := (fun _ => True)) (fun _ _ => trivial); rw [hps23] at h; exact h); have O23 := Lib.hid ho23; have Hps23 := Lib.hid hps23; clear ho23 hps23)
      | (go_at_call 41; refine (laws_eqTree _ _ fs0 fs0 (fun _ => True) (fun _ => True) _ (J20.out.below (by (repeat (with_reducible first | exact Below.refl _ _ | assumption | refine ba ?_ _ | refine bd ?_ | refine bdN ?_ _ | refine bs ?_ (by first | exact Nat.le_refl _ | (dsimp only; omega) | (simp; done)) _ | refine bt ?_ (by assumption))))) (I23.out.below (by (repeat (with_reducible first | exact Below.refl _ _ | assumption | refine ba ?_ _ | refine bd ?_ | refine bdN ?_ _ | refine bs ?_ (by first | exact Nat.le_refl _ | (dsimp only; omega) | (simp; done)) _ | refine bt ?_ (by assumption)))))).mono ?_; rintro _ w24 ⟨rfl, hb24⟩; rw [Hse0.out]))
  have hs24 : Below w17.heap.size w17 w24 := by (repeat (with_reducible first | exact Below.refl _ _ | assumption | refine ba ?_ _ | refine bd ?_ | refine bdN ?_ _ | refine bs ?_ (by first | exact Nat.le_refl _ | (dsimp only; omega) | (simp; done)) _ | refine bt ?_ (by assumption)))
  have Bw24 := Lib.hid (bt Bw17.out hs24)
  have BW24 := Lib.hid (bt BW17.out hs24)
  have X25 := Lib.hid (X18.out.below hs24)
  have X26 := Lib.hid (X19.out.below hs24)
  have J27 := Lib.hid (J20.out.below hs24)
  have Q27 := Lib.hid (Q20.out.below hs24)
  have J28 := Lib.hid (J21.out.below hs24)
  have Q28 := Lib.hid (Q21.out.below hs24)
  clear Bw17 BW17 X18 X19 J20 Q20 J21 Q21
  have k29_0 : w24.cell? ⟨w10.heap.size, 0, none⟩ = some (.slice a10 fs0.length c10) := (X26.out).2 0
  have kl29 := (X26.out).1
  go_wp2_with fail
  have hkk : 1 ≤ 1 := by omega
  refine (laws_markTree (w6.heap.size) _ ps10 1 _ (Q27.out.below (by (repeat (with_reducible first | exact Below.refl _ _ | assumption | refine ba ?_ _ | refine bd ?_ | refine bdN ?_ _ | refine bs ?_ (by first | exact Nat.le_refl _ | (dsimp only; omega) | (simp; done)) _ | refine bt ?_ (by assumption))))) hkk (by rw [Hps10.out]; have := HE0.out 1; omega) (by omega)).mono ?_
  rintro _ w30 ⟨rfl, _, ht30⟩
  clear k29_0 kl29
  have Ht30 := Lib.hid ht30
  clear ht30
  have BW30 := Lib.hid (BW24.out.trans (Ht30.out.below BW24.out.size (fun b hb => by have := (Hv10.out b hb).1; have := Hpl0.out; have := HWs.out; have := Hz10.out; have := Hz12.out; omega)))
  have Bw30 := Lib.hid (show Below w.heap.size w w30 from HwW.out.trans (BW30.out.mono HwW.out.size))
  have X31 := Lib.hid (X25.out.turned Ht30.out (fun hb => by have := Hv10.out _ hb; have := Hpl0.out; have := HWs.out; have := Hz10.out; have := Hz12.out; omega))
  have X32 := Lib.hid (X26.out.turned Ht30.out (fun hb => by have := Hv10.out _ hb; have := Hpl0.out; have := HWs.out; have := Hz10.out; have := Hz12.out; omega))
  have Q33 := Lib.hid (cmps_turned Q28.out Ht30.out (fun b hb hS => by have := Hv10.out b hS; have := Hv16.out b hb; have := Hpl0.out; have := HWs.out; have := Hz10.out; have := Hz12.out; omega))
  clear Bw24 BW24 X25 X26 J27 Q27 J28 Q28
  clear hkk
  obtain ⟨K34, hK34⟩ : ∃ K, K = endF 1 (ps10.map (·.1)) := ⟨_, rfl⟩
  have hK34b : 1 ≤ K34 ∧ K34 ≤ 1 + 5 * C0 := by rw [hK34]; exact ⟨endF_mono _ _, by rw [Hps10.out]; exact HE0.out 1⟩
  rw [← hK34]
  have HK34 := Lib.hid hK34
  clear hK34
  have hk0 : ¬ ((K34 : Nat) : Int) < 0 := Int.not_lt.2 (Int.natCast_nonneg _)
  have I_35 := Lib.hid (show CmpsIn w30 (fun _ => True) (.slice a12_0 g0.length c12_0) g0 by have h := Q33.out.fils (D := (fun _ => True)) (fun _ _ => trivial); rw [Hps12_0.out] at h; exact h)
  go_wp2_with fail
  refine (laws_eqCompiledS _ _ g0 g0 (fun _ => True) (fun _ => True) _ (I_35.out.below (by (repeat (with_reducible first | exact Below.refl _ _ | assumption | refine ba ?_ _ | refine bd ?_ | refine bdN ?_ _ | refine bs ?_ (by first | exact Nat.le_refl _ | (dsimp only; omega) | (simp; done)) _ | refine bt ?_ (by assumption))))) (IW0.out.below (bt BW30.out (by (repeat (with_reducible first | exact Below.refl _ _ | assumption | refine ba ?_ _ | refine bd ?_ | refine bdN ?_ _ | refine bs ?_ (by first | exact Nat.le_refl _ | (dsimp only; omega) | (simp; done)) _ | refine bt ?_ (by assumption))))))).mono ?_
  rintro _ w36 ⟨rfl, hb36⟩
  clear hk0
  have hs36 : Below w30.heap.size w30 w36 := by (repeat (with_reducible first | exact Below.refl _ _ | assumption | refine ba ?_ _ | refine bd ?_ | refine bdN ?_ _ | refine bs ?_ (by first | exact Nat.le_refl _ | (dsimp only; omega) | (simp; done)) _ | refine bt ?_ (by assumption)))
  have Bw36 := Lib.hid (bt Bw30.out hs36)
  have BW36 := Lib.hid (bt BW30.out hs36)
  have X37 := Lib.hid (X31.out.below hs36)
  have J38 := Lib.hid (I_35.out.below hs36)
  have Q38 := Lib.hid (Q33.out.below hs36)
  clear Bw30 BW30 X31 I_35 Q33
  rw [Hsg0.out]
  go_wp2_with fail
  have hkk : 1 ≤ 1 := by omega
  refine (laws_markCompiledS (w10.heap.size + 1) _ ps12_0 1 _ (Q38.out.below (by (repeat (with_reducible first | exact Below.refl _ _ | assumption | refine ba ?_ _ | refine bd ?_ | refine bdN ?_ _ | refine bs ?_ (by first | exact Nat.le_refl _ | (dsimp only; omega) | (simp; done)) _ | refine bt ?_ (by assumption))))) hkk (by rw [Hps12_0.out]; have := Hgb0.out 1; omega) (by omega)).mono ?_
  rintro _ w39 ⟨rfl, hm39, ht39⟩
  have M39 := Lib.hid (show CmpsIn w39 (fun _ => True) _ (marksC 1 g0) by have h := hm39.fils (D := (fun _ => True)) (fun _ _ => trivial); rw [markR_fst, Hps12_0.out] at h; exact h)
  clear hm39
  have Ht39 := Lib.hid ht39
  clear ht39
  have BW39 := Lib.hid (BW36.out.trans (Ht39.out.below BW36.out.size (fun b hb => by have := (Hv16.out b hb).1; have := Hpl0.out; have := HWs.out; have := Hz10.out; have := Hz12.out; omega)))
  have Bw39 := Lib.hid (show Below w.heap.size w w39 from HwW.out.trans (BW39.out.mono HwW.out.size))
  have X40 := Lib.hid (X37.out.turned Ht39.out (fun hb => by have := Hv16.out _ hb; have := Hpl0.out; have := HWs.out; have := Hz10.out; have := Hz12.out; omega))
  clear Bw36 BW36 X37 J38 Q38
  clear hkk
  rw [Hps12_0.out]
  obtain ⟨K41, hK41⟩ : ∃ K, K = endC 1 g0 := ⟨_, rfl⟩
  have hK41b : 1 ≤ K41 ∧ K41 ≤ 1 + 1000 := by rw [hK41]; exact ⟨endC_mono _ _, by have := Hgb0.out 1; omega⟩
  rw [← hK41]
  have HK41 := Lib.hid hK41
  clear hK41
  go_wp2_with fail
  refine (laws_heldCompiledS _ (fun _ => True) g0 1 _ (M39.out.below (by (repeat (with_reducible first | exact Below.refl _ _ | assumption | refine ba ?_ _ | refine bd ?_ | refine bdN ?_ _ | refine bs ?_ (by first | exact Nat.le_refl _ | (dsimp only; omega) | (simp; done)) _ | refine bt ?_ (by assumption))))) (by omega) (by have := Hgb0.out 1; omega) (by omega)).mono ?_
  rintro _ w42 ⟨rfl, hb42⟩
  have hs42 : Below w39.heap.size w39 w42 := by (repeat (with_reducible first | exact Below.refl _ _ | assumption | refine ba ?_ _ | refine bd ?_ | refine bdN ?_ _ | refine bs ?_ (by first | exact Nat.le_refl _ | (dsimp only; omega) | (simp; done)) _ | refine bt ?_ (by assumption)))
  have Bw42 := Lib.hid (bt Bw39.out hs42)
  have BW42 := Lib.hid (bt BW39.out hs42)
  have X43 := Lib.hid (X40.out.below hs42)
  have N44 := Lib.hid (M39.out.below hs42)
  clear Bw39 BW39 X40 M39
  rw [← HK41.out]
  have hk0 : ¬ ((K41 : Nat) : Int) < 0 := Int.not_lt.2 (Int.natCast_nonneg _)
  have k45_0 : w42.cell? ⟨w.heap.size, 0, none⟩ = some (.slice aa0 fs0.length ca0) := (X43.out).2 0
  have kl45 := (X43.out).1
  go_wp2_with fail
  refine (laws_toTree _ fs0 _ _ (HR0.out.below (bt Bw42.out (by (repeat (with_reducible first | exact Below.refl _ _ | assumption | refine ba ?_ _ | refine bd ?_ | refine bdN ?_ _ | refine bs ?_ (by first | exact Nat.le_refl _ | (dsimp only; omega) | (simp; done)) _ | refine bt ?_ (by assumption)))))) HL0.out).mono ?_
  rintro _ w46 ⟨v46, ps46, rfl, hps46, ho46, hb46⟩
  clear hk0 k45_0 kl45
  have hs46 : Below w42.heap.size w42 w46 := by (repeat (with_reducible first | exact Below.refl _ _ | assumption | refine ba ?_ _ | refine bd ?_ | refine bdN ?_ _ | refine bs ?_ (by first | exact Nat.le_refl _ | (dsimp only; omega) | (simp; done)) _ | refine bt ?_ (by assumption)))
  have Bw46 := Lib.hid (bt Bw42.out hs46)
  have BW46 := Lib.hid (bt BW42.out hs46)
  have X47 := Lib.hid (X43.out.below hs46)
  have N48 := Lib.hid (N44.out.below hs46)
  clear Bw42 BW42 X43 N44
  obtain ⟨a46, c46, rfl⟩ := ho46.len
  have hpl46 : ps46.length = fs0.length := (by rw [← hps46, List.length_map])
  rw [hpl46] at ho46 ⊢
  have I46 := Lib.hid (show FilsIn w46 (fun _ => True) (.slice a46 fs0.length c46) fs0 by have h := ho46.fils (D := (fun _ => True)) (fun _ _ => trivial); rw [hps46] at h; exact h)
  have O46 := Lib.hid ho46
  have Hps46 := Lib.hid hps46
  clear ho46 hps46
  go_wp2_with fail
  refine (impl_CompileTree _ fs0 _ n1 _ _ (O46.out.below (by (repeat (with_reducible first | exact Below.refl _ _ | assumption | refine ba ?_ _ | refine bd ?_ | refine bdN ?_ _ | refine bs ?_ (by first | exact Nat.le_refl _ | (dsimp only; omega) | (simp; done)) _ | refine bt ?_ (by assumption))))) Hps46.out HS1048.out HL0.out).mono ?_
  rintro _ w49 ⟨v49_0, ps49_0, rfl, hps49_0, ho49_0, hb49⟩
  have hs49 : Below w46.heap.size w46 w49 := by (repeat (with_reducible first | exact Below.refl _ _ | assumption | refine ba ?_ _ | refine bd ?_ | refine bdN ?_ _ | refine bs ?_ (by first | exact Nat.le_refl _ | (dsimp only; omega) | (simp; done)) _ | refine bt ?_ (by assumption)))
  have Bw49 := Lib.hid (bt Bw46.out hs49)
  have BW49 := Lib.hid (bt BW46.out hs49)
  have X50 := Lib.hid (X47.out.below hs49)
  have J51 := Lib.hid (I46.out.below hs49)
  have Q51 := Lib.hid (O46.out.below hs49)
  have N52 := Lib.hid (N48.out.below hs49)
  clear Bw46 BW46 X47 I46 O46 N48
  have Hz49 := Lib.hid (show w46.heap.size ≤ w49.heap.size by have h := hb49.size; first | omega | (simp at h; omega))
  try rw [← HG0.out]
  try rw [← HG0.out] at hps49_0
  try rw [← HG0.out] at ho49_0
  obtain ⟨a49_0, c49_0, rfl⟩ := ho49_0.len
  have hpl49_0 : ps49_0.length = g0.length := (by rw [← hps49_0, List.length_map])
  rw [hpl49_0] at ho49_0 ⊢
  have I49_0 := Lib.hid (show CmpsIn w49 (fun _ => True) (.slice a49_0 g0.length c49_0) g0 by have h := ho49_0.fils (D := (fun _ => True)) (fun _ _ => trivial); rw [hps49_0] at h; exact h)
  have O49_0 := Lib.hid ho49_0
  have Hps49_0 := Lib.hid hps49_0
  clear ho49_0 hps49_0
  go_wp2_with fail
  refine (laws_eqCompiledS _ _ g0 g0 (fun _ => True) (fun _ => True) _ (I49_0.out.below (by (repeat (with_reducible first | exact Below.refl _ _ | assumption | refine ba ?_ _ | refine bd ?_ | refine bdN ?_ _ | refine bs ?_ (by first | exact Nat.le_refl _ | (dsimp only; omega) | (simp; done)) _ | refine bt ?_ (by assumption))))) (IW0.out.below (bt BW49.out (by (repeat (with_reducible first | exact Below.refl _ _ | assumption | refine ba ?_ _ | refine bd ?_ | refine bdN ?_ _ | refine bs ?_ (by first | exact Nat.le_refl _ | (dsimp only; omega) | (simp; done)) _ | refine bt ?_ (by assumption))))))).mono ?_
  rintro _ w53 ⟨rfl, hb53⟩
  have hs53 : Below w49.heap.size w49 w53 := by (repeat (with_reducible first | exact Below.refl _ _ | assumption | refine ba ?_ _ | refine bd ?_ | refine bdN ?_ _ | refine bs ?_ (by first | exact Nat.le_refl _ | (dsimp only; omega) | (simp; done)) _ | refine bt ?_ (by assumption)))
  have Bw53 := Lib.hid (bt Bw49.out hs53)
  have BW53 := Lib.hid (bt BW49.out hs53)
  have X54 := Lib.hid (X50.out.below hs53)
  have J55 := Lib.hid (I49_0.out.below hs53)
  have N56 := Lib.hid (N52.out.below hs53)
  clear Bw49 BW49 X50 I49_0 N52
  rw [Hsg0.out]
  go_wp2_with fail
  refine (laws_heldCompiledS _ (fun _ => True) g0 1 _ (N56.out.below (by (repeat (with_reducible first | exact Below.refl _ _ | assumption | refine ba ?_ _ | refine bd ?_ | refine bdN ?_ _ | refine bs ?_ (by first | exact Nat.le_refl _ | (dsimp only; omega) | (simp; done)) _ | refine bt ?_ (by assumption))))) (by omega) (by have := Hgb0.out 1; omega) (by omega)).mono ?_
  rintro _ w57 ⟨rfl, hb57⟩
  have hs57 : Below w53.heap.size w53 w57 := by (repeat (with_reducible first | exact Below.refl _ _ | assumption | refine ba ?_ _ | refine bd ?_ | refine bdN ?_ _ | refine bs ?_ (by first | exact Nat.le_refl _ | (dsimp only; omega) | (simp; done)) _ | refine bt ?_ (by assumption)))
  have Bw57 := Lib.hid (bt Bw53.out hs57)
  have BW57 := Lib.hid (bt BW53.out hs57)
  have X58 := Lib.hid (X54.out.below hs57)
  have J59 := Lib.hid (J55.out.below hs57)
  have N60 := Lib.hid (N56.out.below hs57)
  clear Bw53 BW53 X54 J55 N56
  rw [← HK41.out]
  have hk0 : ¬ ((K41 : Nat) : Int) < 0 := Int.not_lt.2 (Int.natCast_nonneg _)
  go_wp2_with fail
  go_ret
  exact ⟨rfl, Bw57.out⟩

/-! ### THE STEP TO THE ROW -/
set_option maxRecDepth 100000 in
theorem lifted (os : Os) (started : os.Started) (H : Type) (enc : TypeId × Value → H) :
    ReturnsInHanded {} Try.checked os 6 .any (Rows.fnExactCompileTreeSpec.pre6 enc Try.prog Try.f6 Rows.fnExactCompileTreeRow.domain false) (Rows.fnExactCompileTreeSpec.post enc Try.prog Try.f6 false true false false) := by
  refine returnsInHanded_of_change (C := Try.checked) own started (by kernel_rfl) Try.func6
    (ChangeSpec.witness6 (enc := enc) (C := Try.checked) false ⟨#[], #[.agg #[.slice none 0 0], .int .i64 0], []⟩ 8 (by kernel_rfl) (by kernel_rfl) (by kernel_rfl) (by kernel_rfl)) ?_
  intro W base args ds gs before hval0 hW hcnd _
  have hval : ∀ (j : Nat) t v, Try.f6.params[j]? = some t → args[j]? = some v → Value.okWide Try.prog W .any base t v := hval0
  have hW' := hW
  obtain ⟨p, q, hA0, hV, rfl, hfz, hnd⟩ := hW
  have hA : DataW.TrodAll enc Try.prog W 0 (fun _ => true) true Try.f6.params.toList args.toList ds p := hA0
  rw [Try.params6] at hA hval
  obtain ⟨v0, vs0, d0, ds0, p0, q0, hargs, rfl, rfl, h0, r0⟩ := trodAll_cons hA
  obtain ⟨v1, vs1, d1, ds1, p1, q1, rfl, rfl, rfl, h1, r1⟩ := trodAll_cons r0
  obtain ⟨rfl, rfl, rfl⟩ := trodAll_nil r1
  obtain rfl : args = #[v0, v1] := by cases args; simp_all
  obtain ⟨rfl, rfl⟩ := trodVars_none hV
  obtain ⟨cs0, rfl, _⟩ := okWide_struct Try.underlying57 (hval 0 57 v0 rfl rfl)
  have k0 := h0
  have lt0 : ∀ x ∈ p0, x.block < W.heap.size := by obtain ⟨m, hm⟩ := k0; exact DataW.trod_lt m _ _ _ hm
  obtain ⟨xs0, tv0, et0, w0⟩ : ∃ fs tv, cs0 = #[tv] ∧ FilsIn W (fun _ => True) tv fs ∧ ShortT maxLen fs := by
    obtain ⟨fuel, hf⟩ := h0
    obtain ⟨a', len', cap', fs, e0, e1, e2⟩ := read_tree hf
    exact ⟨fs, _, by rw [← Array.toList_inj]; simpa [Value.cells] using e0, e1, e2⟩
  subst et0
  obtain ⟨n1, rfl, rfl, rfl, w1⟩ := open_int Try.underlying3 (hval 1 3 v1 rfl rfl) h1
  clear hA0 hval0
  refine (walk tv0 xs0 n1 W w0 w1).mono fun e W' ⟨he, bel⟩ => ?_
  subst he
  exact ⟨_, rfl, _, _, _, [], _, [], hW', trodAll_mk1 (shut_bool Try.underlying4 _), (trodAll_cons_mk (Below.trod laidOut (by kernel_rfl) (of_decide_eq_true (by kernel_rfl)) k0 bel lt0) (trodAll_cons_mk (shut_int Try.underlying3 w1) trodAll_mk0)), rfl, bel.frame _, fun h => by cases h⟩

theorem over : Rows.fnExactCompileTreeRow.holds Try.pinned (OpenSpec.ofChange Rows.fnExactCompileTreeSpec) :=
  OpenClaim.holds_of_wide 6 Try.f6 rfl rfl rfl rfl rfl rfl rfl ⟨rfl, rfl, rfl, rfl, rfl⟩ rfl rfl rfl rfl rfl (by kernel_rfl) Try.func6 (by kernel_rfl)
    (of_decide_eq_true (by kernel_rfl)) (by unfold Func.isWrapper; first | (rw [if_pos (by decide +kernel)]; kernel_rfl) | (rw [if_neg (by decide +kernel)]; exact ⟨rfl, rfl⟩))
    (fun os started H enc _ => lifted os started H enc)

/-- THE STATEMENT -/
theorem proved : Rows.FnExactCompileTreeSaid := over
end Go.Proofs.Ytebfafefeajemaa.FnExactCompileTree
