/- FnExactPruneStore returns true for every argument. -/
import Derived.Test.YtomdmkhgkaalnaaPrunI
import Derived.Test.YtomdmkhgkaalnaaMarkC
import Derived.Test.YtomdmkhgkaalnaaStoreMem
import Derived.Test.YtomdmkhgkaalnaaExTools
import Derived.Test.YtomdmkhgkaalnaaSzTree
import Derived.Test.YtomdmkhgkaalnaaReadIn
import Derived.Test.YtomdmkhgkaalnaaHeld
import Derived.Test.YtomdmkhgkaalnaaMarks2
import Derived.Test.YtomdmkhgkaalnaaInts
import Derived.Test.YtomdmkhgkaalnaaStrs
import Derived.Test.YtomdmkhgkaalnaaFrame
set_option linter.unusedVariables false
set_option linter.unusedSimpArgs false
namespace Go.Proofs.Ytomdmkhgkaalnaa.FnExactPruneStore
open Go.ChangeShapes Go.WideShapes Go.ChangeAt Go.RowKit Go.Proofs.Ytomdmkhgkaalnaa.Nm

set_option maxRecDepth 100000 in
set_option maxHeartbeats 16000000 in
theorem walk (v0 : Value) (cs0 : List Cmp) (v1 : Value) (fs1 : List Fil) (w : World) (h0 : CmpsIn w (fun _ => True) v0 cs0 ∧ ShortCs maxLen cs0) (h1 : FilsIn w (fun _ => True) v1 fs1 ∧ ShortT maxLen fs1) :
    Calls Try.prog 3 #[v0, .agg #[v1]] w fun e w' => e = .returned (.bool true) ∧ Below w.heap.size w w' := by
  obtain ⟨hr0, hz0⟩ := h0
  have HR0 := Lib.hid hr0
  have HZ0 := Lib.hid hz0
  obtain ⟨aa0, ca0, rfl, hlc0, hmc0⟩ := hr0.len
  clear hr0 hz0 hmc0
  obtain ⟨hr1, hz1⟩ := h1
  have HR1 := Lib.hid hr1
  have HZ1 := Lib.hid hz1
  obtain ⟨aa1, ca1, rfl, hlc1, hmc1⟩ := hr1.len
  clear hr1 hz1 hmc1
  obtain ⟨C0, hC0⟩ : ∃ C, C = cmpsCost cs0 := ⟨_, rfl⟩
  have HC0 := Lib.hid hC0
  clear hC0
  obtain ⟨C1, hC1⟩ : ∃ C, C = filsCost fs1 := ⟨_, rfl⟩
  have HC1 := Lib.hid hC1
  clear hC1
  obtain ⟨g0, hg0⟩ : ∃ g, g = prune cs0 fs1 := ⟨_, rfl⟩
  have hgf := prune_fine cs0 fs1
  rw [← hg0] at hgf
  have Hgb0 := Lib.hid (endC_fine hgf.1 hgf.2)
  have hgl := hgf.2
  clear hgf
  have HG0 := Lib.hid hg0
  clear hg0
  have Hsg0 := Lib.hid (show sameCmps g0 g0 = true from decide_eq_true rfl)
  go_enter Try.func3, Try.ntmps3
  go_wp2_with fail
  refine (laws_szCompiledS _ cs0 _ 1048576 _ (HR0.out.below (by (repeat (with_reducible first | exact Below.refl _ _ | assumption | refine ba ?_ _ | refine bd ?_ | refine bdN ?_ _ | refine bs ?_ (by first | exact Nat.le_refl _ | (dsimp only; omega) | (simp; done)) _ | refine bt ?_ (by assumption))))) HZ0.out (by omega)).mono ?_
  rintro _ w1 ⟨r1, rfl, hr1, hb1⟩
  have hs1 : Below w.heap.size w w1 := by (repeat (with_reducible first | exact Below.refl _ _ | assumption | refine ba ?_ _ | refine bd ?_ | refine bdN ?_ _ | refine bs ?_ (by first | exact Nat.le_refl _ | (dsimp only; omega) | (simp; done)) _ | refine bt ?_ (by assumption)))
  have Bw1 := Lib.hid (hs1)
  have X2 := Lib.hid (show BoxC w1 (w.heap.size) #[.slice aa1 fs1.length ca1] from ((BoxC.start w #[.slice aa1 fs1.length ca1] 25).below hb1).at (by simp))
  rw [← HC0.out] at hr1
  have k3_0 : w1.cell? ⟨w.heap.size, 0, none⟩ = some (.slice aa1 fs1.length ca1) := (X2.out).2 0
  have kl3 := (X2.out).1
  by_cases hn1 : r1 < 0
  · go_wp2_with fail
    go_ret
    exact ⟨rfl, Bw1.out⟩
  obtain ⟨R1, rfl⟩ := Int.eq_ofNat_of_zero_le (show 0 ≤ r1 by omega)
  have hR1 : R1 + C0 ≤ 1048576 := by omega
  clear hr1
  go_wp2_with fail
  refine (laws_szTree _ fs1 _ R1 _ (HR1.out.below (bt Bw1.out (by (repeat (with_reducible first | exact Below.refl _ _ | assumption | refine ba ?_ _ | refine bd ?_ | refine bdN ?_ _ | refine bs ?_ (by first | exact Nat.le_refl _ | (dsimp only; omega) | (simp; done)) _ | refine bt ?_ (by assumption)))))) HZ1.out (by omega)).mono ?_
  rintro _ w4 ⟨r4, rfl, hr4, hb4⟩
  clear k3_0 kl3
  have hs4 : Below w1.heap.size w1 w4 := by (repeat (with_reducible first | exact Below.refl _ _ | assumption | refine ba ?_ _ | refine bd ?_ | refine bdN ?_ _ | refine bs ?_ (by first | exact Nat.le_refl _ | (dsimp only; omega) | (simp; done)) _ | refine bt ?_ (by assumption)))
  have Bw4 := Lib.hid (bt Bw1.out hs4)
  have X5 := Lib.hid (X2.out.below hs4)
  clear Bw1 X2
  rw [← HC1.out] at hr4
  by_cases hn4 : r4 < 0
  · go_wp2_with fail
    go_ret
    exact ⟨rfl, Bw4.out⟩
  obtain ⟨R4, rfl⟩ := Int.eq_ofNat_of_zero_le (show 0 ≤ r4 by omega)
  have hR4 : R4 + C1 ≤ R1 := by omega
  clear hr4
  have HL0 := Lib.hid (cmpCosts_of (by rw [← HC0.out]; omega : cmpsCost cs0 ≤ 1048576))
  have HS0 := Lib.hid (shortCs_mono (B := 2000000) (by omega) (shortCs_of (by rw [← HC0.out]; omega : cmpsCost cs0 ≤ 1048576)))
  have hln0 : cs0.length ≤ 1048576 := HL0.out.1
  have Hse0 := Lib.hid (show sameCmps cs0 cs0 = true from decide_eq_true rfl)
  have HE0 := Lib.hid (fun k => (show endC k cs0 ≤ k + 7 * C0 by rw [HC0.out]; exact endC_le k cs0))
  have HL1 := Lib.hid (costs_of (by rw [← HC1.out]; omega : filsCost fs1 ≤ 1048576))
  have HS1 := Lib.hid (shortT_mono (B := 2000000) (by omega) (shortT_of (by rw [← HC1.out]; omega : filsCost fs1 ≤ 1048576)))
  have HE1 := Lib.hid (fun k => (show endF k fs1 ≤ k + 5 * C1 by rw [endF_le k fs1]; have := sum_le (fs := fs1); have hcc := HC1.out; unfold filsCost at hcc; omega))
  have hln1 : fs1.length ≤ 1048576 := HL1.out.1
  have Hse1 := Lib.hid (show sameFils fs1 fs1 = true from decide_eq_true rfl)
  have HSS0 := Lib.hid (shortCs_of (by rw [← HC0.out]; omega : cmpsCost cs0 ≤ 1048576))
  have HT1 := Lib.hid (shortT_of (by rw [← HC1.out]; omega : filsCost fs1 ≤ 1048576))
  have Hk6 := Lib.hid (fun (w' : World) (hC : Below w4.heap.size w4 w') => (⟨((X5.out).below hC).2 0, hC⟩ : w'.cell? ⟨w.heap.size, 0, none⟩ = some (.slice aa1 fs1.length ca1) ∧ Below w4.heap.size w4 w'))
  have HPHk6_0 := Lib.hid (HR0.out.below Bw4.out)
  have HPHk6_1 := Lib.hid (HR1.out.below Bw4.out)
  go_wp2_with fail
  go_region_held3 (fun w' => w'.cell? ⟨w.heap.size, 0, none⟩ = some (.slice aa1 fs1.length ca1) ∧ Below w4.heap.size w4 w')
    (exact Hk6.out _ (by (repeat (with_reducible first | exact Below.refl _ _ | assumption | refine ba ?_ _ | refine bd ?_ | refine bdN ?_ _ | refine bs ?_ (by first | exact Nat.le_refl _ | (dsimp only; omega) | (simp; done)) _ | refine bt ?_ (by assumption)))))
    (first
      | (go_at_call 17; refine (laws_toCompiledS _ cs0 _ _ (HPHk6_0.out.below (by (repeat (with_reducible first | exact Below.refl _ _ | assumption | refine ba ?_ _ | refine bd ?_ | refine bdN ?_ _ | refine bs ?_ (by first | exact Nat.le_refl _ | (dsimp only; omega) | (simp; done)) _ | refine bt ?_ (by assumption))))) HL0.out).mono ?_; rintro _ w7 ⟨v7, ps7, rfl, hps7, ho7, hb7⟩; obtain ⟨a7, c7, rfl⟩ := ho7.len; have hpl7 : ps7.length = cs0.length := (by rw [← hps7, List.length_map]); rw [hpl7] at ho7 ⊢; have I7 := Lib.hid (show CmpsIn w7 (fun _ => True) (.slice a7 cs0.length c7) cs0 by have h := ho7.fils (D := (fun _ => True)) (fun _ _ => trivial); rw [hps7] at h; exact h); have O7 := Lib.hid ho7; have Hps7 := Lib.hid hps7; clear ho7 hps7)
      | (go_at_call 18; refine (laws_toTree _ fs1 _ _ (HPHk6_1.out.below (by (repeat (with_reducible first | exact Below.refl _ _ | assumption | refine ba ?_ _ | refine bd ?_ | refine bdN ?_ _ | refine bs ?_ (by first | exact Nat.le_refl _ | (dsimp only; omega) | (simp; done)) _ | refine bt ?_ (by assumption))))) HL1.out).mono ?_; rintro _ w8 ⟨v8, ps8, rfl, hps8, ho8, hb8⟩; obtain ⟨a8, c8, rfl⟩ := ho8.len; have hpl8 : ps8.length = fs1.length := (by rw [← hps8, List.length_map]); rw [hpl8] at ho8 ⊢; have I8 := Lib.hid (show FilsIn w8 (fun _ => True) (.slice a8 fs1.length c8) fs1 by have h := ho8.fils (D := (fun _ => True)) (fun _ _ => trivial); rw [hps8] at h; exact h); have O8 := Lib.hid ho8; have Hps8 := Lib.hid hps8; clear ho8 hps8)
      | (go_at_call 16; refine (spec_PruneStore _ cs0 _ _ _ fs1 _ _ _ (O7.out.below (by (repeat (with_reducible first | exact Below.refl _ _ | assumption | refine ba ?_ _ | refine bd ?_ | refine bdN ?_ _ | refine bs ?_ (by first | exact Nat.le_refl _ | (dsimp only; omega) | (simp; done)) _ | refine bt ?_ (by assumption))))).rows Hps7.out HSS0.out HL0.out (O8.out.below (by (repeat (with_reducible first | exact Below.refl _ _ | assumption | refine ba ?_ _ | refine bd ?_ | refine bdN ?_ _ | refine bs ?_ (by first | exact Nat.le_refl _ | (dsimp only; omega) | (simp; done)) _ | refine bt ?_ (by assumption))))).rows Hps8.out HT1.out HL1.out).mono ?_; rintro _ w9 ⟨v9_0, ps9_0, rfl, hps9_0, ho9_0, hb9⟩; (try rw [← HG0.out]); (try rw [← HG0.out] at hps9_0); (try rw [← HG0.out] at ho9_0); obtain ⟨a9_0, c9_0, rfl⟩ := ho9_0.len; have hpl9_0 : ps9_0.length = g0.length := (by rw [← hps9_0, List.length_map]); rw [hpl9_0] at ho9_0 ⊢; have I9_0 := Lib.hid (show CmpsIn w9 (fun _ => True) (.slice a9_0 g0.length c9_0) g0 by have h := ho9_0.fils (D := (fun _ => True)) (fun _ _ => trivial); rw [hps9_0] at h; exact h); have O9_0 := Lib.hid ho9_0; have Hps9_0 := Lib.hid hps9_0; clear ho9_0 hps9_0))
  have hs9 : Below w4.heap.size w4 w9 := by (repeat (with_reducible first | exact Below.refl _ _ | assumption | refine ba ?_ _ | refine bd ?_ | refine bdN ?_ _ | refine bs ?_ (by first | exact Nat.le_refl _ | (dsimp only; omega) | (simp; done)) _ | refine bt ?_ (by assumption)))
  have Bw9 := Lib.hid (bt Bw4.out hs9)
  have X10 := Lib.hid (X5.out.below hs9)
  clear Bw4 X5
  obtain ⟨WW, hWW⟩ : ∃ WW, WW = w9 := ⟨_, rfl⟩
  have hWs : WW.heap.size = w9.heap.size + 0 := by rw [hWW]; simp
  have hcW : Below w9.heap.size w9 WW := by rw [hWW]; (repeat (with_reducible first | exact Below.refl _ _ | assumption | refine ba ?_ _ | refine bd ?_ | refine bdN ?_ _ | refine bs ?_ (by first | exact Nat.le_refl _ | (dsimp only; omega) | (simp; done)) _ | refine bt ?_ (by assumption)))
  have IW0 := Lib.hid (I9_0.out.below hcW)
  have HwW := Lib.hid (bt Bw9.out hcW)
  have Hpl1 := Lib.hid (show w.heap.size < WW.heap.size by have := X10.out.1; omega)
  have HWs := Lib.hid hWs
  clear hWs hcW
  go_wp2_with fail
  refine (laws_toCompiledS _ cs0 _ _ (HR0.out.below (bt Bw9.out (by (repeat (with_reducible first | exact Below.refl _ _ | assumption | refine ba ?_ _ | refine bd ?_ | refine bdN ?_ _ | refine bs ?_ (by first | exact Nat.le_refl _ | (dsimp only; omega) | (simp; done)) _ | refine bt ?_ (by assumption)))))) HL0.out).mono ?_
  rintro _ w11 ⟨v11, ps11, rfl, hps11, ho11, hb11⟩
  have hs11 : Below w9.heap.size w9 w11 := by (repeat (with_reducible first | exact Below.refl _ _ | assumption | refine ba ?_ _ | refine bd ?_ | refine bdN ?_ _ | refine bs ?_ (by first | exact Nat.le_refl _ | (dsimp only; omega) | (simp; done)) _ | refine bt ?_ (by assumption)))
  have Bw11 := Lib.hid (bt Bw9.out hs11)
  have BW11 := Lib.hid (show Below WW.heap.size WW w11 by rw [hWW]; exact hb11)
  have X12 := Lib.hid (X10.out.below hs11)
  clear Bw9 X10
  have Hz11 := Lib.hid (show w9.heap.size ≤ w11.heap.size by have h := hb11.size; first | omega | (simp at h; omega))
  obtain ⟨a11, c11, rfl⟩ := ho11.len
  have hpl11 : ps11.length = cs0.length := (by rw [← hps11, List.length_map])
  rw [hpl11] at ho11 ⊢
  have I11 := Lib.hid (show CmpsIn w11 (fun _ => True) (.slice a11 cs0.length c11) cs0 by have h := ho11.fils (D := (fun _ => True)) (fun _ _ => trivial); rw [hps11] at h; exact h)
  have O11 := Lib.hid ho11
  have Hps11 := Lib.hid hps11
  clear ho11 hps11
  have OO11 := Lib.hid (O11.out.mono (show w9.heap.size ≤ _ by simp))
  clear O11
  have Hv11 := Lib.hid (fun b (hb : BlkC (.slice a11 cs0.length c11) ps11 b) => (show w9.heap.size ≤ b ∧ b < w11.heap.size by have h := (blkC_ge OO11.out) b hb; first | exact h | (simp at h; exact h)))
  have k13_0 : w11.cell? ⟨w.heap.size, 0, none⟩ = some (.slice aa1 fs1.length ca1) := (X12.out).2 0
  have kl13 := (X12.out).1
  go_wp2_with fail
  refine (laws_toTree _ fs1 _ _ (HR1.out.below (bt Bw11.out (by (repeat (with_reducible first | exact Below.refl _ _ | assumption | refine ba ?_ _ | refine bd ?_ | refine bdN ?_ _ | refine bs ?_ (by first | exact Nat.le_refl _ | (dsimp only; omega) | (simp; done)) _ | refine bt ?_ (by assumption)))))) HL1.out).mono ?_
  rintro _ w14 ⟨v14, ps14, rfl, hps14, ho14, hb14⟩
  clear k13_0 kl13
  have hs14 : Below w11.heap.size w11 w14 := by (repeat (with_reducible first | exact Below.refl _ _ | assumption | refine ba ?_ _ | refine bd ?_ | refine bdN ?_ _ | refine bs ?_ (by first | exact Nat.le_refl _ | (dsimp only; omega) | (simp; done)) _ | refine bt ?_ (by assumption)))
  have Bw14 := Lib.hid (bt Bw11.out hs14)
  have BW14 := Lib.hid (bt BW11.out hs14)
  have X15 := Lib.hid (X12.out.below hs14)
  have J16 := Lib.hid (I11.out.below hs14)
  have Q16 := Lib.hid (OO11.out.below hs14)
  clear Bw11 BW11 X12 I11 OO11
  have Hz14 := Lib.hid (show w11.heap.size ≤ w14.heap.size by have h := hb14.size; first | omega | (simp at h; omega))
  obtain ⟨a14, c14, rfl⟩ := ho14.len
  have hpl14 : ps14.length = fs1.length := (by rw [← hps14, List.length_map])
  rw [hpl14] at ho14 ⊢
  have I14 := Lib.hid (show FilsIn w14 (fun _ => True) (.slice a14 fs1.length c14) fs1 by have h := ho14.fils (D := (fun _ => True)) (fun _ _ => trivial); rw [hps14] at h; exact h)
  have O14 := Lib.hid ho14
  have Hps14 := Lib.hid hps14
  clear ho14 hps14
  have OO14 := Lib.hid (O14.out.mono (show w11.heap.size ≤ _ by simp))
  clear O14
  have Hv14 := Lib.hid (fun b (hb : BlkF (.slice a14 fs1.length c14) ps14 b) => (show w11.heap.size ≤ b ∧ b < w14.heap.size by have h := (blkF_ge OO14.out.1 (fun p hp => ⟨_, _, _, _, OO14.out.2.1 p hp⟩)) b hb; first | exact h | (simp at h; exact h)))
  go_wp2_with fail
  refine (impl_PruneStore _ cs0 _ _ _ fs1 _ _ _ (Q16.out.below (by (repeat (with_reducible first | exact Below.refl _ _ | assumption | refine ba ?_ _ | refine bd ?_ | refine bdN ?_ _ | refine bs ?_ (by first | exact Nat.le_refl _ | (dsimp only; omega) | (simp; done)) _ | refine bt ?_ (by assumption))))).rows Hps11.out HSS0.out HL0.out (OO14.out.below (by (repeat (with_reducible first | exact Below.refl _ _ | assumption | refine ba ?_ _ | refine bd ?_ | refine bdN ?_ _ | refine bs ?_ (by first | exact Nat.le_refl _ | (dsimp only; omega) | (simp; done)) _ | refine bt ?_ (by assumption))))).rows Hps14.out HT1.out HL1.out).mono ?_
  rintro _ w17 ⟨v17_0, ps17_0, rfl, hps17_0, ho17_0, hb17⟩
  have hs17 : Below w14.heap.size w14 w17 := by (repeat (with_reducible first | exact Below.refl _ _ | assumption | refine ba ?_ _ | refine bd ?_ | refine bdN ?_ _ | refine bs ?_ (by first | exact Nat.le_refl _ | (dsimp only; omega) | (simp; done)) _ | refine bt ?_ (by assumption)))
  have Bw17 := Lib.hid (bt Bw14.out hs17)
  have BW17 := Lib.hid (bt BW14.out hs17)
  have X18 := Lib.hid (X15.out.below hs17)
  have X19 := Lib.hid (show BoxC w17 (w14.heap.size) #[.slice a14 fs1.length c14] from ((BoxC.start w14 #[.slice a14 fs1.length c14] 33).below hb17).at (by simp))
  have J20 := Lib.hid (J16.out.below hs17)
  have Q20 := Lib.hid (Q16.out.below hs17)
  have J21 := Lib.hid (I14.out.below hs17)
  have Q21 := Lib.hid (OO14.out.below hs17)
  clear Bw14 BW14 X15 J16 Q16 I14 OO14
  have Hz17 := Lib.hid (show w14.heap.size + 1 ≤ w17.heap.size by have h := hb17.size; first | omega | (simp at h; omega))
  try rw [← HG0.out]
  try rw [← HG0.out] at hps17_0
  try rw [← HG0.out] at ho17_0
  obtain ⟨a17_0, c17_0, rfl⟩ := ho17_0.len
  have hpl17_0 : ps17_0.length = g0.length := (by rw [← hps17_0, List.length_map])
  rw [hpl17_0] at ho17_0 ⊢
  have I17_0 := Lib.hid (show CmpsIn w17 (fun _ => True) (.slice a17_0 g0.length c17_0) g0 by have h := ho17_0.fils (D := (fun _ => True)) (fun _ _ => trivial); rw [hps17_0] at h; exact h)
  have O17_0 := Lib.hid ho17_0
  have Hps17_0 := Lib.hid hps17_0
  clear ho17_0 hps17_0
  have OO17_0 := Lib.hid (O17_0.out.mono (show w14.heap.size + 1 ≤ _ by simp))
  clear O17_0
  have Hv22 := Lib.hid (fun b (hb : BlkC (.slice a17_0 g0.length c17_0) ps17_0 b) => (show w14.heap.size + 1 ≤ b ∧ b < w17.heap.size by have h := (blkC_ge OO17_0.out) b hb; first | exact h | (simp at h; exact h)))
  go_wp2_with fail
  refine (laws_eqCompiledS _ _ g0 g0 (fun _ => True) (fun _ => True) _ (I17_0.out.below (by (repeat (with_reducible first | exact Below.refl _ _ | assumption | refine ba ?_ _ | refine bd ?_ | refine bdN ?_ _ | refine bs ?_ (by first | exact Nat.le_refl _ | (dsimp only; omega) | (simp; done)) _ | refine bt ?_ (by assumption))))) (IW0.out.below (bt BW17.out (by (repeat (with_reducible first | exact Below.refl _ _ | assumption | refine ba ?_ _ | refine bd ?_ | refine bdN ?_ _ | refine bs ?_ (by first | exact Nat.le_refl _ | (dsimp only; omega) | (simp; done)) _ | refine bt ?_ (by assumption))))))).mono ?_
  rintro _ w23 ⟨rfl, hb23⟩
  have hs23 : Below w17.heap.size w17 w23 := by (repeat (with_reducible first | exact Below.refl _ _ | assumption | refine ba ?_ _ | refine bd ?_ | refine bdN ?_ _ | refine bs ?_ (by first | exact Nat.le_refl _ | (dsimp only; omega) | (simp; done)) _ | refine bt ?_ (by assumption)))
  have Bw23 := Lib.hid (bt Bw17.out hs23)
  have BW23 := Lib.hid (bt BW17.out hs23)
  have X24 := Lib.hid (X18.out.below hs23)
  have X25 := Lib.hid (X19.out.below hs23)
  have J26 := Lib.hid (J20.out.below hs23)
  have Q26 := Lib.hid (Q20.out.below hs23)
  have J27 := Lib.hid (J21.out.below hs23)
  have Q27 := Lib.hid (Q21.out.below hs23)
  have J28 := Lib.hid (I17_0.out.below hs23)
  have Q28 := Lib.hid (OO17_0.out.below hs23)
  clear Bw17 BW17 X18 X19 J20 Q20 J21 Q21 I17_0 OO17_0
  rw [Hsg0.out]
  go_wp2_with fail
  refine (laws_toCompiledS _ cs0 _ _ (HR0.out.below (bt Bw23.out (by (repeat (with_reducible first | exact Below.refl _ _ | assumption | refine ba ?_ _ | refine bd ?_ | refine bdN ?_ _ | refine bs ?_ (by first | exact Nat.le_refl _ | (dsimp only; omega) | (simp; done)) _ | refine bt ?_ (by assumption)))))) HL0.out).mono ?_
  rintro _ w29 ⟨v29, ps29, rfl, hps29, ho29, hb29⟩
  have hs29 : Below w23.heap.size w23 w29 := by (repeat (with_reducible first | exact Below.refl _ _ | assumption | refine ba ?_ _ | refine bd ?_ | refine bdN ?_ _ | refine bs ?_ (by first | exact Nat.le_refl _ | (dsimp only; omega) | (simp; done)) _ | refine bt ?_ (by assumption)))
  have Bw29 := Lib.hid (bt Bw23.out hs29)
  have BW29 := Lib.hid (bt BW23.out hs29)
  have X30 := Lib.hid (X24.out.below hs29)
  have X31 := Lib.hid (X25.out.below hs29)
  have J32 := Lib.hid (J26.out.below hs29)
  have Q32 := Lib.hid (Q26.out.below hs29)
  have J33 := Lib.hid (J27.out.below hs29)
  have Q33 := Lib.hid (Q27.out.below hs29)
  have J34 := Lib.hid (J28.out.below hs29)
  have Q34 := Lib.hid (Q28.out.below hs29)
  clear Bw23 BW23 X24 X25 J26 Q26 J27 Q27 J28 Q28
  obtain ⟨a29, c29, rfl⟩ := ho29.len
  have hpl29 : ps29.length = cs0.length := (by rw [← hps29, List.length_map])
  rw [hpl29] at ho29 ⊢
  have I29 := Lib.hid (show CmpsIn w29 (fun _ => True) (.slice a29 cs0.length c29) cs0 by have h := ho29.fils (D := (fun _ => True)) (fun _ _ => trivial); rw [hps29] at h; exact h)
  have O29 := Lib.hid ho29
  have Hps29 := Lib.hid hps29
  clear ho29 hps29
  go_wp2_with fail
  refine (laws_eqCompiledS _ _ cs0 cs0 (fun _ => True) (fun _ => True) _ (J32.out.below (by (repeat (with_reducible first | exact Below.refl _ _ | assumption | refine ba ?_ _ | refine bd ?_ | refine bdN ?_ _ | refine bs ?_ (by first | exact Nat.le_refl _ | (dsimp only; omega) | (simp; done)) _ | refine bt ?_ (by assumption))))) (I29.out.below (by (repeat (with_reducible first | exact Below.refl _ _ | assumption | refine ba ?_ _ | refine bd ?_ | refine bdN ?_ _ | refine bs ?_ (by first | exact Nat.le_refl _ | (dsimp only; omega) | (simp; done)) _ | refine bt ?_ (by assumption)))))).mono ?_
  rintro _ w35 ⟨rfl, hb35⟩
  have hs35 : Below w29.heap.size w29 w35 := by (repeat (with_reducible first | exact Below.refl _ _ | assumption | refine ba ?_ _ | refine bd ?_ | refine bdN ?_ _ | refine bs ?_ (by first | exact Nat.le_refl _ | (dsimp only; omega) | (simp; done)) _ | refine bt ?_ (by assumption)))
  have Bw35 := Lib.hid (bt Bw29.out hs35)
  have BW35 := Lib.hid (bt BW29.out hs35)
  have X36 := Lib.hid (X30.out.below hs35)
  have X37 := Lib.hid (X31.out.below hs35)
  have J38 := Lib.hid (J32.out.below hs35)
  have Q38 := Lib.hid (Q32.out.below hs35)
  have J39 := Lib.hid (J33.out.below hs35)
  have Q39 := Lib.hid (Q33.out.below hs35)
  have J40 := Lib.hid (J34.out.below hs35)
  have Q40 := Lib.hid (Q34.out.below hs35)
  clear Bw29 BW29 X30 X31 J32 Q32 J33 Q33 J34 Q34
  rw [Hse0.out]
  have Hk41 := Lib.hid (fun (w' : World) (hC : Below w35.heap.size w35 w') => (⟨((X36.out).below hC).2 0, ((X37.out).below hC).2 0, hC⟩ : w'.cell? ⟨w.heap.size, 0, none⟩ = some (.slice aa1 fs1.length ca1) ∧ w'.cell? ⟨w14.heap.size, 0, none⟩ = some (.slice a14 fs1.length c14) ∧ Below w35.heap.size w35 w'))
  have HPHk41 := Lib.hid (HR1.out.below Bw35.out)
  go_wp2_with fail
  go_region_held3 (fun w' => w'.cell? ⟨w.heap.size, 0, none⟩ = some (.slice aa1 fs1.length ca1) ∧ w'.cell? ⟨w14.heap.size, 0, none⟩ = some (.slice a14 fs1.length c14) ∧ Below w35.heap.size w35 w')
    (exact Hk41.out _ (by (repeat (with_reducible first | exact Below.refl _ _ | assumption | refine ba ?_ _ | refine bd ?_ | refine bdN ?_ _ | refine bs ?_ (by first | exact Nat.le_refl _ | (dsimp only; omega) | (simp; done)) _ | refine bt ?_ (by assumption)))))
    (first
      | (go_at_call 18; refine (laws_toTree _ fs1 _ _ (HPHk41.out.below (by (repeat (with_reducible first | exact Below.refl _ _ | assumption | refine ba ?_ _ | refine bd ?_ | refine bdN ?_ _ | refine bs ?_ (by first | exact Nat.le_refl _ | (dsimp only; omega) | (simp; done)) _ | refine bt ?_ (by assumption))))) HL1.out).mono ?_; rintro _ w42 ⟨v42, ps42, rfl, hps42, ho42, hb42⟩; obtain ⟨a42, c42, rfl⟩ := ho42.len; have hpl42 : ps42.length = fs1.length := (by rw [← hps42, List.length_map]); rw [hpl42] at ho42 ⊢; have I42 := Lib.hid (show FilsIn w42 (fun _ => True) (.slice a42 fs1.length c42) fs1 by have h := ho42.fils (D := (fun _ => True)) (fun _ _ => trivial); rw [hps42] at h; exact h); have O42 := Lib.hid ho42; have Hps42 := Lib.hid hps42; clear ho42 hps42)
      | (go_at_call 21; refine (laws_eqTree _ _ fs1 fs1 (fun _ => True) (fun _ => True) _ (J39.out.below (by (repeat (with_reducible first | exact Below.refl _ _ | assumption | refine ba ?_ _ | refine bd ?_ | refine bdN ?_ _ | refine bs ?_ (by first | exact Nat.le_refl _ | (dsimp only; omega) | (simp; done)) _ | refine bt ?_ (by assumption))))) (I42.out.below (by (repeat (with_reducible first | exact Below.refl _ _ | assumption | refine ba ?_ _ | refine bd ?_ | refine bdN ?_ _ | refine bs ?_ (by first | exact Nat.le_refl _ | (dsimp only; omega) | (simp; done)) _ | refine bt ?_ (by assumption)))))).mono ?_; rintro _ w43 ⟨rfl, hb43⟩; rw [Hse1.out]))
  have hs43 : Below w35.heap.size w35 w43 := by (repeat (with_reducible first | exact Below.refl _ _ | assumption | refine ba ?_ _ | refine bd ?_ | refine bdN ?_ _ | refine bs ?_ (by first | exact Nat.le_refl _ | (dsimp only; omega) | (simp; done)) _ | refine bt ?_ (by assumption)))
  have Bw43 := Lib.hid (bt Bw35.out hs43)
  have BW43 := Lib.hid (bt BW35.out hs43)
  have X44 := Lib.hid (X36.out.below hs43)
  have X45 := Lib.hid (X37.out.below hs43)
  have J46 := Lib.hid (J38.out.below hs43)
  have Q46 := Lib.hid (Q38.out.below hs43)
  have J47 := Lib.hid (J39.out.below hs43)
  have Q47 := Lib.hid (Q39.out.below hs43)
  have J48 := Lib.hid (J40.out.below hs43)
  have Q48 := Lib.hid (Q40.out.below hs43)
  clear Bw35 BW35 X36 X37 J38 Q38 J39 Q39 J40 Q40
  go_wp2_with fail
  have hkk : 1 ≤ 1 := by omega
  refine (laws_markCompiledS (w9.heap.size) _ ps11 1 _ (Q46.out.below (by (repeat (with_reducible first | exact Below.refl _ _ | assumption | refine ba ?_ _ | refine bd ?_ | refine bdN ?_ _ | refine bs ?_ (by first | exact Nat.le_refl _ | (dsimp only; omega) | (simp; done)) _ | refine bt ?_ (by assumption))))) hkk (by rw [Hps11.out]; have := HE0.out 1; omega) (by omega)).mono ?_
  rintro _ w49 ⟨rfl, _, ht49⟩
  have Ht49 := Lib.hid ht49
  clear ht49
  have BW49 := Lib.hid (BW43.out.trans (Ht49.out.below BW43.out.size (fun b hb => by have := (Hv11.out b hb).1; have := Hpl1.out; have := HWs.out; have := Hz11.out; have := Hz14.out; have := Hz17.out; omega)))
  have Bw49 := Lib.hid (show Below w.heap.size w w49 from HwW.out.trans (BW49.out.mono HwW.out.size))
  have X50 := Lib.hid (X44.out.turned Ht49.out (fun hb => by have := Hv11.out _ hb; have := Hpl1.out; have := HWs.out; have := Hz11.out; have := Hz14.out; have := Hz17.out; omega))
  have X51 := Lib.hid (X45.out.turned Ht49.out (fun hb => by have := Hv11.out _ hb; have := Hpl1.out; have := HWs.out; have := Hz11.out; have := Hz14.out; have := Hz17.out; omega))
  have Q52 := Lib.hid (fils_turned Q47.out Ht49.out (fun b hb hS => by have := Hv11.out b hS; have := Hv14.out b hb; have := Hpl1.out; have := HWs.out; have := Hz11.out; have := Hz14.out; have := Hz17.out; omega))
  have Q53 := Lib.hid (cmps_turned Q48.out Ht49.out (fun b hb hS => by have := Hv11.out b hS; have := Hv22.out b hb; have := Hpl1.out; have := HWs.out; have := Hz11.out; have := Hz14.out; have := Hz17.out; omega))
  clear Bw43 BW43 X44 X45 J46 Q46 J47 Q47 J48 Q48
  clear hkk
  obtain ⟨K54, hK54⟩ : ∃ K, K = endC 1 (ps11.map (·.1)) := ⟨_, rfl⟩
  have hK54b : 1 ≤ K54 ∧ K54 ≤ 1 + 7 * C0 := by rw [hK54]; exact ⟨endC_mono _ _, by rw [Hps11.out]; exact HE0.out 1⟩
  rw [← hK54]
  have HK54 := Lib.hid hK54
  clear hK54
  have k55_0 : w49.cell? ⟨w14.heap.size, 0, none⟩ = some (.slice a14 fs1.length c14) := (X51.out).2 0
  have kl55 := (X51.out).1
  go_wp2_with fail
  have hkk : 1 ≤ K54 := by omega
  refine (laws_markTree (w11.heap.size) _ ps14 K54 _ (Q52.out.below (by (repeat (with_reducible first | exact Below.refl _ _ | assumption | refine ba ?_ _ | refine bd ?_ | refine bdN ?_ _ | refine bs ?_ (by first | exact Nat.le_refl _ | (dsimp only; omega) | (simp; done)) _ | refine bt ?_ (by assumption))))) hkk (by rw [Hps14.out]; have := HE1.out K54; omega) (by omega)).mono ?_
  rintro _ w56 ⟨rfl, _, ht56⟩
  clear k55_0 kl55
  have Ht56 := Lib.hid ht56
  clear ht56
  have BW56 := Lib.hid (BW49.out.trans (Ht56.out.below BW49.out.size (fun b hb => by have := (Hv14.out b hb).1; have := Hpl1.out; have := HWs.out; have := Hz11.out; have := Hz14.out; have := Hz17.out; omega)))
  have Bw56 := Lib.hid (show Below w.heap.size w w56 from HwW.out.trans (BW56.out.mono HwW.out.size))
  have X57 := Lib.hid (X50.out.turned Ht56.out (fun hb => by have := Hv14.out _ hb; have := Hpl1.out; have := HWs.out; have := Hz11.out; have := Hz14.out; have := Hz17.out; omega))
  have X58 := Lib.hid (X51.out.turned Ht56.out (fun hb => by have := Hv14.out _ hb; have := Hpl1.out; have := HWs.out; have := Hz11.out; have := Hz14.out; have := Hz17.out; omega))
  have Q59 := Lib.hid (cmps_turned Q53.out Ht56.out (fun b hb hS => by have := Hv14.out b hS; have := Hv22.out b hb; have := Hpl1.out; have := HWs.out; have := Hz11.out; have := Hz14.out; have := Hz17.out; omega))
  clear Bw49 BW49 X50 X51 Q52 Q53
  clear hkk
  obtain ⟨K60, hK60⟩ : ∃ K, K = endF K54 (ps14.map (·.1)) := ⟨_, rfl⟩
  have hK60b : K54 ≤ K60 ∧ K60 ≤ K54 + 5 * C1 := by rw [hK60]; exact ⟨endF_mono _ _, by rw [Hps14.out]; exact HE1.out K54⟩
  rw [← hK60]
  have HK60 := Lib.hid hK60
  clear hK60
  have hk0 : ¬ ((K60 : Nat) : Int) < 0 := Int.not_lt.2 (Int.natCast_nonneg _)
  have I_61 := Lib.hid (show CmpsIn w56 (fun _ => True) (.slice a17_0 g0.length c17_0) g0 by have h := Q59.out.fils (D := (fun _ => True)) (fun _ _ => trivial); rw [Hps17_0.out] at h; exact h)
  go_wp2_with fail
  refine (laws_eqCompiledS _ _ g0 g0 (fun _ => True) (fun _ => True) _ (I_61.out.below (by (repeat (with_reducible first | exact Below.refl _ _ | assumption | refine ba ?_ _ | refine bd ?_ | refine bdN ?_ _ | refine bs ?_ (by first | exact Nat.le_refl _ | (dsimp only; omega) | (simp; done)) _ | refine bt ?_ (by assumption))))) (IW0.out.below (bt BW56.out (by (repeat (with_reducible first | exact Below.refl _ _ | assumption | refine ba ?_ _ | refine bd ?_ | refine bdN ?_ _ | refine bs ?_ (by first | exact Nat.le_refl _ | (dsimp only; omega) | (simp; done)) _ | refine bt ?_ (by assumption))))))).mono ?_
  rintro _ w62 ⟨rfl, hb62⟩
  clear hk0
  have hs62 : Below w56.heap.size w56 w62 := by (repeat (with_reducible first | exact Below.refl _ _ | assumption | refine ba ?_ _ | refine bd ?_ | refine bdN ?_ _ | refine bs ?_ (by first | exact Nat.le_refl _ | (dsimp only; omega) | (simp; done)) _ | refine bt ?_ (by assumption)))
  have Bw62 := Lib.hid (bt Bw56.out hs62)
  have BW62 := Lib.hid (bt BW56.out hs62)
  have X63 := Lib.hid (X57.out.below hs62)
  have J64 := Lib.hid (I_61.out.below hs62)
  have Q64 := Lib.hid (Q59.out.below hs62)
  clear Bw56 BW56 X57 I_61 Q59
  rw [Hsg0.out]
  go_wp2_with fail
  have hkk : 1 ≤ 1 := by omega
  refine (laws_markCompiledS (w14.heap.size + 1) _ ps17_0 1 _ (Q64.out.below (by (repeat (with_reducible first | exact Below.refl _ _ | assumption | refine ba ?_ _ | refine bd ?_ | refine bdN ?_ _ | refine bs ?_ (by first | exact Nat.le_refl _ | (dsimp only; omega) | (simp; done)) _ | refine bt ?_ (by assumption))))) hkk (by rw [Hps17_0.out]; have := Hgb0.out 1; omega) (by omega)).mono ?_
  rintro _ w65 ⟨rfl, hm65, ht65⟩
  have M65 := Lib.hid (show CmpsIn w65 (fun _ => True) _ (marksC 1 g0) by have h := hm65.fils (D := (fun _ => True)) (fun _ _ => trivial); rw [markR_fst, Hps17_0.out] at h; exact h)
  clear hm65
  have Ht65 := Lib.hid ht65
  clear ht65
  have BW65 := Lib.hid (BW62.out.trans (Ht65.out.below BW62.out.size (fun b hb => by have := (Hv22.out b hb).1; have := Hpl1.out; have := HWs.out; have := Hz11.out; have := Hz14.out; have := Hz17.out; omega)))
  have Bw65 := Lib.hid (show Below w.heap.size w w65 from HwW.out.trans (BW65.out.mono HwW.out.size))
  have X66 := Lib.hid (X63.out.turned Ht65.out (fun hb => by have := Hv22.out _ hb; have := Hpl1.out; have := HWs.out; have := Hz11.out; have := Hz14.out; have := Hz17.out; omega))
  clear Bw62 BW62 X63 J64 Q64
  clear hkk
  rw [Hps17_0.out]
  obtain ⟨K67, hK67⟩ : ∃ K, K = endC 1 g0 := ⟨_, rfl⟩
  have hK67b : 1 ≤ K67 ∧ K67 ≤ 1 + 1000 := by rw [hK67]; exact ⟨endC_mono _ _, by have := Hgb0.out 1; omega⟩
  rw [← hK67]
  have HK67 := Lib.hid hK67
  clear hK67
  go_wp2_with fail
  refine (laws_heldCompiledS _ (fun _ => True) g0 1 _ (M65.out.below (by (repeat (with_reducible first | exact Below.refl _ _ | assumption | refine ba ?_ _ | refine bd ?_ | refine bdN ?_ _ | refine bs ?_ (by first | exact Nat.le_refl _ | (dsimp only; omega) | (simp; done)) _ | refine bt ?_ (by assumption))))) (by omega) (by have := Hgb0.out 1; omega) (by omega)).mono ?_
  rintro _ w68 ⟨rfl, hb68⟩
  have hs68 : Below w65.heap.size w65 w68 := by (repeat (with_reducible first | exact Below.refl _ _ | assumption | refine ba ?_ _ | refine bd ?_ | refine bdN ?_ _ | refine bs ?_ (by first | exact Nat.le_refl _ | (dsimp only; omega) | (simp; done)) _ | refine bt ?_ (by assumption)))
  have Bw68 := Lib.hid (bt Bw65.out hs68)
  have BW68 := Lib.hid (bt BW65.out hs68)
  have X69 := Lib.hid (X66.out.below hs68)
  have N70 := Lib.hid (M65.out.below hs68)
  clear Bw65 BW65 X66 M65
  rw [← HK67.out]
  have hk0 : ¬ ((K67 : Nat) : Int) < 0 := Int.not_lt.2 (Int.natCast_nonneg _)
  clear hk0
  have Hk71 := Lib.hid (fun (w' : World) (hC : Below w68.heap.size w68 w') => (⟨((X69.out).below hC).2 0, hC⟩ : w'.cell? ⟨w.heap.size, 0, none⟩ = some (.slice aa1 fs1.length ca1) ∧ Below w68.heap.size w68 w'))
  have HPHk71_0 := Lib.hid (HR0.out.below Bw68.out)
  have HPHk71_1 := Lib.hid (HR1.out.below Bw68.out)
  go_wp2_with fail
  go_region_held3 (fun w' => w'.cell? ⟨w.heap.size, 0, none⟩ = some (.slice aa1 fs1.length ca1) ∧ Below w68.heap.size w68 w')
    (exact Hk71.out _ (by (repeat (with_reducible first | exact Below.refl _ _ | assumption | refine ba ?_ _ | refine bd ?_ | refine bdN ?_ _ | refine bs ?_ (by first | exact Nat.le_refl _ | (dsimp only; omega) | (simp; done)) _ | refine bt ?_ (by assumption)))))
    (first
      | (go_at_call 17; refine (laws_toCompiledS _ cs0 _ _ (HPHk71_0.out.below (by (repeat (with_reducible first | exact Below.refl _ _ | assumption | refine ba ?_ _ | refine bd ?_ | refine bdN ?_ _ | refine bs ?_ (by first | exact Nat.le_refl _ | (dsimp only; omega) | (simp; done)) _ | refine bt ?_ (by assumption))))) HL0.out).mono ?_; rintro _ w72 ⟨v72, ps72, rfl, hps72, ho72, hb72⟩; obtain ⟨a72, c72, rfl⟩ := ho72.len; have hpl72 : ps72.length = cs0.length := (by rw [← hps72, List.length_map]); rw [hpl72] at ho72 ⊢; have I72 := Lib.hid (show CmpsIn w72 (fun _ => True) (.slice a72 cs0.length c72) cs0 by have h := ho72.fils (D := (fun _ => True)) (fun _ _ => trivial); rw [hps72] at h; exact h); have O72 := Lib.hid ho72; have Hps72 := Lib.hid hps72; clear ho72 hps72)
      | (go_at_call 18; refine (laws_toTree _ fs1 _ _ (HPHk71_1.out.below (by (repeat (with_reducible first | exact Below.refl _ _ | assumption | refine ba ?_ _ | refine bd ?_ | refine bdN ?_ _ | refine bs ?_ (by first | exact Nat.le_refl _ | (dsimp only; omega) | (simp; done)) _ | refine bt ?_ (by assumption))))) HL1.out).mono ?_; rintro _ w73 ⟨v73, ps73, rfl, hps73, ho73, hb73⟩; obtain ⟨a73, c73, rfl⟩ := ho73.len; have hpl73 : ps73.length = fs1.length := (by rw [← hps73, List.length_map]); rw [hpl73] at ho73 ⊢; have I73 := Lib.hid (show FilsIn w73 (fun _ => True) (.slice a73 fs1.length c73) fs1 by have h := ho73.fils (D := (fun _ => True)) (fun _ _ => trivial); rw [hps73] at h; exact h); have O73 := Lib.hid ho73; have Hps73 := Lib.hid hps73; clear ho73 hps73)
      | (go_at_call 19; refine (impl_PruneStore _ cs0 _ _ _ fs1 _ _ _ (O72.out.below (by (repeat (with_reducible first | exact Below.refl _ _ | assumption | refine ba ?_ _ | refine bd ?_ | refine bdN ?_ _ | refine bs ?_ (by first | exact Nat.le_refl _ | (dsimp only; omega) | (simp; done)) _ | refine bt ?_ (by assumption))))).rows Hps72.out HSS0.out HL0.out (O73.out.below (by (repeat (with_reducible first | exact Below.refl _ _ | assumption | refine ba ?_ _ | refine bd ?_ | refine bdN ?_ _ | refine bs ?_ (by first | exact Nat.le_refl _ | (dsimp only; omega) | (simp; done)) _ | refine bt ?_ (by assumption))))).rows Hps73.out HT1.out HL1.out).mono ?_; rintro _ w74 ⟨v74_0, ps74_0, rfl, hps74_0, ho74_0, hb74⟩; (try rw [← HG0.out]); (try rw [← HG0.out] at hps74_0); (try rw [← HG0.out] at ho74_0); obtain ⟨a74_0, c74_0, rfl⟩ := ho74_0.len; have hpl74_0 : ps74_0.length = g0.length := (by rw [← hps74_0, List.length_map]); rw [hpl74_0] at ho74_0 ⊢; have I74_0 := Lib.hid (show CmpsIn w74 (fun _ => True) (.slice a74_0 g0.length c74_0) g0 by have h := ho74_0.fils (D := (fun _ => True)) (fun _ _ => trivial); rw [hps74_0] at h; exact h); have O74_0 := Lib.hid ho74_0; have Hps74_0 := Lib.hid hps74_0; clear ho74_0 hps74_0))
  have hs74 : Below w68.heap.size w68 w74 := by (repeat (with_reducible first | exact Below.refl _ _ | assumption | refine ba ?_ _ | refine bd ?_ | refine bdN ?_ _ | refine bs ?_ (by first | exact Nat.le_refl _ | (dsimp only; omega) | (simp; done)) _ | refine bt ?_ (by assumption)))
  have Bw74 := Lib.hid (bt Bw68.out hs74)
  have BW74 := Lib.hid (bt BW68.out hs74)
  have X75 := Lib.hid (X69.out.below hs74)
  have N76 := Lib.hid (N70.out.below hs74)
  clear Bw68 BW68 X69 N70
  go_wp2_with fail
  refine (laws_eqCompiledS _ _ g0 g0 (fun _ => True) (fun _ => True) _ (I74_0.out.below (by (repeat (with_reducible first | exact Below.refl _ _ | assumption | refine ba ?_ _ | refine bd ?_ | refine bdN ?_ _ | refine bs ?_ (by first | exact Nat.le_refl _ | (dsimp only; omega) | (simp; done)) _ | refine bt ?_ (by assumption))))) (IW0.out.below (bt BW74.out (by (repeat (with_reducible first | exact Below.refl _ _ | assumption | refine ba ?_ _ | refine bd ?_ | refine bdN ?_ _ | refine bs ?_ (by first | exact Nat.le_refl _ | (dsimp only; omega) | (simp; done)) _ | refine bt ?_ (by assumption))))))).mono ?_
  rintro _ w77 ⟨rfl, hb77⟩
  have hs77 : Below w74.heap.size w74 w77 := by (repeat (with_reducible first | exact Below.refl _ _ | assumption | refine ba ?_ _ | refine bd ?_ | refine bdN ?_ _ | refine bs ?_ (by first | exact Nat.le_refl _ | (dsimp only; omega) | (simp; done)) _ | refine bt ?_ (by assumption)))
  have Bw77 := Lib.hid (bt Bw74.out hs77)
  have BW77 := Lib.hid (bt BW74.out hs77)
  have X78 := Lib.hid (X75.out.below hs77)
  have J79 := Lib.hid (I74_0.out.below hs77)
  have N80 := Lib.hid (N76.out.below hs77)
  clear Bw74 BW74 X75 I74_0 N76
  rw [Hsg0.out]
  go_wp2_with fail
  refine (laws_heldCompiledS _ (fun _ => True) g0 1 _ (N80.out.below (by (repeat (with_reducible first | exact Below.refl _ _ | assumption | refine ba ?_ _ | refine bd ?_ | refine bdN ?_ _ | refine bs ?_ (by first | exact Nat.le_refl _ | (dsimp only; omega) | (simp; done)) _ | refine bt ?_ (by assumption))))) (by omega) (by have := Hgb0.out 1; omega) (by omega)).mono ?_
  rintro _ w81 ⟨rfl, hb81⟩
  have hs81 : Below w77.heap.size w77 w81 := by (repeat (with_reducible first | exact Below.refl _ _ | assumption | refine ba ?_ _ | refine bd ?_ | refine bdN ?_ _ | refine bs ?_ (by first | exact Nat.le_refl _ | (dsimp only; omega) | (simp; done)) _ | refine bt ?_ (by assumption)))
  have Bw81 := Lib.hid (bt Bw77.out hs81)
  have BW81 := Lib.hid (bt BW77.out hs81)
  have X82 := Lib.hid (X78.out.below hs81)
  have J83 := Lib.hid (J79.out.below hs81)
  have N84 := Lib.hid (N80.out.below hs81)
  clear Bw77 BW77 X78 J79 N80
  rw [← HK67.out]
  have hk0 : ¬ ((K67 : Nat) : Int) < 0 := Int.not_lt.2 (Int.natCast_nonneg _)
  go_wp2_with fail
  go_ret
  exact ⟨rfl, Bw81.out⟩

/-! ### THE STEP TO THE ROW -/
set_option maxRecDepth 100000 in
theorem lifted (os : Os) (started : os.Started) (H : Type) (enc : TypeId × Value → H) :
    ReturnsInHanded {} Try.checked os 3 .any (Rows.fnExactPruneStoreSpec.pre6 enc Try.prog Try.f3 Rows.fnExactPruneStoreRow.domain false) (Rows.fnExactPruneStoreSpec.post enc Try.prog Try.f3 false true false false) := by
  refine returnsInHanded_of_change (C := Try.checked) own started (by kernel_rfl) Try.func3
    (ChangeSpec.witness6 (enc := enc) (C := Try.checked) false ⟨#[], #[.slice none 0 0, .agg #[.slice none 0 0]], []⟩ 8 (by kernel_rfl) (by kernel_rfl) (by kernel_rfl) (by kernel_rfl)) ?_
  intro W base args ds gs before hval0 hW hcnd _
  have hval : ∀ (j : Nat) t v, Try.f3.params[j]? = some t → args[j]? = some v → Value.okWide Try.prog W .any base t v := hval0
  have hW' := hW
  obtain ⟨p, q, hA0, hV, rfl, hfz, hnd⟩ := hW
  have hA : DataW.TrodAll enc Try.prog W 0 (fun _ => true) true Try.f3.params.toList args.toList ds p := hA0
  rw [Try.params3] at hA hval
  obtain ⟨v0, vs0, d0, ds0, p0, q0, hargs, rfl, rfl, h0, r0⟩ := trodAll_cons hA
  obtain ⟨v1, vs1, d1, ds1, p1, q1, rfl, rfl, rfl, h1, r1⟩ := trodAll_cons r0
  obtain ⟨rfl, rfl, rfl⟩ := trodAll_nil r1
  obtain rfl : args = #[v0, v1] := by cases args; simp_all
  obtain ⟨rfl, rfl⟩ := trodVars_none hV
  obtain ⟨a0, len0, cap0, rfl⟩ := okWide_slice Try.underlying22 (hval 0 22 v0 rfl rfl)
  have k0 := h0
  have lt0 : ∀ x ∈ p0, x.block < W.heap.size := by obtain ⟨m, hm⟩ := k0; exact DataW.trod_lt m _ _ _ hm
  obtain ⟨xs0, w0⟩ : ∃ ss, CmpsIn W (fun _ => True) (.slice a0 len0 cap0) ss ∧ ShortCs maxLen ss := by
    obtain ⟨fuel, hf⟩ := h0
    obtain ⟨a', len', cap', ss, e0, _, e1, e2⟩ := read_cmps hf
    simp [Value.cells] at e0
    obtain ⟨rfl, rfl, rfl⟩ := e0
    exact ⟨ss, e1, e2⟩
  obtain ⟨cs1, rfl, _⟩ := okWide_struct Try.underlying25 (hval 1 25 v1 rfl rfl)
  have k1 := h1
  have lt1 : ∀ x ∈ p1, x.block < W.heap.size := by obtain ⟨m, hm⟩ := k1; exact DataW.trod_lt m _ _ _ hm
  obtain ⟨xs1, tv1, et1, w1⟩ : ∃ fs tv, cs1 = #[tv] ∧ FilsIn W (fun _ => True) tv fs ∧ ShortT maxLen fs := by
    obtain ⟨fuel, hf⟩ := h1
    obtain ⟨a', len', cap', fs, e0, e1, e2⟩ := read_tree hf
    exact ⟨fs, _, by rw [← Array.toList_inj]; simpa [Value.cells] using e0, e1, e2⟩
  subst et1
  clear hA0 hval0
  refine (walk _ xs0 tv1 xs1 W w0 w1).mono fun e W' ⟨he, bel⟩ => ?_
  subst he
  exact ⟨_, rfl, _, _, _, [], _, [], hW', trodAll_mk1 (shut_bool Try.underlying4 _), (trodAll_cons_mk (Below.trod laidOut (by kernel_rfl) (of_decide_eq_true (by kernel_rfl)) k0 bel lt0) (trodAll_cons_mk (Below.trod laidOut (by kernel_rfl) (of_decide_eq_true (by kernel_rfl)) k1 bel lt1) trodAll_mk0)), rfl, bel.frame _, fun h => by cases h⟩

theorem over : Rows.fnExactPruneStoreRow.holds Try.pinned (OpenSpec.ofChange Rows.fnExactPruneStoreSpec) :=
  OpenClaim.holds_of_wide 3 Try.f3 rfl rfl rfl rfl rfl rfl rfl ⟨rfl, rfl, rfl, rfl, rfl⟩ rfl rfl rfl rfl rfl (by kernel_rfl) Try.func3 (by kernel_rfl)
    (of_decide_eq_true (by kernel_rfl)) (by unfold Func.isWrapper; first | (rw [if_pos (by decide +kernel)]; kernel_rfl) | (rw [if_neg (by decide +kernel)]; exact ⟨rfl, rfl⟩))
    (fun os started H enc _ => lifted os started H enc)

/-- THE STATEMENT -/
theorem proved : Rows.FnExactPruneStoreSaid := over
end Go.Proofs.Ytomdmkhgkaalnaa.FnExactPruneStore
