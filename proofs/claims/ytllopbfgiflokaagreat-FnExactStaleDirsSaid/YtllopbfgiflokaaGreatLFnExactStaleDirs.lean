/- FnExactStaleDirs returns true for every argument. -/
import Derived.Test.YtllopbfgiflokaaGreatSStale
import Derived.Test.YtllopbfgiflokaaGreatDskMem
import Derived.Test.YtllopbfgiflokaaGreatExTools
import Derived.Test.YtllopbfgiflokaaGreatSzTree
import Derived.Test.YtllopbfgiflokaaGreatReadIn
import Derived.Test.YtllopbfgiflokaaGreatHeld
import Derived.Test.YtllopbfgiflokaaGreatMarks2
import Derived.Test.YtllopbfgiflokaaGreatInts
import Derived.Test.YtllopbfgiflokaaGreatStrs
import Derived.Test.YtllopbfgiflokaaGreatFrame
set_option linter.unusedVariables false
set_option linter.unusedSimpArgs false
namespace Go.Proofs.YtllopbfgiflokaaGreat.FnExactStaleDirs
open Go.ChangeShapes Go.WideShapes Go.ChangeAt Go.RowKit Go.Proofs.YtllopbfgiflokaaGreat.Nm

set_option maxRecDepth 100000 in
set_option maxHeartbeats 16000000 in
theorem walk (u0 : Value) (ds0 : List Dr) (fa0 hi0 : Int) (v1 : Value) (fs1 : List Fil) (k1 : Int) (u1 : Value) (ds1 : List Dr) (w : World) (h0 : DirsIn w (fun _ => True) u0 ds0 ∧ ShortD maxLen ds0) (h1 : DskIn w (fun _ => True) v1 fs1 u1 ds1 ∧ ShortK maxLen fs1 ds1) :
    Calls Tryz.prog 3 #[.agg #[u0, .int .i64 fa0, .int .i64 hi0], .agg #[v1, .int .i64 k1, u1]] w fun e w' => e = .returned (.bool true) ∧ Below w.heap.size w w' := by
  obtain ⟨hr0, hz0⟩ := h0
  have HR0 := Lib.hid hr0
  have HZ0 := Lib.hid hz0
  obtain ⟨ab0, cb0, rfl, hld0, hmd0⟩ := hr0.len
  clear hr0 hz0 hmd0 hld0
  obtain ⟨hr1, hz1⟩ := h1
  have HR1 := Lib.hid hr1
  have HZ1 := Lib.hid hz1
  obtain ⟨⟨aa1, ca1, rfl, hlc1, hmc1⟩, ⟨ab1, cb1, rfl, hld1, hmd1⟩⟩ := hr1.len
  clear hr1 hz1 hmc1 hmd1 hlc1 hld1
  obtain ⟨C0, hC0⟩ : ∃ C, C = drsCost ds0 := ⟨_, rfl⟩
  have HC0 := Lib.hid hC0
  clear hC0
  obtain ⟨C1, hC1⟩ : ∃ C, C = dskCost fs1 ds1 := ⟨_, rfl⟩
  have HC1 := Lib.hid hC1
  clear hC1
  obtain ⟨g0, hg0⟩ : ∃ g, g = stale ⟨ds0, fa0, hi0⟩ ⟨fs1, k1, ds1⟩ := ⟨_, rfl⟩
  have hgl : g0.length ≤ 9000000 := by rw [hg0]; exact Nat.le_trans (stale_len _ _) (by omega)
  have HG0 := Lib.hid hg0
  clear hg0
  go_enter Tryz.func3, Tryz.ntmps3
  go_wp2_with fail
  refine (laws_szFinder _ ds0 _ _ _ 1048576 _ (HR0.out.below (by (repeat (with_reducible first | exact Below.refl _ _ | assumption | refine ba ?_ _ | refine bd ?_ | refine bdN ?_ _ | refine bs ?_ (by first | exact Nat.le_refl _ | (dsimp only; omega) | (simp; done)) _ | refine bt ?_ (by assumption))))) HZ0.out (by omega)).mono ?_
  rintro _ w1 ⟨r1, rfl, hr1, hb1⟩
  have hs1 : Below w.heap.size w w1 := by (repeat (with_reducible first | exact Below.refl _ _ | assumption | refine ba ?_ _ | refine bd ?_ | refine bdN ?_ _ | refine bs ?_ (by first | exact Nat.le_refl _ | (dsimp only; omega) | (simp; done)) _ | refine bt ?_ (by assumption)))
  have Bw1 := Lib.hid (hs1)
  have X2 := Lib.hid (show BoxC w1 (w.heap.size) #[.slice ab0 ds0.length cb0, .int .i64 fa0, .int .i64 hi0] from ((BoxC.start w #[.slice ab0 ds0.length cb0, .int .i64 fa0, .int .i64 hi0] 24).below (bt (by (repeat (with_reducible first | exact Below.refl _ _ | assumption | refine ba ?_ _ | refine bd ?_ | refine bdN ?_ _ | refine bs ?_ (by first | exact Nat.le_refl _ | (dsimp only; omega) | (simp; done)) _ | refine bt ?_ (by assumption)))) hb1)).at (by simp))
  have X3 := Lib.hid (show BoxC w1 (w.heap.size + 1) #[.slice aa1 fs1.length ca1, .int .i64 k1, .slice ab1 ds1.length cb1] from ((BoxC.start (w.alloc (.cells #[.slice ab0 ds0.length cb0, .int .i64 fa0, .int .i64 hi0] 24)) #[.slice aa1 fs1.length ca1, .int .i64 k1, .slice ab1 ds1.length cb1] 29).below hb1).at (by simp))
  rw [← HC0.out] at hr1
  have k4_0 : w1.cell? ⟨w.heap.size + 1, 0, none⟩ = some (.slice aa1 fs1.length ca1) := (X3.out).2 0
  have k4_1 : w1.cell? ⟨w.heap.size + 1, 1, none⟩ = some (.int .i64 k1) := (X3.out).2 1
  have k4_2 : w1.cell? ⟨w.heap.size + 1, 2, none⟩ = some (.slice ab1 ds1.length cb1) := (X3.out).2 2
  have kl4 := (X3.out).1
  by_cases hn1 : r1 < 0
  · go_wp2_with fail
    go_ret
    exact ⟨rfl, Bw1.out⟩
  obtain ⟨R1, rfl⟩ := Int.eq_ofNat_of_zero_le (show 0 ≤ r1 by omega)
  have hR1 : R1 + C0 ≤ 1048576 := by omega
  clear hr1
  go_wp2_with fail
  refine (laws_szDiskX _ fs1 _ _ ds1 _ R1 _ (HR1.out.below (bt Bw1.out (by (repeat (with_reducible first | exact Below.refl _ _ | assumption | refine ba ?_ _ | refine bd ?_ | refine bdN ?_ _ | refine bs ?_ (by first | exact Nat.le_refl _ | (dsimp only; omega) | (simp; done)) _ | refine bt ?_ (by assumption)))))) HZ1.out (by omega)).mono ?_
  rintro _ w5 ⟨r5, rfl, hr5, hb5⟩
  clear k4_0 k4_1 k4_2 kl4
  have hs5 : Below w1.heap.size w1 w5 := by (repeat (with_reducible first | exact Below.refl _ _ | assumption | refine ba ?_ _ | refine bd ?_ | refine bdN ?_ _ | refine bs ?_ (by first | exact Nat.le_refl _ | (dsimp only; omega) | (simp; done)) _ | refine bt ?_ (by assumption)))
  have Bw5 := Lib.hid (bt Bw1.out hs5)
  have X6 := Lib.hid (X2.out.below hs5)
  have X7 := Lib.hid (X3.out.below hs5)
  clear Bw1 X2 X3
  rw [← HC1.out] at hr5
  have k8_0 : w5.cell? ⟨w.heap.size, 0, none⟩ = some (.slice ab0 ds0.length cb0) := (X6.out).2 0
  have k8_1 : w5.cell? ⟨w.heap.size, 1, none⟩ = some (.int .i64 fa0) := (X6.out).2 1
  have k8_2 : w5.cell? ⟨w.heap.size, 2, none⟩ = some (.int .i64 hi0) := (X6.out).2 2
  have kl8 := (X6.out).1
  by_cases hn5 : r5 < 0
  · go_wp2_with fail
    go_ret
    exact ⟨rfl, Bw5.out⟩
  obtain ⟨R5, rfl⟩ := Int.eq_ofNat_of_zero_le (show 0 ≤ r5 by omega)
  have hR5 : R5 + C1 ≤ R1 := by omega
  clear hr5
  have HL0 := Lib.hid (drCosts_of (by rw [← HC0.out]; omega : drsCost ds0 ≤ 1048576))
  have HS0 := Lib.hid (shortD_mono (B := 2000000) (by omega) (shortD_of (by rw [← HC0.out]; omega : drsCost ds0 ≤ 1048576)))
  have Hse0 := Lib.hid (sameFnd_self ds0 fa0 hi0)
  have HE0 := Lib.hid (fun k => (show endD k ds0 ≤ k + 3 * C0 by rw [HC0.out]; exact endD_le k ds0))
  have hln0 : ds0.length ≤ 1048576 := HL0.out.1
  have HL1 := Lib.hid (dskCosts_of (by rw [← HC1.out]; omega : dskCost fs1 ds1 ≤ 1048576))
  have HS1 := Lib.hid (shortK_mono (B := 2000000) (by omega) (shortK_of (by rw [← HC1.out]; omega : dskCost fs1 ds1 ≤ 1048576)))
  have Hse1 := Lib.hid (sameDsk_self fs1 k1 ds1)
  have HE1 := Lib.hid (fun k => (show endD (endF k fs1) ds1 ≤ k + 5 * C1 by rw [HC1.out]; exact endK_le k fs1 ds1))
  have hln1 : fs1.length ≤ 1048576 ∧ ds1.length ≤ 1048576 := ⟨HL1.out.1.1, HL1.out.2.1⟩
  clear k8_0 k8_1 k8_2 kl8
  have Hk9 := Lib.hid (fun (w' : World) (hC : Below w5.heap.size w5 w') => (⟨((X6.out).below hC).2 0, ((X6.out).below hC).2 1, ((X6.out).below hC).2 2, ((X7.out).below hC).2 0, ((X7.out).below hC).2 1, ((X7.out).below hC).2 2, hC⟩ : w'.cell? ⟨w.heap.size, 0, none⟩ = some (.slice ab0 ds0.length cb0) ∧ w'.cell? ⟨w.heap.size, 1, none⟩ = some (.int .i64 fa0) ∧ w'.cell? ⟨w.heap.size, 2, none⟩ = some (.int .i64 hi0) ∧ w'.cell? ⟨w.heap.size + 1, 0, none⟩ = some (.slice aa1 fs1.length ca1) ∧ w'.cell? ⟨w.heap.size + 1, 1, none⟩ = some (.int .i64 k1) ∧ w'.cell? ⟨w.heap.size + 1, 2, none⟩ = some (.slice ab1 ds1.length cb1) ∧ Below w5.heap.size w5 w'))
  have HPHk9_0 := Lib.hid (HR0.out.below Bw5.out)
  have HPHk9_1 := Lib.hid (HR1.out.below Bw5.out)
  go_wp2_with fail
  go_region_held3 (fun w' => w'.cell? ⟨w.heap.size, 0, none⟩ = some (.slice ab0 ds0.length cb0) ∧ w'.cell? ⟨w.heap.size, 1, none⟩ = some (.int .i64 fa0) ∧ w'.cell? ⟨w.heap.size, 2, none⟩ = some (.int .i64 hi0) ∧ w'.cell? ⟨w.heap.size + 1, 0, none⟩ = some (.slice aa1 fs1.length ca1) ∧ w'.cell? ⟨w.heap.size + 1, 1, none⟩ = some (.int .i64 k1) ∧ w'.cell? ⟨w.heap.size + 1, 2, none⟩ = some (.slice ab1 ds1.length cb1) ∧ Below w5.heap.size w5 w')
    (exact Hk9.out _ (by (repeat (with_reducible first | exact Below.refl _ _ | assumption | refine ba ?_ _ | refine bd ?_ | refine bdN ?_ _ | refine bs ?_ (by first | exact Nat.le_refl _ | (dsimp only; omega) | (simp; done)) _ | refine bt ?_ (by assumption)))))
    (first
      | (go_at_call 10; refine (laws_toFinder _ ds0 _ _ _ _ (HPHk9_0.out.below (by (repeat (with_reducible first | exact Below.refl _ _ | assumption | refine ba ?_ _ | refine bd ?_ | refine bdN ?_ _ | refine bs ?_ (by first | exact Nat.le_refl _ | (dsimp only; omega) | (simp; done)) _ | refine bt ?_ (by assumption))))) HL0.out).mono ?_; rintro _ w10 ⟨u10, qs10, rfl, hqs10, hq10, hb10⟩; obtain ⟨e10, f10, rfl⟩ := hq10.len; have hql10 : qs10.length = ds0.length := (by rw [← hqs10, List.length_map]); rw [hql10] at hq10 ⊢; have I10 := Lib.hid (show DirsIn w10 (fun _ => True) (.slice e10 ds0.length f10) ds0 by have h := hq10.dirs (D := (fun _ => True)) (fun _ _ => trivial); rw [hqs10] at h; exact h); have O10 := Lib.hid hq10; have Hqs10 := Lib.hid hqs10; clear hq10 hqs10)
      | (go_at_call 11; refine (laws_toDiskX _ fs1 _ _ ds1 _ _ (HPHk9_1.out.below (by (repeat (with_reducible first | exact Below.refl _ _ | assumption | refine ba ?_ _ | refine bd ?_ | refine bdN ?_ _ | refine bs ?_ (by first | exact Nat.le_refl _ | (dsimp only; omega) | (simp; done)) _ | refine bt ?_ (by assumption))))) HL1.out).mono ?_; rintro _ w11 ⟨v11, ps11, u11, qs11, rfl, hps11, hqs11, ho11, hq11, hb11⟩; obtain ⟨a11, c11, rfl⟩ := ho11.len; obtain ⟨e11, f11, rfl⟩ := hq11.len; have hpl11 : ps11.length = fs1.length := (by rw [← hps11, List.length_map]); have hql11 : qs11.length = ds1.length := (by rw [← hqs11, List.length_map]); rw [hpl11] at ho11 ⊢; rw [hql11] at hq11 ⊢; have I11 := Lib.hid (show DskIn w11 (fun _ => True) (.slice a11 fs1.length c11) fs1 (.slice e11 ds1.length f11) ds1 from ⟨by have h := ho11.fils (D := (fun _ => True)) (fun _ _ => trivial); rw [hps11] at h; exact h, by have h := hq11.dirs (D := (fun _ => True)) (fun _ _ => trivial); rw [hqs11] at h; exact h⟩); have O11 := Lib.hid (show OwnDsk w11 _ _ ps11 _ qs11 from ⟨ho11, hq11⟩); have Hps11 := Lib.hid hps11; have Hqs11 := Lib.hid hqs11; clear ho11 hps11 hq11 hqs11)
      | (go_at_call 9; refine (spec_StaleDirs _ ds0 _ _ _ fs1 _ _ ds1 (fun _ => True) _ (I10.out.below (by (repeat (with_reducible first | exact Below.refl _ _ | assumption | refine ba ?_ _ | refine bd ?_ | refine bdN ?_ _ | refine bs ?_ (by first | exact Nat.le_refl _ | (dsimp only; omega) | (simp; done)) _ | refine bt ?_ (by assumption))))) HS0.out (I11.out.below (by (repeat (with_reducible first | exact Below.refl _ _ | assumption | refine ba ?_ _ | refine bd ?_ | refine bdN ?_ _ | refine bs ?_ (by first | exact Nat.le_refl _ | (dsimp only; omega) | (simp; done)) _ | refine bt ?_ (by assumption))))) HS1.out).mono ?_; rintro _ w12 ⟨v12_0, rfl, ho12_0, hb12⟩; (try rw [← HG0.out]); (try rw [← HG0.out] at ho12_0); obtain ⟨a12_0, c12_0, rfl⟩ := owns_shape ho12_0; have I12_0 := Lib.hid (IntsIn.of_owns ho12_0); have O12_0 := Lib.hid ho12_0; clear ho12_0))
  have hs12 : Below w5.heap.size w5 w12 := by (repeat (with_reducible first | exact Below.refl _ _ | assumption | refine ba ?_ _ | refine bd ?_ | refine bdN ?_ _ | refine bs ?_ (by first | exact Nat.le_refl _ | (dsimp only; omega) | (simp; done)) _ | refine bt ?_ (by assumption)))
  have Bw12 := Lib.hid (bt Bw5.out hs12)
  have X13 := Lib.hid (X6.out.below hs12)
  have X14 := Lib.hid (X7.out.below hs12)
  clear Bw5 X6 X7
  obtain ⟨WW, hWW⟩ : ∃ WW, WW = w12 := ⟨_, rfl⟩
  have hWs : WW.heap.size = w12.heap.size + 0 := by rw [hWW]; simp
  have hcW : Below w12.heap.size w12 WW := by rw [hWW]; (repeat (with_reducible first | exact Below.refl _ _ | assumption | refine ba ?_ _ | refine bd ?_ | refine bdN ?_ _ | refine bs ?_ (by first | exact Nat.le_refl _ | (dsimp only; omega) | (simp; done)) _ | refine bt ?_ (by assumption)))
  have IW0 := Lib.hid (I12_0.out.below hcW)
  have HwW := Lib.hid (bt Bw12.out hcW)
  have Hpl0 := Lib.hid (show w.heap.size < WW.heap.size by have := X13.out.1; omega)
  have Hpl1 := Lib.hid (show w.heap.size + 1 < WW.heap.size by have := X14.out.1; omega)
  have HWs := Lib.hid hWs
  clear hWs hcW
  have k15_0 : w12.cell? ⟨w.heap.size, 0, none⟩ = some (.slice ab0 ds0.length cb0) := (X13.out).2 0
  have k15_1 : w12.cell? ⟨w.heap.size, 1, none⟩ = some (.int .i64 fa0) := (X13.out).2 1
  have k15_2 : w12.cell? ⟨w.heap.size, 2, none⟩ = some (.int .i64 hi0) := (X13.out).2 2
  have kl15 := (X13.out).1
  go_wp2_with fail
  refine (laws_toFinder _ ds0 _ _ _ _ (HR0.out.below (bt Bw12.out (by (repeat (with_reducible first | exact Below.refl _ _ | assumption | refine ba ?_ _ | refine bd ?_ | refine bdN ?_ _ | refine bs ?_ (by first | exact Nat.le_refl _ | (dsimp only; omega) | (simp; done)) _ | refine bt ?_ (by assumption)))))) HL0.out).mono ?_
  rintro _ w16 ⟨u16, qs16, rfl, hqs16, hq16, hb16⟩
  clear k15_0 k15_1 k15_2 kl15
  have hs16 : Below w12.heap.size w12 w16 := by (repeat (with_reducible first | exact Below.refl _ _ | assumption | refine ba ?_ _ | refine bd ?_ | refine bdN ?_ _ | refine bs ?_ (by first | exact Nat.le_refl _ | (dsimp only; omega) | (simp; done)) _ | refine bt ?_ (by assumption)))
  have Bw16 := Lib.hid (bt Bw12.out hs16)
  have BW16 := Lib.hid (show Below WW.heap.size WW w16 by rw [hWW]; exact hb16)
  have X17 := Lib.hid (X13.out.below hs16)
  have X18 := Lib.hid (X14.out.below hs16)
  clear Bw12 X13 X14
  have Hz16 := Lib.hid (show w12.heap.size ≤ w16.heap.size by have h := hb16.size; first | omega | (simp at h; omega))
  obtain ⟨e16, f16, rfl⟩ := hq16.len
  have hql16 : qs16.length = ds0.length := (by rw [← hqs16, List.length_map])
  rw [hql16] at hq16 ⊢
  have I16 := Lib.hid (show DirsIn w16 (fun _ => True) (.slice e16 ds0.length f16) ds0 by have h := hq16.dirs (D := (fun _ => True)) (fun _ _ => trivial); rw [hqs16] at h; exact h)
  have O16 := Lib.hid hq16
  have Hqs16 := Lib.hid hqs16
  clear hq16 hqs16
  have OO16 := Lib.hid (O16.out.mono (show w12.heap.size ≤ _ by simp))
  clear O16
  have Hv16 := Lib.hid (fun b (hb : BlkD (.slice e16 ds0.length f16) qs16 b) => (show w12.heap.size ≤ b ∧ b < w16.heap.size by have h := (blkD_ge OO16.out) b hb; first | exact h | (simp at h; exact h)))
  have k19_0 : w16.cell? ⟨w.heap.size + 1, 0, none⟩ = some (.slice aa1 fs1.length ca1) := (X18.out).2 0
  have k19_1 : w16.cell? ⟨w.heap.size + 1, 1, none⟩ = some (.int .i64 k1) := (X18.out).2 1
  have k19_2 : w16.cell? ⟨w.heap.size + 1, 2, none⟩ = some (.slice ab1 ds1.length cb1) := (X18.out).2 2
  have kl19 := (X18.out).1
  go_wp2_with fail
  refine (laws_toDiskX _ fs1 _ _ ds1 _ _ (HR1.out.below (bt Bw16.out (by (repeat (with_reducible first | exact Below.refl _ _ | assumption | refine ba ?_ _ | refine bd ?_ | refine bdN ?_ _ | refine bs ?_ (by first | exact Nat.le_refl _ | (dsimp only; omega) | (simp; done)) _ | refine bt ?_ (by assumption)))))) HL1.out).mono ?_
  rintro _ w20 ⟨v20, ps20, u20, qs20, rfl, hps20, hqs20, ho20, hq20, hb20⟩
  clear k19_0 k19_1 k19_2 kl19
  have hs20 : Below w16.heap.size w16 w20 := by (repeat (with_reducible first | exact Below.refl _ _ | assumption | refine ba ?_ _ | refine bd ?_ | refine bdN ?_ _ | refine bs ?_ (by first | exact Nat.le_refl _ | (dsimp only; omega) | (simp; done)) _ | refine bt ?_ (by assumption)))
  have Bw20 := Lib.hid (bt Bw16.out hs20)
  have BW20 := Lib.hid (bt BW16.out hs20)
  have X21 := Lib.hid (X17.out.below hs20)
  have X22 := Lib.hid (X18.out.below hs20)
  have X23 := Lib.hid (show BoxC w20 (w16.heap.size) #[.slice e16 ds0.length f16, .int .i64 fa0, .int .i64 hi0] from ((BoxC.start w16 #[.slice e16 ds0.length f16, .int .i64 fa0, .int .i64 hi0] 36).below hb20).at (by simp))
  have J24 := Lib.hid (I16.out.below hs20)
  have Q24 := Lib.hid (OO16.out.below hs20)
  clear Bw16 BW16 X17 X18 I16 OO16
  have Hz20 := Lib.hid (show w16.heap.size + 1 ≤ w20.heap.size by have h := hb20.size; first | omega | (simp at h; omega))
  obtain ⟨a20, c20, rfl⟩ := ho20.len
  obtain ⟨e20, f20, rfl⟩ := hq20.len
  have hpl20 : ps20.length = fs1.length := (by rw [← hps20, List.length_map])
  have hql20 : qs20.length = ds1.length := (by rw [← hqs20, List.length_map])
  rw [hpl20] at ho20 ⊢
  rw [hql20] at hq20 ⊢
  have I20 := Lib.hid (show DskIn w20 (fun _ => True) (.slice a20 fs1.length c20) fs1 (.slice e20 ds1.length f20) ds1 from ⟨by have h := ho20.fils (D := (fun _ => True)) (fun _ _ => trivial); rw [hps20] at h; exact h, by have h := hq20.dirs (D := (fun _ => True)) (fun _ _ => trivial); rw [hqs20] at h; exact h⟩)
  have O20 := Lib.hid (show OwnDsk w20 _ _ ps20 _ qs20 from ⟨ho20, hq20⟩)
  have Hps20 := Lib.hid hps20
  have Hqs20 := Lib.hid hqs20
  clear ho20 hps20 hq20 hqs20
  have OO20 := Lib.hid (O20.out.mono (show w16.heap.size + 1 ≤ _ by simp))
  clear O20
  have Hv20 := Lib.hid (fun b (hb : BlkK (.slice a20 fs1.length c20) ps20 (.slice e20 ds1.length f20) qs20 b) => (show w16.heap.size + 1 ≤ b ∧ b < w20.heap.size by have h := (blkK_ge OO20.out) b hb; first | exact h | (simp at h; exact h)))
  have k25_0 : w20.cell? ⟨w16.heap.size, 0, none⟩ = some (.slice e16 ds0.length f16) := (X23.out).2 0
  have k25_1 : w20.cell? ⟨w16.heap.size, 1, none⟩ = some (.int .i64 fa0) := (X23.out).2 1
  have k25_2 : w20.cell? ⟨w16.heap.size, 2, none⟩ = some (.int .i64 hi0) := (X23.out).2 2
  have kl25 := (X23.out).1
  go_wp2_with fail
  refine (impl_StaleDirs _ ds0 _ _ _ fs1 _ _ ds1 (fun _ => True) _ (J24.out.below (by (repeat (with_reducible first | exact Below.refl _ _ | assumption | refine ba ?_ _ | refine bd ?_ | refine bdN ?_ _ | refine bs ?_ (by first | exact Nat.le_refl _ | (dsimp only; omega) | (simp; done)) _ | refine bt ?_ (by assumption))))) HS0.out (I20.out.below (by (repeat (with_reducible first | exact Below.refl _ _ | assumption | refine ba ?_ _ | refine bd ?_ | refine bdN ?_ _ | refine bs ?_ (by first | exact Nat.le_refl _ | (dsimp only; omega) | (simp; done)) _ | refine bt ?_ (by assumption))))) HS1.out).mono ?_
  rintro _ w26 ⟨v26_0, rfl, ho26_0, hb26⟩
  clear k25_0 k25_1 k25_2 kl25
  have hs26 : Below w20.heap.size w20 w26 := by (repeat (with_reducible first | exact Below.refl _ _ | assumption | refine ba ?_ _ | refine bd ?_ | refine bdN ?_ _ | refine bs ?_ (by first | exact Nat.le_refl _ | (dsimp only; omega) | (simp; done)) _ | refine bt ?_ (by assumption)))
  have Bw26 := Lib.hid (bt Bw20.out hs26)
  have BW26 := Lib.hid (bt BW20.out hs26)
  have X27 := Lib.hid (X21.out.below hs26)
  have X28 := Lib.hid (X22.out.below hs26)
  have X29 := Lib.hid (X23.out.below hs26)
  have X30 := Lib.hid (show BoxC w26 (w20.heap.size) #[.slice a20 fs1.length c20, .int .i64 k1, .slice e20 ds1.length f20] from ((BoxC.start w20 #[.slice a20 fs1.length c20, .int .i64 k1, .slice e20 ds1.length f20] 42).below hb26).at (by simp))
  have J31 := Lib.hid (J24.out.below hs26)
  have Q31 := Lib.hid (Q24.out.below hs26)
  have J32 := Lib.hid (I20.out.below hs26)
  have Q32 := Lib.hid (OO20.out.below hs26)
  clear Bw20 BW20 X21 X22 X23 J24 Q24 I20 OO20
  have Hz26 := Lib.hid (show w20.heap.size + 1 ≤ w26.heap.size by have h := hb26.size; first | omega | (simp at h; omega))
  try rw [← HG0.out]
  try rw [← HG0.out] at ho26_0
  obtain ⟨a26_0, c26_0, rfl⟩ := owns_shape ho26_0
  have I26_0 := Lib.hid (IntsIn.of_owns ho26_0)
  have O26_0 := Lib.hid ho26_0
  clear ho26_0
  have OO26_0 := Lib.hid (owns_mono O26_0.out (show w20.heap.size + 1 ≤ _ by simp))
  clear O26_0
  have Hv33 := Lib.hid (fun b (hb : (Value.slice a26_0 g0.length c26_0).ownBlock = some b) => (show w20.heap.size + 1 ≤ b ∧ b < w26.heap.size by have h := (fun b hb => OO26_0.out.lt b hb) b hb; first | exact h | (simp at h; exact h)))
  go_wp2_with fail
  refine (laws_eqIntS _ _ g0 g0 _ (I26_0.out.below (by (repeat (with_reducible first | exact Below.refl _ _ | assumption | refine ba ?_ _ | refine bd ?_ | refine bdN ?_ _ | refine bs ?_ (by first | exact Nat.le_refl _ | (dsimp only; omega) | (simp; done)) _ | refine bt ?_ (by assumption))))) (IW0.out.below (bt BW26.out (by (repeat (with_reducible first | exact Below.refl _ _ | assumption | refine ba ?_ _ | refine bd ?_ | refine bdN ?_ _ | refine bs ?_ (by first | exact Nat.le_refl _ | (dsimp only; omega) | (simp; done)) _ | refine bt ?_ (by assumption))))))).mono ?_
  rintro _ w34 ⟨rfl, hb34⟩
  have hs34 : Below w26.heap.size w26 w34 := by (repeat (with_reducible first | exact Below.refl _ _ | assumption | refine ba ?_ _ | refine bd ?_ | refine bdN ?_ _ | refine bs ?_ (by first | exact Nat.le_refl _ | (dsimp only; omega) | (simp; done)) _ | refine bt ?_ (by assumption)))
  have Bw34 := Lib.hid (bt Bw26.out hs34)
  have BW34 := Lib.hid (bt BW26.out hs34)
  have X35 := Lib.hid (X27.out.below hs34)
  have X36 := Lib.hid (X28.out.below hs34)
  have X37 := Lib.hid (X29.out.below hs34)
  have X38 := Lib.hid (X30.out.below hs34)
  have J39 := Lib.hid (J31.out.below hs34)
  have Q39 := Lib.hid (Q31.out.below hs34)
  have J40 := Lib.hid (J32.out.below hs34)
  have Q40 := Lib.hid (Q32.out.below hs34)
  have J41 := Lib.hid (I26_0.out.below hs34)
  have Q41 := Lib.hid (owns_below OO26_0.out hs34)
  clear Bw26 BW26 X27 X28 X29 X30 J31 Q31 J32 Q32 I26_0 OO26_0
  rw [decide_eq_true (rfl : g0 = g0)]
  have Hk42 := Lib.hid (fun (w' : World) (hC : Below w34.heap.size w34 w') => (⟨((X35.out).below hC).2 0, ((X35.out).below hC).2 1, ((X35.out).below hC).2 2, ((X37.out).below hC).2 0, ((X37.out).below hC).2 1, ((X37.out).below hC).2 2, hC⟩ : w'.cell? ⟨w.heap.size, 0, none⟩ = some (.slice ab0 ds0.length cb0) ∧ w'.cell? ⟨w.heap.size, 1, none⟩ = some (.int .i64 fa0) ∧ w'.cell? ⟨w.heap.size, 2, none⟩ = some (.int .i64 hi0) ∧ w'.cell? ⟨w16.heap.size, 0, none⟩ = some (.slice e16 ds0.length f16) ∧ w'.cell? ⟨w16.heap.size, 1, none⟩ = some (.int .i64 fa0) ∧ w'.cell? ⟨w16.heap.size, 2, none⟩ = some (.int .i64 hi0) ∧ Below w34.heap.size w34 w'))
  have HPHk42 := Lib.hid (HR0.out.below Bw34.out)
  go_wp2_with fail
  go_region_held3 (fun w' => w'.cell? ⟨w.heap.size, 0, none⟩ = some (.slice ab0 ds0.length cb0) ∧ w'.cell? ⟨w.heap.size, 1, none⟩ = some (.int .i64 fa0) ∧ w'.cell? ⟨w.heap.size, 2, none⟩ = some (.int .i64 hi0) ∧ w'.cell? ⟨w16.heap.size, 0, none⟩ = some (.slice e16 ds0.length f16) ∧ w'.cell? ⟨w16.heap.size, 1, none⟩ = some (.int .i64 fa0) ∧ w'.cell? ⟨w16.heap.size, 2, none⟩ = some (.int .i64 hi0) ∧ Below w34.heap.size w34 w')
    (exact Hk42.out _ (by (repeat (with_reducible first | exact Below.refl _ _ | assumption | refine ba ?_ _ | refine bd ?_ | refine bdN ?_ _ | refine bs ?_ (by first | exact Nat.le_refl _ | (dsimp only; omega) | (simp; done)) _ | refine bt ?_ (by assumption)))))
    (first
      | (go_at_call 10; refine (laws_toFinder _ ds0 _ _ _ _ (HPHk42.out.below (by (repeat (with_reducible first | exact Below.refl _ _ | assumption | refine ba ?_ _ | refine bd ?_ | refine bdN ?_ _ | refine bs ?_ (by first | exact Nat.le_refl _ | (dsimp only; omega) | (simp; done)) _ | refine bt ?_ (by assumption))))) HL0.out).mono ?_; rintro _ w43 ⟨u43, qs43, rfl, hqs43, hq43, hb43⟩; obtain ⟨e43, f43, rfl⟩ := hq43.len; have hql43 : qs43.length = ds0.length := (by rw [← hqs43, List.length_map]); rw [hql43] at hq43 ⊢; have I43 := Lib.hid (show DirsIn w43 (fun _ => True) (.slice e43 ds0.length f43) ds0 by have h := hq43.dirs (D := (fun _ => True)) (fun _ _ => trivial); rw [hqs43] at h; exact h); have O43 := Lib.hid hq43; have Hqs43 := Lib.hid hqs43; clear hq43 hqs43)
      | (go_at_call 14; refine (laws_eqFinderX _ _ _ _ _ _ ds0 ds0 (fun _ => True) (fun _ => True) _ (J39.out.below (by (repeat (with_reducible first | exact Below.refl _ _ | assumption | refine ba ?_ _ | refine bd ?_ | refine bdN ?_ _ | refine bs ?_ (by first | exact Nat.le_refl _ | (dsimp only; omega) | (simp; done)) _ | refine bt ?_ (by assumption))))) (I43.out.below (by (repeat (with_reducible first | exact Below.refl _ _ | assumption | refine ba ?_ _ | refine bd ?_ | refine bdN ?_ _ | refine bs ?_ (by first | exact Nat.le_refl _ | (dsimp only; omega) | (simp; done)) _ | refine bt ?_ (by assumption)))))).mono ?_; rintro _ w44 ⟨rfl, hb44⟩; rw [Hse0.out]))
  have hs44 : Below w34.heap.size w34 w44 := by (repeat (with_reducible first | exact Below.refl _ _ | assumption | refine ba ?_ _ | refine bd ?_ | refine bdN ?_ _ | refine bs ?_ (by first | exact Nat.le_refl _ | (dsimp only; omega) | (simp; done)) _ | refine bt ?_ (by assumption)))
  have Bw44 := Lib.hid (bt Bw34.out hs44)
  have BW44 := Lib.hid (bt BW34.out hs44)
  have X45 := Lib.hid (X35.out.below hs44)
  have X46 := Lib.hid (X36.out.below hs44)
  have X47 := Lib.hid (X37.out.below hs44)
  have X48 := Lib.hid (X38.out.below hs44)
  have J49 := Lib.hid (J39.out.below hs44)
  have Q49 := Lib.hid (Q39.out.below hs44)
  have J50 := Lib.hid (J40.out.below hs44)
  have Q50 := Lib.hid (Q40.out.below hs44)
  have J51 := Lib.hid (J41.out.below hs44)
  have Q51 := Lib.hid (owns_below Q41.out hs44)
  clear Bw34 BW34 X35 X36 X37 X38 J39 Q39 J40 Q40 J41 Q41
  have Hk52 := Lib.hid (fun (w' : World) (hC : Below w44.heap.size w44 w') => (⟨((X46.out).below hC).2 0, ((X46.out).below hC).2 1, ((X46.out).below hC).2 2, ((X48.out).below hC).2 0, ((X48.out).below hC).2 1, ((X48.out).below hC).2 2, hC⟩ : w'.cell? ⟨w.heap.size + 1, 0, none⟩ = some (.slice aa1 fs1.length ca1) ∧ w'.cell? ⟨w.heap.size + 1, 1, none⟩ = some (.int .i64 k1) ∧ w'.cell? ⟨w.heap.size + 1, 2, none⟩ = some (.slice ab1 ds1.length cb1) ∧ w'.cell? ⟨w20.heap.size, 0, none⟩ = some (.slice a20 fs1.length c20) ∧ w'.cell? ⟨w20.heap.size, 1, none⟩ = some (.int .i64 k1) ∧ w'.cell? ⟨w20.heap.size, 2, none⟩ = some (.slice e20 ds1.length f20) ∧ Below w44.heap.size w44 w'))
  have HPHk52 := Lib.hid (HR1.out.below Bw44.out)
  go_wp2_with fail
  go_region_held3 (fun w' => w'.cell? ⟨w.heap.size + 1, 0, none⟩ = some (.slice aa1 fs1.length ca1) ∧ w'.cell? ⟨w.heap.size + 1, 1, none⟩ = some (.int .i64 k1) ∧ w'.cell? ⟨w.heap.size + 1, 2, none⟩ = some (.slice ab1 ds1.length cb1) ∧ w'.cell? ⟨w20.heap.size, 0, none⟩ = some (.slice a20 fs1.length c20) ∧ w'.cell? ⟨w20.heap.size, 1, none⟩ = some (.int .i64 k1) ∧ w'.cell? ⟨w20.heap.size, 2, none⟩ = some (.slice e20 ds1.length f20) ∧ Below w44.heap.size w44 w')
    (exact Hk52.out _ (by (repeat (with_reducible first | exact Below.refl _ _ | assumption | refine ba ?_ _ | refine bd ?_ | refine bdN ?_ _ | refine bs ?_ (by first | exact Nat.le_refl _ | (dsimp only; omega) | (simp; done)) _ | refine bt ?_ (by assumption)))))
    (first
      | (go_at_call 11; refine (laws_toDiskX _ fs1 _ _ ds1 _ _ (HPHk52.out.below (by (repeat (with_reducible first | exact Below.refl _ _ | assumption | refine ba ?_ _ | refine bd ?_ | refine bdN ?_ _ | refine bs ?_ (by first | exact Nat.le_refl _ | (dsimp only; omega) | (simp; done)) _ | refine bt ?_ (by assumption))))) HL1.out).mono ?_; rintro _ w53 ⟨v53, ps53, u53, qs53, rfl, hps53, hqs53, ho53, hq53, hb53⟩; obtain ⟨a53, c53, rfl⟩ := ho53.len; obtain ⟨e53, f53, rfl⟩ := hq53.len; have hpl53 : ps53.length = fs1.length := (by rw [← hps53, List.length_map]); have hql53 : qs53.length = ds1.length := (by rw [← hqs53, List.length_map]); rw [hpl53] at ho53 ⊢; rw [hql53] at hq53 ⊢; have I53 := Lib.hid (show DskIn w53 (fun _ => True) (.slice a53 fs1.length c53) fs1 (.slice e53 ds1.length f53) ds1 from ⟨by have h := ho53.fils (D := (fun _ => True)) (fun _ _ => trivial); rw [hps53] at h; exact h, by have h := hq53.dirs (D := (fun _ => True)) (fun _ _ => trivial); rw [hqs53] at h; exact h⟩); have O53 := Lib.hid (show OwnDsk w53 _ _ ps53 _ qs53 from ⟨ho53, hq53⟩); have Hps53 := Lib.hid hps53; have Hqs53 := Lib.hid hqs53; clear ho53 hps53 hq53 hqs53)
      | (go_at_call 15; refine (laws_eqDiskX _ _ fs1 fs1 _ _ _ _ ds1 ds1 (fun _ => True) (fun _ => True) _ (J50.out.below (by (repeat (with_reducible first | exact Below.refl _ _ | assumption | refine ba ?_ _ | refine bd ?_ | refine bdN ?_ _ | refine bs ?_ (by first | exact Nat.le_refl _ | (dsimp only; omega) | (simp; done)) _ | refine bt ?_ (by assumption))))) (I53.out.below (by (repeat (with_reducible first | exact Below.refl _ _ | assumption | refine ba ?_ _ | refine bd ?_ | refine bdN ?_ _ | refine bs ?_ (by first | exact Nat.le_refl _ | (dsimp only; omega) | (simp; done)) _ | refine bt ?_ (by assumption)))))).mono ?_; rintro _ w54 ⟨rfl, hb54⟩; rw [Hse1.out]))
  have hs54 : Below w44.heap.size w44 w54 := by (repeat (with_reducible first | exact Below.refl _ _ | assumption | refine ba ?_ _ | refine bd ?_ | refine bdN ?_ _ | refine bs ?_ (by first | exact Nat.le_refl _ | (dsimp only; omega) | (simp; done)) _ | refine bt ?_ (by assumption)))
  have Bw54 := Lib.hid (bt Bw44.out hs54)
  have BW54 := Lib.hid (bt BW44.out hs54)
  have X55 := Lib.hid (X45.out.below hs54)
  have X56 := Lib.hid (X46.out.below hs54)
  have X57 := Lib.hid (X47.out.below hs54)
  have X58 := Lib.hid (X48.out.below hs54)
  have J59 := Lib.hid (J49.out.below hs54)
  have Q59 := Lib.hid (Q49.out.below hs54)
  have J60 := Lib.hid (J50.out.below hs54)
  have Q60 := Lib.hid (Q50.out.below hs54)
  have J61 := Lib.hid (J51.out.below hs54)
  have Q61 := Lib.hid (owns_below Q51.out hs54)
  clear Bw44 BW44 X45 X46 X47 X48 J49 Q49 J50 Q50 J51 Q51
  have k62_0 : w54.cell? ⟨w16.heap.size, 0, none⟩ = some (.slice e16 ds0.length f16) := (X57.out).2 0
  have k62_1 : w54.cell? ⟨w16.heap.size, 1, none⟩ = some (.int .i64 fa0) := (X57.out).2 1
  have k62_2 : w54.cell? ⟨w16.heap.size, 2, none⟩ = some (.int .i64 hi0) := (X57.out).2 2
  have kl62 := (X57.out).1
  go_wp2_with fail
  have hkk : 1 ≤ 1 := by omega
  refine (laws_markFinder (w12.heap.size) _ _ _ qs16 1 _ (Q59.out.below (by (repeat (with_reducible first | exact Below.refl _ _ | assumption | refine ba ?_ _ | refine bd ?_ | refine bdN ?_ _ | refine bs ?_ (by first | exact Nat.le_refl _ | (dsimp only; omega) | (simp; done)) _ | refine bt ?_ (by assumption))))) hkk (by rw [Hqs16.out]; have := HE0.out 1; omega) (by omega)).mono ?_
  rintro _ w63 ⟨rfl, _, ht63⟩
  clear k62_0 k62_1 k62_2 kl62
  have Ht63 := Lib.hid ht63
  clear ht63
  have BW63 := Lib.hid (BW54.out.trans (Ht63.out.below BW54.out.size (fun b hb => by have := (Hv16.out b hb).1; have := Hpl0.out; have := Hpl1.out; have := HWs.out; have := Hz16.out; have := Hz20.out; have := Hz26.out; omega)))
  have Bw63 := Lib.hid (show Below w.heap.size w w63 from HwW.out.trans (BW63.out.mono HwW.out.size))
  have X64 := Lib.hid (X55.out.turned Ht63.out (fun hb => by have := Hv16.out _ hb; have := Hpl0.out; have := Hpl1.out; have := HWs.out; have := Hz16.out; have := Hz20.out; have := Hz26.out; omega))
  have X65 := Lib.hid (X56.out.turned Ht63.out (fun hb => by have := Hv16.out _ hb; have := Hpl0.out; have := Hpl1.out; have := HWs.out; have := Hz16.out; have := Hz20.out; have := Hz26.out; omega))
  have X66 := Lib.hid (X57.out.turned Ht63.out (fun hb => by have := Hv16.out _ hb; have := Hpl0.out; have := Hpl1.out; have := HWs.out; have := Hz16.out; have := Hz20.out; have := Hz26.out; omega))
  have X67 := Lib.hid (X58.out.turned Ht63.out (fun hb => by have := Hv16.out _ hb; have := Hpl0.out; have := Hpl1.out; have := HWs.out; have := Hz16.out; have := Hz20.out; have := Hz26.out; omega))
  have Q68 := Lib.hid (dsk_turned Q60.out Ht63.out (fun b hb hS => by have := Hv16.out b hS; have := Hv20.out b hb; have := Hpl0.out; have := Hpl1.out; have := HWs.out; have := Hz16.out; have := Hz20.out; have := Hz26.out; omega))
  have Q69 := Lib.hid (owns_turned Q61.out Ht63.out (fun b hb hS => by have := Hv16.out b hS; have := Hv33.out b hb; have := Hpl0.out; have := Hpl1.out; have := HWs.out; have := Hz16.out; have := Hz20.out; have := Hz26.out; omega))
  clear Bw54 BW54 X55 X56 X57 X58 J59 Q59 J60 Q60 J61 Q61
  clear hkk
  obtain ⟨K70, hK70⟩ : ∃ K, K = endD 1 (qs16.map (·.1)) := ⟨_, rfl⟩
  have hK70b : 1 ≤ K70 ∧ K70 ≤ 1 + 3 * C0 := by rw [hK70]; exact ⟨endD_mono _ _, by rw [Hqs16.out]; exact HE0.out 1⟩
  rw [← hK70]
  have HK70 := Lib.hid hK70
  clear hK70
  have k71_0 : w63.cell? ⟨w20.heap.size, 0, none⟩ = some (.slice a20 fs1.length c20) := (X67.out).2 0
  have k71_1 : w63.cell? ⟨w20.heap.size, 1, none⟩ = some (.int .i64 k1) := (X67.out).2 1
  have k71_2 : w63.cell? ⟨w20.heap.size, 2, none⟩ = some (.slice e20 ds1.length f20) := (X67.out).2 2
  have kl71 := (X67.out).1
  go_wp2_with fail
  have hkk : 1 ≤ K70 := by omega
  refine (laws_markDisk (w16.heap.size + 1) _ _ _ ps20 qs20 K70 _ (Q68.out.below (by (repeat (with_reducible first | exact Below.refl _ _ | assumption | refine ba ?_ _ | refine bd ?_ | refine bdN ?_ _ | refine bs ?_ (by first | exact Nat.le_refl _ | (dsimp only; omega) | (simp; done)) _ | refine bt ?_ (by assumption))))) hkk (by rw [Hps20.out, Hqs20.out]; have := HE1.out K70; omega) (by omega) (by omega)).mono ?_
  rintro _ w72 ⟨rfl, _, ht72⟩
  clear k71_0 k71_1 k71_2 kl71
  have Ht72 := Lib.hid ht72
  clear ht72
  have BW72 := Lib.hid (BW63.out.trans (Ht72.out.below BW63.out.size (fun b hb => by have := (Hv20.out b hb).1; have := Hpl0.out; have := Hpl1.out; have := HWs.out; have := Hz16.out; have := Hz20.out; have := Hz26.out; omega)))
  have Bw72 := Lib.hid (show Below w.heap.size w w72 from HwW.out.trans (BW72.out.mono HwW.out.size))
  have X73 := Lib.hid (X64.out.turned Ht72.out (fun hb => by have := Hv20.out _ hb; have := Hpl0.out; have := Hpl1.out; have := HWs.out; have := Hz16.out; have := Hz20.out; have := Hz26.out; omega))
  have X74 := Lib.hid (X65.out.turned Ht72.out (fun hb => by have := Hv20.out _ hb; have := Hpl0.out; have := Hpl1.out; have := HWs.out; have := Hz16.out; have := Hz20.out; have := Hz26.out; omega))
  have X75 := Lib.hid (X67.out.turned Ht72.out (fun hb => by have := Hv20.out _ hb; have := Hpl0.out; have := Hpl1.out; have := HWs.out; have := Hz16.out; have := Hz20.out; have := Hz26.out; omega))
  have Q76 := Lib.hid (owns_turned Q69.out Ht72.out (fun b hb hS => by have := Hv20.out b hS; have := Hv33.out b hb; have := Hpl0.out; have := Hpl1.out; have := HWs.out; have := Hz16.out; have := Hz20.out; have := Hz26.out; omega))
  clear Bw63 BW63 X64 X65 X67 Q68 Q69
  clear hkk
  obtain ⟨K77, hK77⟩ : ∃ K, K = endD (endF K70 (ps20.map (·.1))) (qs20.map (·.1)) := ⟨_, rfl⟩
  have hK77b : K70 ≤ K77 ∧ K77 ≤ K70 + 5 * C1 := by rw [hK77]; exact ⟨endK_mono _ _ _, by rw [Hps20.out, Hqs20.out]; exact HE1.out K70⟩
  rw [← hK77]
  have HK77 := Lib.hid hK77
  clear hK77
  have hk0 : ¬ ((K77 : Nat) : Int) < 0 := Int.not_lt.2 (Int.natCast_nonneg _)
  have I_78 := Lib.hid (IntsIn.of_owns Q76.out)
  go_wp2_with fail
  refine (laws_eqIntS _ _ g0 g0 _ (I_78.out.below (by (repeat (with_reducible first | exact Below.refl _ _ | assumption | refine ba ?_ _ | refine bd ?_ | refine bdN ?_ _ | refine bs ?_ (by first | exact Nat.le_refl _ | (dsimp only; omega) | (simp; done)) _ | refine bt ?_ (by assumption))))) (IW0.out.below (bt BW72.out (by (repeat (with_reducible first | exact Below.refl _ _ | assumption | refine ba ?_ _ | refine bd ?_ | refine bdN ?_ _ | refine bs ?_ (by first | exact Nat.le_refl _ | (dsimp only; omega) | (simp; done)) _ | refine bt ?_ (by assumption))))))).mono ?_
  rintro _ w79 ⟨rfl, hb79⟩
  clear hk0
  have hs79 : Below w72.heap.size w72 w79 := by (repeat (with_reducible first | exact Below.refl _ _ | assumption | refine ba ?_ _ | refine bd ?_ | refine bdN ?_ _ | refine bs ?_ (by first | exact Nat.le_refl _ | (dsimp only; omega) | (simp; done)) _ | refine bt ?_ (by assumption)))
  have Bw79 := Lib.hid (bt Bw72.out hs79)
  have BW79 := Lib.hid (bt BW72.out hs79)
  have X80 := Lib.hid (X73.out.below hs79)
  have X81 := Lib.hid (X74.out.below hs79)
  have J82 := Lib.hid (I_78.out.below hs79)
  have Q82 := Lib.hid (owns_below Q76.out hs79)
  clear Bw72 BW72 X73 X74 I_78 Q76
  rw [decide_eq_true (rfl : g0 = g0)]
  go_wp2_with fail
  have hkk : 1 ≤ 1 := by omega
  refine (laws_markIntS (w20.heap.size + 1) _ g0 1 _ (owns_below Q82.out (by (repeat (with_reducible first | exact Below.refl _ _ | assumption | refine ba ?_ _ | refine bd ?_ | refine bdN ?_ _ | refine bs ?_ (by first | exact Nat.le_refl _ | (dsimp only; omega) | (simp; done)) _ | refine bt ?_ (by assumption))))) hkk (by omega)).mono ?_
  rintro _ w83 ⟨rfl, hm83, ht83⟩
  have M83 := Lib.hid (IntsIn.of_owns (xs := marksI 1 g0.length) (by rw [marksI_len]; exact hm83))
  clear hm83
  have Ht83 := Lib.hid ht83
  clear ht83
  have BW83 := Lib.hid (BW79.out.trans (Ht83.out.below BW79.out.size (fun b hb => by have := (Hv33.out b hb).1; have := Hpl0.out; have := Hpl1.out; have := HWs.out; have := Hz16.out; have := Hz20.out; have := Hz26.out; omega)))
  have Bw83 := Lib.hid (show Below w.heap.size w w83 from HwW.out.trans (BW83.out.mono HwW.out.size))
  have X84 := Lib.hid (X80.out.turned Ht83.out (fun hb => by have := Hv33.out _ hb; have := Hpl0.out; have := Hpl1.out; have := HWs.out; have := Hz16.out; have := Hz20.out; have := Hz26.out; omega))
  have X85 := Lib.hid (X81.out.turned Ht83.out (fun hb => by have := Hv33.out _ hb; have := Hpl0.out; have := Hpl1.out; have := HWs.out; have := Hz16.out; have := Hz20.out; have := Hz26.out; omega))
  clear Bw79 BW79 X80 X81 J82 Q82
  clear hkk
  obtain ⟨K86, hK86⟩ : ∃ K, K = 1 + g0.length := ⟨_, rfl⟩
  have hK86b : 1 ≤ K86 ∧ K86 ≤ 1 + g0.length := by rw [hK86]; exact ⟨by omega, by omega⟩
  rw [← hK86]
  have HK86 := Lib.hid hK86
  clear hK86
  go_wp2_with fail
  refine (laws_heldIntS _ g0.length 1 _ (M83.out.below (by (repeat (with_reducible first | exact Below.refl _ _ | assumption | refine ba ?_ _ | refine bd ?_ | refine bdN ?_ _ | refine bs ?_ (by first | exact Nat.le_refl _ | (dsimp only; omega) | (simp; done)) _ | refine bt ?_ (by assumption))))) (by omega) (by omega)).mono ?_
  rintro _ w87 ⟨rfl, hb87⟩
  have hs87 : Below w83.heap.size w83 w87 := by (repeat (with_reducible first | exact Below.refl _ _ | assumption | refine ba ?_ _ | refine bd ?_ | refine bdN ?_ _ | refine bs ?_ (by first | exact Nat.le_refl _ | (dsimp only; omega) | (simp; done)) _ | refine bt ?_ (by assumption)))
  have Bw87 := Lib.hid (bt Bw83.out hs87)
  have BW87 := Lib.hid (bt BW83.out hs87)
  have X88 := Lib.hid (X84.out.below hs87)
  have X89 := Lib.hid (X85.out.below hs87)
  have N90 := Lib.hid (M83.out.below hs87)
  clear Bw83 BW83 X84 X85 M83
  rw [← HK86.out]
  have hk0 : ¬ ((K86 : Nat) : Int) < 0 := Int.not_lt.2 (Int.natCast_nonneg _)
  have k91_0 : w87.cell? ⟨w.heap.size, 0, none⟩ = some (.slice ab0 ds0.length cb0) := (X88.out).2 0
  have k91_1 : w87.cell? ⟨w.heap.size, 1, none⟩ = some (.int .i64 fa0) := (X88.out).2 1
  have k91_2 : w87.cell? ⟨w.heap.size, 2, none⟩ = some (.int .i64 hi0) := (X88.out).2 2
  have kl91 := (X88.out).1
  clear hk0 k91_0 k91_1 k91_2 kl91
  have Hk92 := Lib.hid (fun (w' : World) (hC : Below w87.heap.size w87 w') => (⟨((X88.out).below hC).2 0, ((X88.out).below hC).2 1, ((X88.out).below hC).2 2, ((X89.out).below hC).2 0, ((X89.out).below hC).2 1, ((X89.out).below hC).2 2, hC⟩ : w'.cell? ⟨w.heap.size, 0, none⟩ = some (.slice ab0 ds0.length cb0) ∧ w'.cell? ⟨w.heap.size, 1, none⟩ = some (.int .i64 fa0) ∧ w'.cell? ⟨w.heap.size, 2, none⟩ = some (.int .i64 hi0) ∧ w'.cell? ⟨w.heap.size + 1, 0, none⟩ = some (.slice aa1 fs1.length ca1) ∧ w'.cell? ⟨w.heap.size + 1, 1, none⟩ = some (.int .i64 k1) ∧ w'.cell? ⟨w.heap.size + 1, 2, none⟩ = some (.slice ab1 ds1.length cb1) ∧ Below w87.heap.size w87 w'))
  have HPHk92_0 := Lib.hid (HR0.out.below Bw87.out)
  have HPHk92_1 := Lib.hid (HR1.out.below Bw87.out)
  go_wp2_with fail
  go_region_held3 (fun w' => w'.cell? ⟨w.heap.size, 0, none⟩ = some (.slice ab0 ds0.length cb0) ∧ w'.cell? ⟨w.heap.size, 1, none⟩ = some (.int .i64 fa0) ∧ w'.cell? ⟨w.heap.size, 2, none⟩ = some (.int .i64 hi0) ∧ w'.cell? ⟨w.heap.size + 1, 0, none⟩ = some (.slice aa1 fs1.length ca1) ∧ w'.cell? ⟨w.heap.size + 1, 1, none⟩ = some (.int .i64 k1) ∧ w'.cell? ⟨w.heap.size + 1, 2, none⟩ = some (.slice ab1 ds1.length cb1) ∧ Below w87.heap.size w87 w')
    (exact Hk92.out _ (by (repeat (with_reducible first | exact Below.refl _ _ | assumption | refine ba ?_ _ | refine bd ?_ | refine bdN ?_ _ | refine bs ?_ (by first | exact Nat.le_refl _ | (dsimp only; omega) | (simp; done)) _ | refine bt ?_ (by assumption)))))
    (first
      | (go_at_call 10; refine (laws_toFinder _ ds0 _ _ _ _ (HPHk92_0.out.below (by (repeat (with_reducible first | exact Below.refl _ _ | assumption | refine ba ?_ _ | refine bd ?_ | refine bdN ?_ _ | refine bs ?_ (by first | exact Nat.le_refl _ | (dsimp only; omega) | (simp; done)) _ | refine bt ?_ (by assumption))))) HL0.out).mono ?_; rintro _ w93 ⟨u93, qs93, rfl, hqs93, hq93, hb93⟩; obtain ⟨e93, f93, rfl⟩ := hq93.len; have hql93 : qs93.length = ds0.length := (by rw [← hqs93, List.length_map]); rw [hql93] at hq93 ⊢; have I93 := Lib.hid (show DirsIn w93 (fun _ => True) (.slice e93 ds0.length f93) ds0 by have h := hq93.dirs (D := (fun _ => True)) (fun _ _ => trivial); rw [hqs93] at h; exact h); have O93 := Lib.hid hq93; have Hqs93 := Lib.hid hqs93; clear hq93 hqs93)
      | (go_at_call 11; refine (laws_toDiskX _ fs1 _ _ ds1 _ _ (HPHk92_1.out.below (by (repeat (with_reducible first | exact Below.refl _ _ | assumption | refine ba ?_ _ | refine bd ?_ | refine bdN ?_ _ | refine bs ?_ (by first | exact Nat.le_refl _ | (dsimp only; omega) | (simp; done)) _ | refine bt ?_ (by assumption))))) HL1.out).mono ?_; rintro _ w94 ⟨v94, ps94, u94, qs94, rfl, hps94, hqs94, ho94, hq94, hb94⟩; obtain ⟨a94, c94, rfl⟩ := ho94.len; obtain ⟨e94, f94, rfl⟩ := hq94.len; have hpl94 : ps94.length = fs1.length := (by rw [← hps94, List.length_map]); have hql94 : qs94.length = ds1.length := (by rw [← hqs94, List.length_map]); rw [hpl94] at ho94 ⊢; rw [hql94] at hq94 ⊢; have I94 := Lib.hid (show DskIn w94 (fun _ => True) (.slice a94 fs1.length c94) fs1 (.slice e94 ds1.length f94) ds1 from ⟨by have h := ho94.fils (D := (fun _ => True)) (fun _ _ => trivial); rw [hps94] at h; exact h, by have h := hq94.dirs (D := (fun _ => True)) (fun _ _ => trivial); rw [hqs94] at h; exact h⟩); have O94 := Lib.hid (show OwnDsk w94 _ _ ps94 _ qs94 from ⟨ho94, hq94⟩); have Hps94 := Lib.hid hps94; have Hqs94 := Lib.hid hqs94; clear ho94 hps94 hq94 hqs94)
      | (go_at_call 12; refine (impl_StaleDirs _ ds0 _ _ _ fs1 _ _ ds1 (fun _ => True) _ (I93.out.below (by (repeat (with_reducible first | exact Below.refl _ _ | assumption | refine ba ?_ _ | refine bd ?_ | refine bdN ?_ _ | refine bs ?_ (by first | exact Nat.le_refl _ | (dsimp only; omega) | (simp; done)) _ | refine bt ?_ (by assumption))))) HS0.out (I94.out.below (by (repeat (with_reducible first | exact Below.refl _ _ | assumption | refine ba ?_ _ | refine bd ?_ | refine bdN ?_ _ | refine bs ?_ (by first | exact Nat.le_refl _ | (dsimp only; omega) | (simp; done)) _ | refine bt ?_ (by assumption))))) HS1.out).mono ?_; rintro _ w95 ⟨v95_0, rfl, ho95_0, hb95⟩; (try rw [← HG0.out]); (try rw [← HG0.out] at ho95_0); obtain ⟨a95_0, c95_0, rfl⟩ := owns_shape ho95_0; have I95_0 := Lib.hid (IntsIn.of_owns ho95_0); have O95_0 := Lib.hid ho95_0; clear ho95_0))
  have hs95 : Below w87.heap.size w87 w95 := by (repeat (with_reducible first | exact Below.refl _ _ | assumption | refine ba ?_ _ | refine bd ?_ | refine bdN ?_ _ | refine bs ?_ (by first | exact Nat.le_refl _ | (dsimp only; omega) | (simp; done)) _ | refine bt ?_ (by assumption)))
  have Bw95 := Lib.hid (bt Bw87.out hs95)
  have BW95 := Lib.hid (bt BW87.out hs95)
  have X96 := Lib.hid (X88.out.below hs95)
  have X97 := Lib.hid (X89.out.below hs95)
  have N98 := Lib.hid (N90.out.below hs95)
  clear Bw87 BW87 X88 X89 N90
  go_wp2_with fail
  refine (laws_eqIntS _ _ g0 g0 _ (I95_0.out.below (by (repeat (with_reducible first | exact Below.refl _ _ | assumption | refine ba ?_ _ | refine bd ?_ | refine bdN ?_ _ | refine bs ?_ (by first | exact Nat.le_refl _ | (dsimp only; omega) | (simp; done)) _ | refine bt ?_ (by assumption))))) (IW0.out.below (bt BW95.out (by (repeat (with_reducible first | exact Below.refl _ _ | assumption | refine ba ?_ _ | refine bd ?_ | refine bdN ?_ _ | refine bs ?_ (by first | exact Nat.le_refl _ | (dsimp only; omega) | (simp; done)) _ | refine bt ?_ (by assumption))))))).mono ?_
  rintro _ w99 ⟨rfl, hb99⟩
  have hs99 : Below w95.heap.size w95 w99 := by (repeat (with_reducible first | exact Below.refl _ _ | assumption | refine ba ?_ _ | refine bd ?_ | refine bdN ?_ _ | refine bs ?_ (by first | exact Nat.le_refl _ | (dsimp only; omega) | (simp; done)) _ | refine bt ?_ (by assumption)))
  have Bw99 := Lib.hid (bt Bw95.out hs99)
  have BW99 := Lib.hid (bt BW95.out hs99)
  have X100 := Lib.hid (X96.out.below hs99)
  have X101 := Lib.hid (X97.out.below hs99)
  have J102 := Lib.hid (I95_0.out.below hs99)
  have N103 := Lib.hid (N98.out.below hs99)
  clear Bw95 BW95 X96 X97 I95_0 N98
  rw [decide_eq_true (rfl : g0 = g0)]
  go_wp2_with fail
  refine (laws_heldIntS _ g0.length 1 _ (N103.out.below (by (repeat (with_reducible first | exact Below.refl _ _ | assumption | refine ba ?_ _ | refine bd ?_ | refine bdN ?_ _ | refine bs ?_ (by first | exact Nat.le_refl _ | (dsimp only; omega) | (simp; done)) _ | refine bt ?_ (by assumption))))) (by omega) (by omega)).mono ?_
  rintro _ w104 ⟨rfl, hb104⟩
  have hs104 : Below w99.heap.size w99 w104 := by (repeat (with_reducible first | exact Below.refl _ _ | assumption | refine ba ?_ _ | refine bd ?_ | refine bdN ?_ _ | refine bs ?_ (by first | exact Nat.le_refl _ | (dsimp only; omega) | (simp; done)) _ | refine bt ?_ (by assumption)))
  have Bw104 := Lib.hid (bt Bw99.out hs104)
  have BW104 := Lib.hid (bt BW99.out hs104)
  have X105 := Lib.hid (X100.out.below hs104)
  have X106 := Lib.hid (X101.out.below hs104)
  have J107 := Lib.hid (J102.out.below hs104)
  have N108 := Lib.hid (N103.out.below hs104)
  clear Bw99 BW99 X100 X101 J102 N103
  rw [← HK86.out]
  have hk0 : ¬ ((K86 : Nat) : Int) < 0 := Int.not_lt.2 (Int.natCast_nonneg _)
  go_wp2_with fail
  go_ret
  exact ⟨rfl, Bw104.out⟩

/-! ### THE STEP TO THE ROW -/
set_option maxRecDepth 100000 in
theorem lifted (os : Os) (started : os.Started) (H : Type) (enc : TypeId × Value → H) :
    ReturnsInHanded {} Tryz.checked os 3 .any (Rows.fnExactStaleDirsSpec.pre6 enc Tryz.prog Tryz.f3 Rows.fnExactStaleDirsRow.domain false) (Rows.fnExactStaleDirsSpec.post enc Tryz.prog Tryz.f3 false true false false) := by
  refine returnsInHanded_of_change (C := Tryz.checked) own started (by kernel_rfl) Tryz.func3
    (ChangeSpec.witness6 (enc := enc) (C := Tryz.checked) false ⟨#[], #[.agg #[.slice none 0 0, .int .i64 0, .int .i64 0], .agg #[.slice none 0 0, .int .i64 0, .slice none 0 0]], []⟩ 8 (by kernel_rfl) (by kernel_rfl) (by kernel_rfl) (by kernel_rfl)) ?_
  intro W base args ds gs before hval0 hW hcnd _
  have hval : ∀ (j : Nat) t v, Tryz.f3.params[j]? = some t → args[j]? = some v → Value.okWide Tryz.prog W .any base t v := hval0
  have hW' := hW
  obtain ⟨p, q, hA0, hV, rfl, hfz, hnd⟩ := hW
  have hA : DataW.TrodAll enc Tryz.prog W 0 (fun _ => true) true Tryz.f3.params.toList args.toList ds p := hA0
  rw [Tryz.params3] at hA hval
  obtain ⟨v0, vs0, d0, ds0, p0, q0, hargs, rfl, rfl, h0, r0⟩ := trodAll_cons hA
  obtain ⟨v1, vs1, d1, ds1, p1, q1, rfl, rfl, rfl, h1, r1⟩ := trodAll_cons r0
  obtain ⟨rfl, rfl, rfl⟩ := trodAll_nil r1
  obtain rfl : args = #[v0, v1] := by cases args; simp_all
  obtain ⟨rfl, rfl⟩ := trodVars_none hV
  obtain ⟨cs0, rfl, _⟩ := okWide_struct Tryz.underlying24 (hval 0 24 v0 rfl rfl)
  have k0 := h0
  have lt0 : ∀ x ∈ p0, x.block < W.heap.size := by obtain ⟨m, hm⟩ := k0; exact DataW.trod_lt m _ _ _ hm
  obtain ⟨ys0, uv0, c0, d0, et0, w0⟩ : ∃ ds uv c d, cs0 = #[uv, .int .i64 c, .int .i64 d] ∧ DirsIn W (fun _ => True) uv ds ∧ ShortD maxLen ds := by
    obtain ⟨fuel, hf⟩ := h0
    obtain ⟨a', len', cap', ds, c, d, e0, e3, e4⟩ := read_finder hf
    exact ⟨ds, _, c, d, by rw [← Array.toList_inj]; simpa [Value.cells] using e0, e3, e4⟩
  subst et0
  obtain ⟨cs1, rfl, _⟩ := okWide_struct Tryz.underlying29 (hval 1 29 v1 rfl rfl)
  have k1 := h1
  have lt1 : ∀ x ∈ p1, x.block < W.heap.size := by obtain ⟨m, hm⟩ := k1; exact DataW.trod_lt m _ _ _ hm
  obtain ⟨xs1, tv1, c1, ys1, uv1, et1, w1⟩ : ∃ fs tv c ds uv, cs1 = #[tv, .int .i64 c, uv] ∧ DskIn W (fun _ => True) tv fs uv ds ∧ ShortK maxLen fs ds := by
    obtain ⟨fuel, hf⟩ := h1
    obtain ⟨a, len, cap, fs, c, a', len', cap', ds, e0, e1, e2, e3, e4⟩ := read_disk hf
    exact ⟨fs, _, c, ds, _, by rw [← Array.toList_inj]; simpa [Value.cells] using e0, ⟨e1, e3⟩, ⟨e2, e4⟩⟩
  subst et1
  clear hA0 hval0
  refine (walk uv0 ys0 c0 d0 tv1 xs1 c1 uv1 ys1 W w0 w1).mono fun e W' ⟨he, bel⟩ => ?_
  subst he
  exact ⟨_, rfl, _, _, _, [], _, [], hW', trodAll_mk1 (shut_bool Tryz.underlying4 _), (trodAll_cons_mk (Below.trod laidOut (by kernel_rfl) (of_decide_eq_true (by kernel_rfl)) k0 bel lt0) (trodAll_cons_mk (Below.trod laidOut (by kernel_rfl) (of_decide_eq_true (by kernel_rfl)) k1 bel lt1) trodAll_mk0)), rfl, bel.frame _, fun h => by cases h⟩

theorem over : Rows.fnExactStaleDirsRow.holds Tryz.pinned (OpenSpec.ofChange Rows.fnExactStaleDirsSpec) :=
  OpenClaim.holds_of_wide 3 Tryz.f3 rfl rfl rfl rfl rfl rfl rfl ⟨rfl, rfl, rfl, rfl, rfl⟩ rfl rfl rfl rfl rfl (by kernel_rfl) Tryz.func3 (by kernel_rfl)
    (of_decide_eq_true (by kernel_rfl)) (by unfold Func.isWrapper; first | (rw [if_pos (by decide +kernel)]; kernel_rfl) | (rw [if_neg (by decide +kernel)]; exact ⟨rfl, rfl⟩))
    (fun os started H enc _ => lifted os started H enc)

/-- THE STATEMENT -/
theorem proved : Rows.FnExactStaleDirsSaid := over
end Go.Proofs.YtllopbfgiflokaaGreat.FnExactStaleDirs
