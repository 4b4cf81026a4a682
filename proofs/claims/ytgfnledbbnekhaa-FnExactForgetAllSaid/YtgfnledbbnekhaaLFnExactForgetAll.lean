/- FnExactForgetAll returns true for every argument. -/
import Derived.Test.YtgfnledbbnekhaaForget
import Derived.Test.YtgfnledbbnekhaaExDisk
import Derived.Test.YtgfnledbbnekhaaExTools
import Derived.Test.YtgfnledbbnekhaaSzTree
import Derived.Test.YtgfnledbbnekhaaReadIn
import Derived.Test.YtgfnledbbnekhaaHeld
import Derived.Test.YtgfnledbbnekhaaMarks2
import Derived.Test.YtgfnledbbnekhaaInts
import Derived.Test.YtgfnledbbnekhaaStrs
import Derived.Test.YtgfnledbbnekhaaFrame
set_option linter.unusedVariables false
set_option linter.unusedSimpArgs false
namespace Go.Proofs.Ytgfnledbbnekhaa.FnExactForgetAll
open Go.ChangeShapes Go.WideShapes Go.ChangeAt Go.RowKit Go.Proofs.Ytgfnledbbnekhaa.Nm

set_option maxRecDepth 100000 in
set_option maxHeartbeats 16000000 in
theorem walk (u0 : Value) (ds0 : List Dr) (fa0 hi0 : Int) (w : World) (h0 : DirsIn w (fun _ => True) u0 ds0 ∧ ShortD maxLen ds0) :
    Calls Try.prog 8 #[.agg #[u0, .int .i64 fa0, .int .i64 hi0]] w fun e w' => e = .returned (.bool true) ∧ Below w.heap.size w w' := by
  obtain ⟨hr0, hz0⟩ := h0
  have HR0 := Lib.hid hr0
  have HZ0 := Lib.hid hz0
  obtain ⟨ab0, cb0, rfl, hld0, hmd0⟩ := hr0.len
  clear hr0 hz0 hmd0 hld0
  obtain ⟨C0, hC0⟩ : ∃ C, C = drsCost ds0 := ⟨_, rfl⟩
  have HC0 := Lib.hid hC0
  clear hC0
  obtain ⟨g0, hg0⟩ : ∃ g, g = forget ⟨ds0, fa0, hi0⟩ := ⟨_, rfl⟩
  have HG0 := Lib.hid hg0
  clear hg0
  have Hsg0 := Lib.hid (sameFnd_self [] g0.fills g0.hits)
  go_enter Try.func8, Try.ntmps8
  go_wp2_with fail
  refine (laws_szFinder _ ds0 _ _ _ 1048576 _ (HR0.out.below (by (repeat (with_reducible first | exact Below.refl _ _ | assumption | refine ba ?_ _ | refine bd ?_ | refine bdN ?_ _ | refine bs ?_ (by first | exact Nat.le_refl _ | (dsimp only; omega) | (simp; done)) _ | refine bt ?_ (by assumption))))) HZ0.out (by omega)).mono ?_
  rintro _ w1 ⟨r1, rfl, hr1, hb1⟩
  have hs1 : Below w.heap.size w w1 := by (repeat (with_reducible first | exact Below.refl _ _ | assumption | refine ba ?_ _ | refine bd ?_ | refine bdN ?_ _ | refine bs ?_ (by first | exact Nat.le_refl _ | (dsimp only; omega) | (simp; done)) _ | refine bt ?_ (by assumption)))
  have Bw1 := Lib.hid (hs1)
  have X2 := Lib.hid (show BoxC w1 (w.heap.size) #[.slice ab0 ds0.length cb0, .int .i64 fa0, .int .i64 hi0] from ((BoxC.start w #[.slice ab0 ds0.length cb0, .int .i64 fa0, .int .i64 hi0] 58).below hb1).at (by simp))
  rw [← HC0.out] at hr1
  have k3_0 : w1.cell? ⟨w.heap.size, 0, none⟩ = some (.slice ab0 ds0.length cb0) := (X2.out).2 0
  have k3_1 : w1.cell? ⟨w.heap.size, 1, none⟩ = some (.int .i64 fa0) := (X2.out).2 1
  have k3_2 : w1.cell? ⟨w.heap.size, 2, none⟩ = some (.int .i64 hi0) := (X2.out).2 2
  have kl3 := (X2.out).1
  by_cases hn1 : r1 < 0
  · go_wp2_with fail
    go_ret
    exact ⟨rfl, Bw1.out⟩
  obtain ⟨R1, rfl⟩ := Int.eq_ofNat_of_zero_le (show 0 ≤ r1 by omega)
  have hR1 : R1 + C0 ≤ 1048576 := by omega
  clear hr1
  have HL0 := Lib.hid (drCosts_of (by rw [← HC0.out]; omega : drsCost ds0 ≤ 1048576))
  have HS0 := Lib.hid (shortD_mono (B := 2000000) (by omega) (shortD_of (by rw [← HC0.out]; omega : drsCost ds0 ≤ 1048576)))
  have Hse0 := Lib.hid (sameFnd_self ds0 fa0 hi0)
  have HE0 := Lib.hid (fun k => (show endD k ds0 ≤ k + 3 * C0 by rw [HC0.out]; exact endD_le k ds0))
  have hln0 : ds0.length ≤ 1048576 := HL0.out.1
  go_wp2_with fail
  refine (laws_toFinder _ ds0 _ _ _ _ (HR0.out.below (bt Bw1.out (by (repeat (with_reducible first | exact Below.refl _ _ | assumption | refine ba ?_ _ | refine bd ?_ | refine bdN ?_ _ | refine bs ?_ (by first | exact Nat.le_refl _ | (dsimp only; omega) | (simp; done)) _ | refine bt ?_ (by assumption)))))) HL0.out).mono ?_
  rintro _ w4 ⟨u4, qs4, rfl, hqs4, hq4, hb4⟩
  clear k3_0 k3_1 k3_2 kl3
  have hs4 : Below w1.heap.size w1 w4 := by (repeat (with_reducible first | exact Below.refl _ _ | assumption | refine ba ?_ _ | refine bd ?_ | refine bdN ?_ _ | refine bs ?_ (by first | exact Nat.le_refl _ | (dsimp only; omega) | (simp; done)) _ | refine bt ?_ (by assumption)))
  have Bw4 := Lib.hid (bt Bw1.out hs4)
  have X5 := Lib.hid (X2.out.below hs4)
  clear Bw1 X2
  obtain ⟨e4, f4, rfl⟩ := hq4.len
  have hql4 : qs4.length = ds0.length := (by rw [← hqs4, List.length_map])
  rw [hql4] at hq4 ⊢
  have I4 := Lib.hid (show DirsIn w4 (fun _ => True) (.slice e4 ds0.length f4) ds0 by have h := hq4.dirs (D := (fun _ => True)) (fun _ _ => trivial); rw [hqs4] at h; exact h)
  have O4 := Lib.hid hq4
  have Hqs4 := Lib.hid hqs4
  clear hq4 hqs4
  go_wp2_with fail
  refine (spec_ForgetAll _ ds0 _ _ (fun _ => True) _ (I4.out.below (by (repeat (with_reducible first | exact Below.refl _ _ | assumption | refine ba ?_ _ | refine bd ?_ | refine bdN ?_ _ | refine bs ?_ (by first | exact Nat.le_refl _ | (dsimp only; omega) | (simp; done)) _ | refine bt ?_ (by assumption))))) HS0.out).mono ?_
  rintro _ w6 ⟨rfl, hb6⟩
  have hs6 : Below w4.heap.size w4 w6 := by (repeat (with_reducible first | exact Below.refl _ _ | assumption | refine ba ?_ _ | refine bd ?_ | refine bdN ?_ _ | refine bs ?_ (by first | exact Nat.le_refl _ | (dsimp only; omega) | (simp; done)) _ | refine bt ?_ (by assumption)))
  have Bw6 := Lib.hid (bt Bw4.out hs6)
  have X7 := Lib.hid (X5.out.below hs6)
  have J8 := Lib.hid (I4.out.below hs6)
  have Q8 := Lib.hid (O4.out.below hs6)
  clear Bw4 X5 I4 O4
  have Hz6 := Lib.hid (show w4.heap.size ≤ w6.heap.size by have h := hb6.size; first | omega | (simp at h; omega))
  try rw [← HG0.out]
  have I6_0 := Lib.hid (dirs_nil w6)
  have O6_0 := Lib.hid (ownDirs_nil w6 0)
  obtain ⟨WW, hWW⟩ : ∃ WW, WW = (w6.alloc (.cells #[.slice none 0 0, .int .i64 g0.fills, .int .i64 g0.hits] 62)) := ⟨_, rfl⟩
  have hWs : WW.heap.size = w6.heap.size + 1 := by rw [hWW]; simp
  have hcW : Below w6.heap.size w6 WW := by rw [hWW]; (repeat (with_reducible first | exact Below.refl _ _ | assumption | refine ba ?_ _ | refine bd ?_ | refine bdN ?_ _ | refine bs ?_ (by first | exact Nat.le_refl _ | (dsimp only; omega) | (simp; done)) _ | refine bt ?_ (by assumption)))
  have IW0 := Lib.hid (I6_0.out.below hcW)
  have HwW := Lib.hid (bt Bw6.out hcW)
  have Hpl0 := Lib.hid (show w.heap.size < WW.heap.size by have := X7.out.1; omega)
  have Hwl0 := Lib.hid (show w6.heap.size < WW.heap.size by omega)
  have HWs := Lib.hid hWs
  clear hWs hcW
  have k9_0 : w6.cell? ⟨w.heap.size, 0, none⟩ = some (.slice ab0 ds0.length cb0) := (X7.out).2 0
  have k9_1 : w6.cell? ⟨w.heap.size, 1, none⟩ = some (.int .i64 fa0) := (X7.out).2 1
  have k9_2 : w6.cell? ⟨w.heap.size, 2, none⟩ = some (.int .i64 hi0) := (X7.out).2 2
  have kl9 := (X7.out).1
  go_wp2_with fail
  refine (laws_toFinder _ ds0 _ _ _ _ (HR0.out.below (bt Bw6.out (by (repeat (with_reducible first | exact Below.refl _ _ | assumption | refine ba ?_ _ | refine bd ?_ | refine bdN ?_ _ | refine bs ?_ (by first | exact Nat.le_refl _ | (dsimp only; omega) | (simp; done)) _ | refine bt ?_ (by assumption)))))) HL0.out).mono ?_
  rintro _ w10 ⟨u10, qs10, rfl, hqs10, hq10, hb10⟩
  clear k9_0 k9_1 k9_2 kl9
  have hs10 : Below w6.heap.size w6 w10 := by (repeat (with_reducible first | exact Below.refl _ _ | assumption | refine ba ?_ _ | refine bd ?_ | refine bdN ?_ _ | refine bs ?_ (by first | exact Nat.le_refl _ | (dsimp only; omega) | (simp; done)) _ | refine bt ?_ (by assumption)))
  have Bw10 := Lib.hid (bt Bw6.out hs10)
  have BW10 := Lib.hid (show Below WW.heap.size WW w10 by rw [hWW]; exact hb10)
  have X11 := Lib.hid (X7.out.below hs10)
  have X12 := Lib.hid (show BoxC w10 (w6.heap.size) #[.slice none 0 0, .int .i64 g0.fills, .int .i64 g0.hits] from ((BoxC.start w6 #[.slice none 0 0, .int .i64 g0.fills, .int .i64 g0.hits] 62).below hb10).at (by simp))
  clear Bw6 X7
  have Hz10 := Lib.hid (show w6.heap.size + 1 ≤ w10.heap.size by have h := hb10.size; first | omega | (simp at h; omega))
  obtain ⟨e10, f10, rfl⟩ := hq10.len
  have hql10 : qs10.length = ds0.length := (by rw [← hqs10, List.length_map])
  rw [hql10] at hq10 ⊢
  have I10 := Lib.hid (show DirsIn w10 (fun _ => True) (.slice e10 ds0.length f10) ds0 by have h := hq10.dirs (D := (fun _ => True)) (fun _ _ => trivial); rw [hqs10] at h; exact h)
  have O10 := Lib.hid hq10
  have Hqs10 := Lib.hid hqs10
  clear hq10 hqs10
  have OO10 := Lib.hid (O10.out.mono (show w6.heap.size + 1 ≤ _ by simp))
  clear O10
  have Hv10 := Lib.hid (fun b (hb : BlkD (.slice e10 ds0.length f10) qs10 b) => (show w6.heap.size + 1 ≤ b ∧ b < w10.heap.size by have h := (blkD_ge OO10.out) b hb; first | exact h | (simp at h; exact h)))
  go_wp2_with fail
  refine (impl_ForgetAll _ ds0 _ _ (fun _ => True) _ (I10.out.below (by (repeat (with_reducible first | exact Below.refl _ _ | assumption | refine ba ?_ _ | refine bd ?_ | refine bdN ?_ _ | refine bs ?_ (by first | exact Nat.le_refl _ | (dsimp only; omega) | (simp; done)) _ | refine bt ?_ (by assumption))))) HS0.out).mono ?_
  rintro _ w13 ⟨rfl, hb13⟩
  have hs13 : Below w10.heap.size w10 w13 := by (repeat (with_reducible first | exact Below.refl _ _ | assumption | refine ba ?_ _ | refine bd ?_ | refine bdN ?_ _ | refine bs ?_ (by first | exact Nat.le_refl _ | (dsimp only; omega) | (simp; done)) _ | refine bt ?_ (by assumption)))
  have Bw13 := Lib.hid (bt Bw10.out hs13)
  have BW13 := Lib.hid (bt BW10.out hs13)
  have X14 := Lib.hid (X11.out.below hs13)
  have X15 := Lib.hid (X12.out.below hs13)
  have X16 := Lib.hid (show BoxC w13 (w10.heap.size) #[.slice e10 ds0.length f10, .int .i64 fa0, .int .i64 hi0] from ((BoxC.start w10 #[.slice e10 ds0.length f10, .int .i64 fa0, .int .i64 hi0] 62).below hb13).at (by simp))
  have J17 := Lib.hid (I10.out.below hs13)
  have Q17 := Lib.hid (OO10.out.below hs13)
  clear Bw10 BW10 X11 X12 I10 OO10
  have Hz13 := Lib.hid (show w10.heap.size + 1 ≤ w13.heap.size by have h := hb13.size; first | omega | (simp at h; omega))
  try rw [← HG0.out]
  have I13_0 := Lib.hid (dirs_nil w13)
  have O13_0 := Lib.hid (ownDirs_nil w13 0)
  have OO13_0 := Lib.hid (ownDirs_re O13_0.out (w10.heap.size + 1))
  clear O13_0
  have Hv18 := Lib.hid (fun b (hb : BlkD (.slice none 0 0) [] b) => (show w10.heap.size + 1 ≤ b ∧ b < w13.heap.size by have h := (blkD_ge OO13_0.out) b hb; first | exact h | (simp at h; exact h)))
  have k19_0 : w13.cell? ⟨w6.heap.size, 0, none⟩ = some (.slice none 0 0) := (X15.out).2 0
  have k19_1 : w13.cell? ⟨w6.heap.size, 1, none⟩ = some (.int .i64 g0.fills) := (X15.out).2 1
  have k19_2 : w13.cell? ⟨w6.heap.size, 2, none⟩ = some (.int .i64 g0.hits) := (X15.out).2 2
  have kl19 := (X15.out).1
  go_wp2_with fail
  refine (laws_eqFinderX _ _ _ _ _ _ [] [] (fun _ => True) (fun _ => True) _ (I13_0.out.below (by (repeat (with_reducible first | exact Below.refl _ _ | assumption | refine ba ?_ _ | refine bd ?_ | refine bdN ?_ _ | refine bs ?_ (by first | exact Nat.le_refl _ | (dsimp only; omega) | (simp; done)) _ | refine bt ?_ (by assumption))))) (IW0.out.below (bt BW13.out (by (repeat (with_reducible first | exact Below.refl _ _ | assumption | refine ba ?_ _ | refine bd ?_ | refine bdN ?_ _ | refine bs ?_ (by first | exact Nat.le_refl _ | (dsimp only; omega) | (simp; done)) _ | refine bt ?_ (by assumption))))))).mono ?_
  rintro _ w20 ⟨rfl, hb20⟩
  clear k19_0 k19_1 k19_2 kl19
  have hs20 : Below w13.heap.size w13 w20 := by (repeat (with_reducible first | exact Below.refl _ _ | assumption | refine ba ?_ _ | refine bd ?_ | refine bdN ?_ _ | refine bs ?_ (by first | exact Nat.le_refl _ | (dsimp only; omega) | (simp; done)) _ | refine bt ?_ (by assumption)))
  have Bw20 := Lib.hid (bt Bw13.out hs20)
  have BW20 := Lib.hid (bt BW13.out hs20)
  have X21 := Lib.hid (X14.out.below hs20)
  have X22 := Lib.hid (X15.out.below hs20)
  have X23 := Lib.hid (X16.out.below hs20)
  have X24 := Lib.hid (show BoxC w20 (w13.heap.size) #[.slice none 0 0, .int .i64 g0.fills, .int .i64 g0.hits] from ((BoxC.start w13 #[.slice none 0 0, .int .i64 g0.fills, .int .i64 g0.hits] 62).below hb20).at (by simp))
  have J25 := Lib.hid (J17.out.below hs20)
  have Q25 := Lib.hid (Q17.out.below hs20)
  have J26 := Lib.hid (I13_0.out.below hs20)
  have Q26 := Lib.hid (OO13_0.out.below hs20)
  clear Bw13 BW13 X14 X15 X16 J17 Q17 I13_0 OO13_0
  rw [Hsg0.out]
  have Hk27 := Lib.hid (fun (w' : World) (hC : Below w20.heap.size w20 w') => (⟨((X21.out).below hC).2 0, ((X21.out).below hC).2 1, ((X21.out).below hC).2 2, ((X23.out).below hC).2 0, ((X23.out).below hC).2 1, ((X23.out).below hC).2 2, hC⟩ : w'.cell? ⟨w.heap.size, 0, none⟩ = some (.slice ab0 ds0.length cb0) ∧ w'.cell? ⟨w.heap.size, 1, none⟩ = some (.int .i64 fa0) ∧ w'.cell? ⟨w.heap.size, 2, none⟩ = some (.int .i64 hi0) ∧ w'.cell? ⟨w10.heap.size, 0, none⟩ = some (.slice e10 ds0.length f10) ∧ w'.cell? ⟨w10.heap.size, 1, none⟩ = some (.int .i64 fa0) ∧ w'.cell? ⟨w10.heap.size, 2, none⟩ = some (.int .i64 hi0) ∧ Below w20.heap.size w20 w'))
  have HPHk27 := Lib.hid (HR0.out.below Bw20.out)
  go_wp2_with fail
  go_region_held3 (fun w' => w'.cell? ⟨w.heap.size, 0, none⟩ = some (.slice ab0 ds0.length cb0) ∧ w'.cell? ⟨w.heap.size, 1, none⟩ = some (.int .i64 fa0) ∧ w'.cell? ⟨w.heap.size, 2, none⟩ = some (.int .i64 hi0) ∧ w'.cell? ⟨w10.heap.size, 0, none⟩ = some (.slice e10 ds0.length f10) ∧ w'.cell? ⟨w10.heap.size, 1, none⟩ = some (.int .i64 fa0) ∧ w'.cell? ⟨w10.heap.size, 2, none⟩ = some (.int .i64 hi0) ∧ Below w20.heap.size w20 w')
    (exact Hk27.out _ (by (repeat (with_reducible first | exact Below.refl _ _ | assumption | refine ba ?_ _ | refine bd ?_ | refine bdN ?_ _ | refine bs ?_ (by first | exact Nat.le_refl _ | (dsimp only; omega) | (simp; done)) _ | refine bt ?_ (by assumption)))))
    (first
      | (go_at_call 31; refine (laws_toFinder _ ds0 _ _ _ _ (HPHk27.out.below (by (repeat (with_reducible first | exact Below.refl _ _ | assumption | refine ba ?_ _ | refine bd ?_ | refine bdN ?_ _ | refine bs ?_ (by first | exact Nat.le_refl _ | (dsimp only; omega) | (simp; done)) _ | refine bt ?_ (by assumption))))) HL0.out).mono ?_; rintro _ w28 ⟨u28, qs28, rfl, hqs28, hq28, hb28⟩; obtain ⟨e28, f28, rfl⟩ := hq28.len; have hql28 : qs28.length = ds0.length := (by rw [← hqs28, List.length_map]); rw [hql28] at hq28 ⊢; have I28 := Lib.hid (show DirsIn w28 (fun _ => True) (.slice e28 ds0.length f28) ds0 by have h := hq28.dirs (D := (fun _ => True)) (fun _ _ => trivial); rw [hqs28] at h; exact h); have O28 := Lib.hid hq28; have Hqs28 := Lib.hid hqs28; clear hq28 hqs28)
      | (go_at_call 33; refine (laws_eqFinderX _ _ _ _ _ _ ds0 ds0 (fun _ => True) (fun _ => True) _ (J25.out.below (by (repeat (with_reducible first | exact Below.refl _ _ | assumption | refine ba ?_ _ | refine bd ?_ | refine bdN ?_ _ | refine bs ?_ (by first | exact Nat.le_refl _ | (dsimp only; omega) | (simp; done)) _ | refine bt ?_ (by assumption))))) (I28.out.below (by (repeat (with_reducible first | exact Below.refl _ _ | assumption | refine ba ?_ _ | refine bd ?_ | refine bdN ?_ _ | refine bs ?_ (by first | exact Nat.le_refl _ | (dsimp only; omega) | (simp; done)) _ | refine bt ?_ (by assumption)))))).mono ?_; rintro _ w29 ⟨rfl, hb29⟩; rw [Hse0.out]))
  have hs29 : Below w20.heap.size w20 w29 := by (repeat (with_reducible first | exact Below.refl _ _ | assumption | refine ba ?_ _ | refine bd ?_ | refine bdN ?_ _ | refine bs ?_ (by first | exact Nat.le_refl _ | (dsimp only; omega) | (simp; done)) _ | refine bt ?_ (by assumption)))
  have Bw29 := Lib.hid (bt Bw20.out hs29)
  have BW29 := Lib.hid (bt BW20.out hs29)
  have X30 := Lib.hid (X21.out.below hs29)
  have X31 := Lib.hid (X22.out.below hs29)
  have X32 := Lib.hid (X23.out.below hs29)
  have X33 := Lib.hid (X24.out.below hs29)
  have J34 := Lib.hid (J25.out.below hs29)
  have Q34 := Lib.hid (Q25.out.below hs29)
  have J35 := Lib.hid (J26.out.below hs29)
  have Q35 := Lib.hid (Q26.out.below hs29)
  clear Bw20 BW20 X21 X22 X23 X24 J25 Q25 J26 Q26
  have k36_0 : w29.cell? ⟨w10.heap.size, 0, none⟩ = some (.slice e10 ds0.length f10) := (X32.out).2 0
  have k36_1 : w29.cell? ⟨w10.heap.size, 1, none⟩ = some (.int .i64 fa0) := (X32.out).2 1
  have k36_2 : w29.cell? ⟨w10.heap.size, 2, none⟩ = some (.int .i64 hi0) := (X32.out).2 2
  have kl36 := (X32.out).1
  go_wp2_with fail
  have hkk : 1 ≤ 1 := by omega
  refine (laws_markFinder (w6.heap.size + 1) _ _ _ qs10 1 _ (Q34.out.below (by (repeat (with_reducible first | exact Below.refl _ _ | assumption | refine ba ?_ _ | refine bd ?_ | refine bdN ?_ _ | refine bs ?_ (by first | exact Nat.le_refl _ | (dsimp only; omega) | (simp; done)) _ | refine bt ?_ (by assumption))))) hkk (by rw [Hqs10.out]; have := HE0.out 1; omega) (by omega)).mono ?_
  rintro _ w37 ⟨rfl, _, ht37⟩
  clear k36_0 k36_1 k36_2 kl36
  have Ht37 := Lib.hid ht37
  clear ht37
  have BW37 := Lib.hid (BW29.out.trans (Ht37.out.below BW29.out.size (fun b hb => by have := (Hv10.out b hb).1; have := Hpl0.out; have := Hwl0.out; have := HWs.out; have := Hz10.out; have := Hz13.out; omega)))
  have Bw37 := Lib.hid (show Below w.heap.size w w37 from HwW.out.trans (BW37.out.mono HwW.out.size))
  have X38 := Lib.hid (X30.out.turned Ht37.out (fun hb => by have := Hv10.out _ hb; have := Hpl0.out; have := Hwl0.out; have := HWs.out; have := Hz10.out; have := Hz13.out; omega))
  have X39 := Lib.hid (X31.out.turned Ht37.out (fun hb => by have := Hv10.out _ hb; have := Hpl0.out; have := Hwl0.out; have := HWs.out; have := Hz10.out; have := Hz13.out; omega))
  have X40 := Lib.hid (X32.out.turned Ht37.out (fun hb => by have := Hv10.out _ hb; have := Hpl0.out; have := Hwl0.out; have := HWs.out; have := Hz10.out; have := Hz13.out; omega))
  have X41 := Lib.hid (X33.out.turned Ht37.out (fun hb => by have := Hv10.out _ hb; have := Hpl0.out; have := Hwl0.out; have := HWs.out; have := Hz10.out; have := Hz13.out; omega))
  have Q42 := Lib.hid (dirs_turned Q35.out Ht37.out (fun b hb hS => by have := Hv10.out b hS; have := Hv18.out b hb; have := Hpl0.out; have := Hwl0.out; have := HWs.out; have := Hz10.out; have := Hz13.out; omega))
  clear Bw29 BW29 X30 X31 X32 X33 J34 Q34 J35 Q35
  clear hkk
  obtain ⟨K43, hK43⟩ : ∃ K, K = endD 1 (qs10.map (·.1)) := ⟨_, rfl⟩
  have hK43b : 1 ≤ K43 ∧ K43 ≤ 1 + 3 * C0 := by rw [hK43]; exact ⟨endD_mono _ _, by rw [Hqs10.out]; exact HE0.out 1⟩
  rw [← hK43]
  have HK43 := Lib.hid hK43
  clear hK43
  have hk0 : ¬ ((K43 : Nat) : Int) < 0 := Int.not_lt.2 (Int.natCast_nonneg _)
  have I_44 := Lib.hid (dirs_nil w37)
  have k45_0 : w37.cell? ⟨w6.heap.size, 0, none⟩ = some (.slice none 0 0) := (X39.out).2 0
  have k45_1 : w37.cell? ⟨w6.heap.size, 1, none⟩ = some (.int .i64 g0.fills) := (X39.out).2 1
  have k45_2 : w37.cell? ⟨w6.heap.size, 2, none⟩ = some (.int .i64 g0.hits) := (X39.out).2 2
  have kl45 := (X39.out).1
  have k46_0 : w37.cell? ⟨w13.heap.size, 0, none⟩ = some (.slice none 0 0) := (X41.out).2 0
  have k46_1 : w37.cell? ⟨w13.heap.size, 1, none⟩ = some (.int .i64 g0.fills) := (X41.out).2 1
  have k46_2 : w37.cell? ⟨w13.heap.size, 2, none⟩ = some (.int .i64 g0.hits) := (X41.out).2 2
  have kl46 := (X41.out).1
  go_wp2_with fail
  refine (laws_eqFinderX _ _ _ _ _ _ [] [] (fun _ => True) (fun _ => True) _ (I_44.out.below (by (repeat (with_reducible first | exact Below.refl _ _ | assumption | refine ba ?_ _ | refine bd ?_ | refine bdN ?_ _ | refine bs ?_ (by first | exact Nat.le_refl _ | (dsimp only; omega) | (simp; done)) _ | refine bt ?_ (by assumption))))) (IW0.out.below (bt BW37.out (by (repeat (with_reducible first | exact Below.refl _ _ | assumption | refine ba ?_ _ | refine bd ?_ | refine bdN ?_ _ | refine bs ?_ (by first | exact Nat.le_refl _ | (dsimp only; omega) | (simp; done)) _ | refine bt ?_ (by assumption))))))).mono ?_
  rintro _ w47 ⟨rfl, hb47⟩
  clear hk0 k45_0 k45_1 k45_2 kl45 k46_0 k46_1 k46_2 kl46
  have hs47 : Below w37.heap.size w37 w47 := by (repeat (with_reducible first | exact Below.refl _ _ | assumption | refine ba ?_ _ | refine bd ?_ | refine bdN ?_ _ | refine bs ?_ (by first | exact Nat.le_refl _ | (dsimp only; omega) | (simp; done)) _ | refine bt ?_ (by assumption)))
  have Bw47 := Lib.hid (bt Bw37.out hs47)
  have BW47 := Lib.hid (bt BW37.out hs47)
  have X48 := Lib.hid (X38.out.below hs47)
  have X49 := Lib.hid (X39.out.below hs47)
  have X50 := Lib.hid (X41.out.below hs47)
  have J51 := Lib.hid (I_44.out.below hs47)
  have Q51 := Lib.hid (Q42.out.below hs47)
  clear Bw37 BW37 X38 X39 X41 I_44 Q42
  rw [Hsg0.out]
  have k52_0 : w47.cell? ⟨w13.heap.size, 0, none⟩ = some (.slice none 0 0) := (X50.out).2 0
  have k52_1 : w47.cell? ⟨w13.heap.size, 1, none⟩ = some (.int .i64 g0.fills) := (X50.out).2 1
  have k52_2 : w47.cell? ⟨w13.heap.size, 2, none⟩ = some (.int .i64 g0.hits) := (X50.out).2 2
  have kl52 := (X50.out).1
  go_wp2_with fail
  have hkk : 1 ≤ 1 := by omega
  refine (laws_markFinder0 (w10.heap.size + 1) _ _ 1 _ (Q51.out.below (by (repeat (with_reducible first | exact Below.refl _ _ | assumption | refine ba ?_ _ | refine bd ?_ | refine bdN ?_ _ | refine bs ?_ (by first | exact Nat.le_refl _ | (dsimp only; omega) | (simp; done)) _ | refine bt ?_ (by assumption))))) hkk (by omega)).mono ?_
  rintro _ w53 ⟨rfl, hm53, ht53⟩
  clear k52_0 k52_1 k52_2 kl52
  have M53 := Lib.hid (dirs_nil w53)
  clear hm53
  have Ht53 := Lib.hid ht53
  clear ht53
  have BW53 := Lib.hid (BW47.out.trans (Ht53.out.below BW47.out.size (fun b hb => by have := (Hv18.out b hb).1; have := Hpl0.out; have := Hwl0.out; have := HWs.out; have := Hz10.out; have := Hz13.out; omega)))
  have Bw53 := Lib.hid (show Below w.heap.size w w53 from HwW.out.trans (BW53.out.mono HwW.out.size))
  have X54 := Lib.hid (X48.out.turned Ht53.out (fun hb => by have := Hv18.out _ hb; have := Hpl0.out; have := Hwl0.out; have := HWs.out; have := Hz10.out; have := Hz13.out; omega))
  have X55 := Lib.hid (X49.out.turned Ht53.out (fun hb => by have := Hv18.out _ hb; have := Hpl0.out; have := Hwl0.out; have := HWs.out; have := Hz10.out; have := Hz13.out; omega))
  have X56 := Lib.hid (X50.out.turned Ht53.out (fun hb => by have := Hv18.out _ hb; have := Hpl0.out; have := Hwl0.out; have := HWs.out; have := Hz10.out; have := Hz13.out; omega))
  clear Bw47 BW47 X48 X49 X50 J51 Q51
  clear hkk
  obtain ⟨K57, hK57⟩ : ∃ K, K = 1 + 0 := ⟨_, rfl⟩
  have hK57b : 1 ≤ K57 ∧ K57 ≤ 1 + 0 := by rw [hK57]; exact ⟨by omega, by omega⟩
  rw [← hK57]
  have HK57 := Lib.hid hK57
  clear hK57
  have k58_0 : w53.cell? ⟨w13.heap.size, 0, none⟩ = some (.slice none 0 0) := (X56.out).2 0
  have k58_1 : w53.cell? ⟨w13.heap.size, 1, none⟩ = some (.int .i64 g0.fills) := (X56.out).2 1
  have k58_2 : w53.cell? ⟨w13.heap.size, 2, none⟩ = some (.int .i64 g0.hits) := (X56.out).2 2
  have kl58 := (X56.out).1
  go_wp2_with fail
  refine (laws_heldFinder00 _ _ 1 _ (M53.out.below (by (repeat (with_reducible first | exact Below.refl _ _ | assumption | refine ba ?_ _ | refine bd ?_ | refine bdN ?_ _ | refine bs ?_ (by first | exact Nat.le_refl _ | (dsimp only; omega) | (simp; done)) _ | refine bt ?_ (by assumption)))))).mono ?_
  rintro _ w59 ⟨rfl, hb59⟩
  clear k58_0 k58_1 k58_2 kl58
  have hs59 : Below w53.heap.size w53 w59 := by (repeat (with_reducible first | exact Below.refl _ _ | assumption | refine ba ?_ _ | refine bd ?_ | refine bdN ?_ _ | refine bs ?_ (by first | exact Nat.le_refl _ | (dsimp only; omega) | (simp; done)) _ | refine bt ?_ (by assumption)))
  have Bw59 := Lib.hid (bt Bw53.out hs59)
  have BW59 := Lib.hid (bt BW53.out hs59)
  have X60 := Lib.hid (X54.out.below hs59)
  have X61 := Lib.hid (X55.out.below hs59)
  have X62 := Lib.hid (X56.out.below hs59)
  have N63 := Lib.hid (M53.out.below hs59)
  clear Bw53 BW53 X54 X55 X56 M53
  rw [← HK57.out]
  have hk0 : ¬ ((K57 : Nat) : Int) < 0 := Int.not_lt.2 (Int.natCast_nonneg _)
  have k64_0 : w59.cell? ⟨w.heap.size, 0, none⟩ = some (.slice ab0 ds0.length cb0) := (X60.out).2 0
  have k64_1 : w59.cell? ⟨w.heap.size, 1, none⟩ = some (.int .i64 fa0) := (X60.out).2 1
  have k64_2 : w59.cell? ⟨w.heap.size, 2, none⟩ = some (.int .i64 hi0) := (X60.out).2 2
  have kl64 := (X60.out).1
  go_wp2_with fail
  refine (laws_toFinder _ ds0 _ _ _ _ (HR0.out.below (bt Bw59.out (by (repeat (with_reducible first | exact Below.refl _ _ | assumption | refine ba ?_ _ | refine bd ?_ | refine bdN ?_ _ | refine bs ?_ (by first | exact Nat.le_refl _ | (dsimp only; omega) | (simp; done)) _ | refine bt ?_ (by assumption)))))) HL0.out).mono ?_
  rintro _ w65 ⟨u65, qs65, rfl, hqs65, hq65, hb65⟩
  clear hk0 k64_0 k64_1 k64_2 kl64
  have hs65 : Below w59.heap.size w59 w65 := by (repeat (with_reducible first | exact Below.refl _ _ | assumption | refine ba ?_ _ | refine bd ?_ | refine bdN ?_ _ | refine bs ?_ (by first | exact Nat.le_refl _ | (dsimp only; omega) | (simp; done)) _ | refine bt ?_ (by assumption)))
  have Bw65 := Lib.hid (bt Bw59.out hs65)
  have BW65 := Lib.hid (bt BW59.out hs65)
  have X66 := Lib.hid (X60.out.below hs65)
  have X67 := Lib.hid (X61.out.below hs65)
  have X68 := Lib.hid (X62.out.below hs65)
  have N69 := Lib.hid (N63.out.below hs65)
  clear Bw59 BW59 X60 X61 X62 N63
  obtain ⟨e65, f65, rfl⟩ := hq65.len
  have hql65 : qs65.length = ds0.length := (by rw [← hqs65, List.length_map])
  rw [hql65] at hq65 ⊢
  have I65 := Lib.hid (show DirsIn w65 (fun _ => True) (.slice e65 ds0.length f65) ds0 by have h := hq65.dirs (D := (fun _ => True)) (fun _ _ => trivial); rw [hqs65] at h; exact h)
  have O65 := Lib.hid hq65
  have Hqs65 := Lib.hid hqs65
  clear hq65 hqs65
  go_wp2_with fail
  refine (impl_ForgetAll _ ds0 _ _ (fun _ => True) _ (I65.out.below (by (repeat (with_reducible first | exact Below.refl _ _ | assumption | refine ba ?_ _ | refine bd ?_ | refine bdN ?_ _ | refine bs ?_ (by first | exact Nat.le_refl _ | (dsimp only; omega) | (simp; done)) _ | refine bt ?_ (by assumption))))) HS0.out).mono ?_
  rintro _ w70 ⟨rfl, hb70⟩
  have hs70 : Below w65.heap.size w65 w70 := by (repeat (with_reducible first | exact Below.refl _ _ | assumption | refine ba ?_ _ | refine bd ?_ | refine bdN ?_ _ | refine bs ?_ (by first | exact Nat.le_refl _ | (dsimp only; omega) | (simp; done)) _ | refine bt ?_ (by assumption)))
  have Bw70 := Lib.hid (bt Bw65.out hs70)
  have BW70 := Lib.hid (bt BW65.out hs70)
  have X71 := Lib.hid (X66.out.below hs70)
  have X72 := Lib.hid (X67.out.below hs70)
  have X73 := Lib.hid (X68.out.below hs70)
  have J74 := Lib.hid (I65.out.below hs70)
  have Q74 := Lib.hid (O65.out.below hs70)
  have N75 := Lib.hid (N69.out.below hs70)
  clear Bw65 BW65 X66 X67 X68 I65 O65 N69
  have Hz70 := Lib.hid (show w65.heap.size ≤ w70.heap.size by have h := hb70.size; first | omega | (simp at h; omega))
  try rw [← HG0.out]
  have I70_0 := Lib.hid (dirs_nil w70)
  have O70_0 := Lib.hid (ownDirs_nil w70 0)
  have k76_0 : w70.cell? ⟨w6.heap.size, 0, none⟩ = some (.slice none 0 0) := (X72.out).2 0
  have k76_1 : w70.cell? ⟨w6.heap.size, 1, none⟩ = some (.int .i64 g0.fills) := (X72.out).2 1
  have k76_2 : w70.cell? ⟨w6.heap.size, 2, none⟩ = some (.int .i64 g0.hits) := (X72.out).2 2
  have kl76 := (X72.out).1
  go_wp2_with fail
  refine (laws_eqFinderX _ _ _ _ _ _ [] [] (fun _ => True) (fun _ => True) _ (I70_0.out.below (by (repeat (with_reducible first | exact Below.refl _ _ | assumption | refine ba ?_ _ | refine bd ?_ | refine bdN ?_ _ | refine bs ?_ (by first | exact Nat.le_refl _ | (dsimp only; omega) | (simp; done)) _ | refine bt ?_ (by assumption))))) (IW0.out.below (bt BW70.out (by (repeat (with_reducible first | exact Below.refl _ _ | assumption | refine ba ?_ _ | refine bd ?_ | refine bdN ?_ _ | refine bs ?_ (by first | exact Nat.le_refl _ | (dsimp only; omega) | (simp; done)) _ | refine bt ?_ (by assumption))))))).mono ?_
  rintro _ w77 ⟨rfl, hb77⟩
  clear k76_0 k76_1 k76_2 kl76
  have hs77 : Below w70.heap.size w70 w77 := by (repeat (with_reducible first | exact Below.refl _ _ | assumption | refine ba ?_ _ | refine bd ?_ | refine bdN ?_ _ | refine bs ?_ (by first | exact Nat.le_refl _ | (dsimp only; omega) | (simp; done)) _ | refine bt ?_ (by assumption)))
  have Bw77 := Lib.hid (bt Bw70.out hs77)
  have BW77 := Lib.hid (bt BW70.out hs77)
  have X78 := Lib.hid (X71.out.below hs77)
  have X79 := Lib.hid (X72.out.below hs77)
  have X80 := Lib.hid (show BoxC w77 (w70.heap.size) #[.slice none 0 0, .int .i64 g0.fills, .int .i64 g0.hits] from ((BoxC.start w70 #[.slice none 0 0, .int .i64 g0.fills, .int .i64 g0.hits] 62).below hb77).at (by simp))
  have X81 := Lib.hid (X73.out.below hs77)
  have J82 := Lib.hid (I70_0.out.below hs77)
  have N83 := Lib.hid (N75.out.below hs77)
  clear Bw70 BW70 X71 X72 X73 I70_0 N75
  rw [Hsg0.out]
  have k84_0 : w77.cell? ⟨w13.heap.size, 0, none⟩ = some (.slice none 0 0) := (X81.out).2 0
  have k84_1 : w77.cell? ⟨w13.heap.size, 1, none⟩ = some (.int .i64 g0.fills) := (X81.out).2 1
  have k84_2 : w77.cell? ⟨w13.heap.size, 2, none⟩ = some (.int .i64 g0.hits) := (X81.out).2 2
  have kl84 := (X81.out).1
  go_wp2_with fail
  refine (laws_heldFinder00 _ _ 1 _ (N83.out.below (by (repeat (with_reducible first | exact Below.refl _ _ | assumption | refine ba ?_ _ | refine bd ?_ | refine bdN ?_ _ | refine bs ?_ (by first | exact Nat.le_refl _ | (dsimp only; omega) | (simp; done)) _ | refine bt ?_ (by assumption)))))).mono ?_
  rintro _ w85 ⟨rfl, hb85⟩
  clear k84_0 k84_1 k84_2 kl84
  have hs85 : Below w77.heap.size w77 w85 := by (repeat (with_reducible first | exact Below.refl _ _ | assumption | refine ba ?_ _ | refine bd ?_ | refine bdN ?_ _ | refine bs ?_ (by first | exact Nat.le_refl _ | (dsimp only; omega) | (simp; done)) _ | refine bt ?_ (by assumption)))
  have Bw85 := Lib.hid (bt Bw77.out hs85)
  have BW85 := Lib.hid (bt BW77.out hs85)
  have X86 := Lib.hid (X78.out.below hs85)
  have X87 := Lib.hid (X79.out.below hs85)
  have X88 := Lib.hid (X80.out.below hs85)
  have X89 := Lib.hid (X81.out.below hs85)
  have J90 := Lib.hid (J82.out.below hs85)
  have N91 := Lib.hid (N83.out.below hs85)
  clear Bw77 BW77 X78 X79 X80 X81 J82 N83
  rw [← HK57.out]
  have hk0 : ¬ ((K57 : Nat) : Int) < 0 := Int.not_lt.2 (Int.natCast_nonneg _)
  go_wp2_with fail
  go_ret
  exact ⟨rfl, Bw85.out⟩

/-! ### THE STEP TO THE ROW -/
set_option maxRecDepth 100000 in
theorem lifted (os : Os) (started : os.Started) (H : Type) (enc : TypeId × Value → H) :
    ReturnsInHanded {} Try.checked os 8 .any (Rows.fnExactForgetAllSpec.pre6 enc Try.prog Try.f8 Rows.fnExactForgetAllRow.domain false) (Rows.fnExactForgetAllSpec.post enc Try.prog Try.f8 false true false false) := by
  refine returnsInHanded_of_change (C := Try.checked) own started (by kernel_rfl) Try.func8
    (ChangeSpec.witness6 (enc := enc) (C := Try.checked) false ⟨#[], #[.agg #[.slice none 0 0, .int .i64 0, .int .i64 0]], []⟩ 8 (by kernel_rfl) (by kernel_rfl) (by kernel_rfl) (by kernel_rfl)) ?_
  intro W base args ds gs before hval0 hW hcnd _
  have hval : ∀ (j : Nat) t v, Try.f8.params[j]? = some t → args[j]? = some v → Value.okWide Try.prog W .any base t v := hval0
  have hW' := hW
  obtain ⟨p, q, hA0, hV, rfl, hfz, hnd⟩ := hW
  have hA : DataW.TrodAll enc Try.prog W 0 (fun _ => true) true Try.f8.params.toList args.toList ds p := hA0
  rw [Try.params8] at hA hval
  obtain ⟨v0, vs0, d0, ds0, p0, q0, hargs, rfl, rfl, h0, r0⟩ := trodAll_cons hA
  obtain ⟨rfl, rfl, rfl⟩ := trodAll_nil r0
  obtain rfl : args = #[v0] := by cases args; simp_all
  obtain ⟨rfl, rfl⟩ := trodVars_none hV
  obtain ⟨cs0, rfl, _⟩ := okWide_struct Try.underlying58 (hval 0 58 v0 rfl rfl)
  have k0 := h0
  have lt0 : ∀ x ∈ p0, x.block < W.heap.size := by obtain ⟨m, hm⟩ := k0; exact DataW.trod_lt m _ _ _ hm
  obtain ⟨ys0, uv0, c0, d0, et0, w0⟩ : ∃ ds uv c d, cs0 = #[uv, .int .i64 c, .int .i64 d] ∧ DirsIn W (fun _ => True) uv ds ∧ ShortD maxLen ds := by
    obtain ⟨fuel, hf⟩ := h0
    obtain ⟨a', len', cap', ds, c, d, e0, e3, e4⟩ := read_finder hf
    exact ⟨ds, _, c, d, by rw [← Array.toList_inj]; simpa [Value.cells] using e0, e3, e4⟩
  subst et0
  clear hA0 hval0
  refine (walk uv0 ys0 c0 d0 W w0).mono fun e W' ⟨he, bel⟩ => ?_
  subst he
  exact ⟨_, rfl, _, _, _, [], _, [], hW', trodAll_mk1 (shut_bool Try.underlying4 _), (trodAll_cons_mk (Below.trod laidOut (by kernel_rfl) (of_decide_eq_true (by kernel_rfl)) k0 bel lt0) trodAll_mk0), rfl, bel.frame _, fun h => by cases h⟩

theorem over : Rows.fnExactForgetAllRow.holds Try.pinned (OpenSpec.ofChange Rows.fnExactForgetAllSpec) :=
  OpenClaim.holds_of_wide 8 Try.f8 rfl rfl rfl rfl rfl rfl rfl ⟨rfl, rfl, rfl, rfl, rfl⟩ rfl rfl rfl rfl rfl (by kernel_rfl) Try.func8 (by kernel_rfl)
    (of_decide_eq_true (by kernel_rfl)) (by unfold Func.isWrapper; first | (rw [if_pos (by decide +kernel)]; kernel_rfl) | (rw [if_neg (by decide +kernel)]; exact ⟨rfl, rfl⟩))
    (fun os started H enc _ => lifted os started H enc)

/-- THE STATEMENT -/
theorem proved : Rows.FnExactForgetAllSaid := over
end Go.Proofs.Ytgfnledbbnekhaa.FnExactForgetAll
