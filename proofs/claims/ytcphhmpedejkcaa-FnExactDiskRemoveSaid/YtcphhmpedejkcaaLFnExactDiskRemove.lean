/- FnExactDiskRemove returns true for every argument. -/
import Derived.Test.YtcphhmpedejkcaaDskH
import Derived.Test.YtcphhmpedejkcaaDskF
import Derived.Test.YtcphhmpedejkcaaExDisk
import Derived.Test.YtcphhmpedejkcaaExTools
import Derived.Test.YtcphhmpedejkcaaSzTree
import Derived.Test.YtcphhmpedejkcaaReadIn
import Derived.Test.YtcphhmpedejkcaaHeld
import Derived.Test.YtcphhmpedejkcaaMarks2
import Derived.Test.YtcphhmpedejkcaaInts
import Derived.Test.YtcphhmpedejkcaaStrs
import Derived.Test.YtcphhmpedejkcaaFrame
set_option linter.unusedVariables false
set_option linter.unusedSimpArgs false
namespace Go.Proofs.Ytcphhmpedejkcaa.FnExactDiskRemove
open Go.ChangeShapes Go.WideShapes Go.ChangeAt Go.RowKit Go.Proofs.Ytcphhmpedejkcaa.Nm

set_option maxRecDepth 100000 in
set_option maxHeartbeats 16000000 in
theorem walk (v0 : Value) (fs0 : List Fil) (k0 : Int) (u0 : Value) (ds0 : List Dr) (n1 : Int) (n2 : Int) (w : World) (h0 : DskIn w (fun _ => True) v0 fs0 u0 ds0 ∧ ShortK maxLen fs0 ds0) (h1 : (Lit.int .i64 n1).wf = true) (h2 : (Lit.int .i64 n2).wf = true) :
    Calls Try.prog 4 #[.agg #[v0, .int .i64 k0, u0], .int .i64 n1, .int .i64 n2] w fun e w' => e = .returned (.bool true) ∧ Below w.heap.size w w' := by
  obtain ⟨hr0, hz0⟩ := h0
  have HR0 := Lib.hid hr0
  have HZ0 := Lib.hid hz0
  obtain ⟨⟨aa0, ca0, rfl, hlc0, hmc0⟩, ⟨ab0, cb0, rfl, hld0, hmd0⟩⟩ := hr0.len
  clear hr0 hz0 hmc0 hmd0 hlc0 hld0
  obtain ⟨C0, hC0⟩ : ∃ C, C = dskCost fs0 ds0 := ⟨_, rfl⟩
  have HC0 := Lib.hid hC0
  clear hC0
  obtain ⟨g0, hg0⟩ : ∃ g, g = (diskRem ⟨fs0, k0, ds0⟩ n1 n2).1 := ⟨_, rfl⟩
  obtain ⟨g1, hg1⟩ : ∃ g, g = (diskRem ⟨fs0, k0, ds0⟩ n1 n2).2 := ⟨_, rfl⟩
  have hgf := diskRem_fine ⟨fs0, k0, ds0⟩ n1 n2
  rw [← hg0] at hgf
  have Hgb0 := Lib.hid (dsk_end hgf.1 hgf.2.1 hgf.2.2.1 hgf.2.2.2)
  have hgl := hgf.2.1
  have hgd := hgf.2.2.1
  clear hgf
  have HG0 := Lib.hid hg0
  clear hg0
  have HG1 := Lib.hid hg1
  clear hg1
  have Hsg0 := Lib.hid (sameDsk_self g0.files g0.clock g0.dirs)
  go_enter Try.func4, Try.ntmps4
  go_wp2_with fail
  refine (laws_szDiskX _ fs0 _ _ ds0 _ 1048576 _ (HR0.out.below (by (repeat (with_reducible first | exact Below.refl _ _ | assumption | refine ba ?_ _ | refine bd ?_ | refine bdN ?_ _ | refine bs ?_ (by first | exact Nat.le_refl _ | (dsimp only; omega) | (simp; done)) _ | refine bt ?_ (by assumption))))) HZ0.out (by omega)).mono ?_
  rintro _ w1 ⟨r1, rfl, hr1, hb1⟩
  have hs1 : Below w.heap.size w w1 := by (repeat (with_reducible first | exact Below.refl _ _ | assumption | refine ba ?_ _ | refine bd ?_ | refine bdN ?_ _ | refine bs ?_ (by first | exact Nat.le_refl _ | (dsimp only; omega) | (simp; done)) _ | refine bt ?_ (by assumption)))
  have Bw1 := Lib.hid (hs1)
  have X2 := Lib.hid (show BoxC w1 (w.heap.size) #[.slice aa0 fs0.length ca0, .int .i64 k0, .slice ab0 ds0.length cb0] from ((BoxC.start w #[.slice aa0 fs0.length ca0, .int .i64 k0, .slice ab0 ds0.length cb0] 27).below hb1).at (by simp))
  rw [← HC0.out] at hr1
  have k3_0 : w1.cell? ⟨w.heap.size, 0, none⟩ = some (.slice aa0 fs0.length ca0) := (X2.out).2 0
  have k3_1 : w1.cell? ⟨w.heap.size, 1, none⟩ = some (.int .i64 k0) := (X2.out).2 1
  have k3_2 : w1.cell? ⟨w.heap.size, 2, none⟩ = some (.slice ab0 ds0.length cb0) := (X2.out).2 2
  have kl3 := (X2.out).1
  by_cases hn1 : r1 < 0
  · go_wp2_with fail
    go_ret
    exact ⟨rfl, Bw1.out⟩
  obtain ⟨R1, rfl⟩ := Int.eq_ofNat_of_zero_le (show 0 ≤ r1 by omega)
  have hR1 : R1 + C0 ≤ 1048576 := by omega
  clear hr1
  have HL0 := Lib.hid (dskCosts_of (by rw [← HC0.out]; omega : dskCost fs0 ds0 ≤ 1048576))
  have HS0 := Lib.hid (shortK_mono (B := 2000000) (by omega) (shortK_of (by rw [← HC0.out]; omega : dskCost fs0 ds0 ≤ 1048576)))
  have Hse0 := Lib.hid (sameDsk_self fs0 k0 ds0)
  have HE0 := Lib.hid (fun k => (show endD (endF k fs0) ds0 ≤ k + 5 * C0 by rw [HC0.out]; exact endK_le k fs0 ds0))
  have hln0 : fs0.length ≤ 1048576 ∧ ds0.length ≤ 1048576 := ⟨HL0.out.1.1, HL0.out.2.1⟩
  go_wp2_with fail
  refine (laws_toDiskX _ fs0 _ _ ds0 _ _ (HR0.out.below (bt Bw1.out (by (repeat (with_reducible first | exact Below.refl _ _ | assumption | refine ba ?_ _ | refine bd ?_ | refine bdN ?_ _ | refine bs ?_ (by first | exact Nat.le_refl _ | (dsimp only; omega) | (simp; done)) _ | refine bt ?_ (by assumption)))))) HL0.out).mono ?_
  rintro _ w4 ⟨v4, ps4, u4, qs4, rfl, hps4, hqs4, ho4, hq4, hb4⟩
  clear k3_0 k3_1 k3_2 kl3
  have hs4 : Below w1.heap.size w1 w4 := by (repeat (with_reducible first | exact Below.refl _ _ | assumption | refine ba ?_ _ | refine bd ?_ | refine bdN ?_ _ | refine bs ?_ (by first | exact Nat.le_refl _ | (dsimp only; omega) | (simp; done)) _ | refine bt ?_ (by assumption)))
  have Bw4 := Lib.hid (bt Bw1.out hs4)
  have X5 := Lib.hid (X2.out.below hs4)
  clear Bw1 X2
  obtain ⟨a4, c4, rfl⟩ := ho4.len
  obtain ⟨e4, f4, rfl⟩ := hq4.len
  have hpl4 : ps4.length = fs0.length := (by rw [← hps4, List.length_map])
  have hql4 : qs4.length = ds0.length := (by rw [← hqs4, List.length_map])
  rw [hpl4] at ho4 ⊢
  rw [hql4] at hq4 ⊢
  have I4 := Lib.hid (show DskIn w4 (fun _ => True) (.slice a4 fs0.length c4) fs0 (.slice e4 ds0.length f4) ds0 from ⟨by have h := ho4.fils (D := (fun _ => True)) (fun _ _ => trivial); rw [hps4] at h; exact h, by have h := hq4.dirs (D := (fun _ => True)) (fun _ _ => trivial); rw [hqs4] at h; exact h⟩)
  have O4 := Lib.hid (show OwnDsk w4 _ _ ps4 _ qs4 from ⟨ho4, hq4⟩)
  have Hps4 := Lib.hid hps4
  have Hqs4 := Lib.hid hqs4
  clear ho4 hps4 hq4 hqs4
  go_wp2_with fail
  refine (spec_DiskRemove _ fs0 _ _ _ ds0 _ _ n1 n2 _ (O4.out.below (by (repeat (with_reducible first | exact Below.refl _ _ | assumption | refine ba ?_ _ | refine bd ?_ | refine bdN ?_ _ | refine bs ?_ (by first | exact Nat.le_refl _ | (dsimp only; omega) | (simp; done)) _ | refine bt ?_ (by assumption))))) Hps4.out Hqs4.out HS0.out HL0.out).mono ?_
  rintro _ w6 ⟨v6_0, ps6_0, u6_0, qs6_0, rfl, hps6_0, hqs6_0, ho6_0, hq6_0, hb6⟩
  have hs6 : Below w4.heap.size w4 w6 := by (repeat (with_reducible first | exact Below.refl _ _ | assumption | refine ba ?_ _ | refine bd ?_ | refine bdN ?_ _ | refine bs ?_ (by first | exact Nat.le_refl _ | (dsimp only; omega) | (simp; done)) _ | refine bt ?_ (by assumption)))
  have Bw6 := Lib.hid (bt Bw4.out hs6)
  have X7 := Lib.hid (X5.out.below hs6)
  have J8 := Lib.hid (I4.out.below hs6)
  have Q8 := Lib.hid (O4.out.below hs6)
  clear Bw4 X5 I4 O4
  have Hz6 := Lib.hid (show w4.heap.size ≤ w6.heap.size by have h := hb6.size; first | omega | (simp at h; omega))
  try rw [← HG0.out]
  try rw [← HG0.out] at hps6_0
  try rw [← HG0.out] at hqs6_0
  try rw [← HG0.out] at ho6_0
  try rw [← HG0.out] at hq6_0
  obtain ⟨a6_0, c6_0, rfl⟩ := ho6_0.len
  obtain ⟨e6_0, f6_0, rfl⟩ := hq6_0.len
  have hpl6_0 : ps6_0.length = g0.files.length := (by rw [← hps6_0, List.length_map])
  have hql6_0 : qs6_0.length = g0.dirs.length := (by rw [← hqs6_0, List.length_map])
  rw [hpl6_0] at ho6_0 ⊢
  rw [hql6_0] at hq6_0 ⊢
  have I6_0 := Lib.hid (show DskIn w6 (fun _ => True) (.slice a6_0 g0.files.length c6_0) g0.files (.slice e6_0 g0.dirs.length f6_0) g0.dirs from ⟨by have h := ho6_0.fils (D := (fun _ => True)) (fun _ _ => trivial); rw [hps6_0] at h; exact h, by have h := hq6_0.dirs (D := (fun _ => True)) (fun _ _ => trivial); rw [hqs6_0] at h; exact h⟩)
  have O6_0 := Lib.hid (show OwnDsk w6 _ _ ps6_0 _ qs6_0 from ⟨ho6_0, hq6_0⟩)
  have Hps6_0 := Lib.hid hps6_0
  have Hqs6_0 := Lib.hid hqs6_0
  clear ho6_0 hps6_0 hq6_0 hqs6_0
  try rw [← HG1.out]
  obtain ⟨WW, hWW⟩ : ∃ WW, WW = (w6.alloc (.cells #[.slice a6_0 g0.files.length c6_0, .int .i64 g0.clock, .slice e6_0 g0.dirs.length f6_0] 38)) := ⟨_, rfl⟩
  have hWs : WW.heap.size = w6.heap.size + 1 := by rw [hWW]; simp
  have hcW : Below w6.heap.size w6 WW := by rw [hWW]; (repeat (with_reducible first | exact Below.refl _ _ | assumption | refine ba ?_ _ | refine bd ?_ | refine bdN ?_ _ | refine bs ?_ (by first | exact Nat.le_refl _ | (dsimp only; omega) | (simp; done)) _ | refine bt ?_ (by assumption)))
  have IW0 := Lib.hid (I6_0.out.below hcW)
  have HwW := Lib.hid (bt Bw6.out hcW)
  have Hpl0 := Lib.hid (show w.heap.size < WW.heap.size by have := X7.out.1; omega)
  have Hwl0 := Lib.hid (show w6.heap.size < WW.heap.size by omega)
  have HWs := Lib.hid hWs
  clear hWs hcW
  have k9_0 : w6.cell? ⟨w.heap.size, 0, none⟩ = some (.slice aa0 fs0.length ca0) := (X7.out).2 0
  have k9_1 : w6.cell? ⟨w.heap.size, 1, none⟩ = some (.int .i64 k0) := (X7.out).2 1
  have k9_2 : w6.cell? ⟨w.heap.size, 2, none⟩ = some (.slice ab0 ds0.length cb0) := (X7.out).2 2
  have kl9 := (X7.out).1
  go_wp2_with fail
  refine (laws_toDiskX _ fs0 _ _ ds0 _ _ (HR0.out.below (bt Bw6.out (by (repeat (with_reducible first | exact Below.refl _ _ | assumption | refine ba ?_ _ | refine bd ?_ | refine bdN ?_ _ | refine bs ?_ (by first | exact Nat.le_refl _ | (dsimp only; omega) | (simp; done)) _ | refine bt ?_ (by assumption)))))) HL0.out).mono ?_
  rintro _ w10 ⟨v10, ps10, u10, qs10, rfl, hps10, hqs10, ho10, hq10, hb10⟩
  clear k9_0 k9_1 k9_2 kl9
  have hs10 : Below w6.heap.size w6 w10 := by (repeat (with_reducible first | exact Below.refl _ _ | assumption | refine ba ?_ _ | refine bd ?_ | refine bdN ?_ _ | refine bs ?_ (by first | exact Nat.le_refl _ | (dsimp only; omega) | (simp; done)) _ | refine bt ?_ (by assumption)))
  have Bw10 := Lib.hid (bt Bw6.out hs10)
  have BW10 := Lib.hid (show Below WW.heap.size WW w10 by rw [hWW]; exact hb10)
  have X11 := Lib.hid (X7.out.below hs10)
  have X12 := Lib.hid (show BoxC w10 (w6.heap.size) #[.slice a6_0 g0.files.length c6_0, .int .i64 g0.clock, .slice e6_0 g0.dirs.length f6_0] from ((BoxC.start w6 #[.slice a6_0 g0.files.length c6_0, .int .i64 g0.clock, .slice e6_0 g0.dirs.length f6_0] 38).below hb10).at (by simp))
  clear Bw6 X7
  have Hz10 := Lib.hid (show w6.heap.size + 1 ≤ w10.heap.size by have h := hb10.size; first | omega | (simp at h; omega))
  obtain ⟨a10, c10, rfl⟩ := ho10.len
  obtain ⟨e10, f10, rfl⟩ := hq10.len
  have hpl10 : ps10.length = fs0.length := (by rw [← hps10, List.length_map])
  have hql10 : qs10.length = ds0.length := (by rw [← hqs10, List.length_map])
  rw [hpl10] at ho10 ⊢
  rw [hql10] at hq10 ⊢
  have I10 := Lib.hid (show DskIn w10 (fun _ => True) (.slice a10 fs0.length c10) fs0 (.slice e10 ds0.length f10) ds0 from ⟨by have h := ho10.fils (D := (fun _ => True)) (fun _ _ => trivial); rw [hps10] at h; exact h, by have h := hq10.dirs (D := (fun _ => True)) (fun _ _ => trivial); rw [hqs10] at h; exact h⟩)
  have O10 := Lib.hid (show OwnDsk w10 _ _ ps10 _ qs10 from ⟨ho10, hq10⟩)
  have Hps10 := Lib.hid hps10
  have Hqs10 := Lib.hid hqs10
  clear ho10 hps10 hq10 hqs10
  have OO10 := Lib.hid (O10.out.mono (show w6.heap.size + 1 ≤ _ by simp))
  clear O10
  have Hv10 := Lib.hid (fun b (hb : BlkK (.slice a10 fs0.length c10) ps10 (.slice e10 ds0.length f10) qs10 b) => (show w6.heap.size + 1 ≤ b ∧ b < w10.heap.size by have h := (blkK_ge OO10.out) b hb; first | exact h | (simp at h; exact h)))
  go_wp2_with fail
  refine (impl_DiskRemove _ fs0 _ _ _ ds0 _ _ n1 n2 _ (OO10.out.below (by (repeat (with_reducible first | exact Below.refl _ _ | assumption | refine ba ?_ _ | refine bd ?_ | refine bdN ?_ _ | refine bs ?_ (by first | exact Nat.le_refl _ | (dsimp only; omega) | (simp; done)) _ | refine bt ?_ (by assumption))))) Hps10.out Hqs10.out HS0.out HL0.out).mono ?_
  rintro _ w13 ⟨v13_0, ps13_0, u13_0, qs13_0, rfl, hps13_0, hqs13_0, ho13_0, hq13_0, hb13⟩
  have hs13 : Below w10.heap.size w10 w13 := by (repeat (with_reducible first | exact Below.refl _ _ | assumption | refine ba ?_ _ | refine bd ?_ | refine bdN ?_ _ | refine bs ?_ (by first | exact Nat.le_refl _ | (dsimp only; omega) | (simp; done)) _ | refine bt ?_ (by assumption)))
  have Bw13 := Lib.hid (bt Bw10.out hs13)
  have BW13 := Lib.hid (bt BW10.out hs13)
  have X14 := Lib.hid (X11.out.below hs13)
  have X15 := Lib.hid (X12.out.below hs13)
  have X16 := Lib.hid (show BoxC w13 (w10.heap.size) #[.slice a10 fs0.length c10, .int .i64 k0, .slice e10 ds0.length f10] from ((BoxC.start w10 #[.slice a10 fs0.length c10, .int .i64 k0, .slice e10 ds0.length f10] 38).below hb13).at (by simp))
  have J17 := Lib.hid (I10.out.below hs13)
  have Q17 := Lib.hid (OO10.out.below hs13)
  clear Bw10 BW10 X11 X12 I10 OO10
  have Hz13 := Lib.hid (show w10.heap.size + 1 ≤ w13.heap.size by have h := hb13.size; first | omega | (simp at h; omega))
  try rw [← HG0.out]
  try rw [← HG0.out] at hps13_0
  try rw [← HG0.out] at hqs13_0
  try rw [← HG0.out] at ho13_0
  try rw [← HG0.out] at hq13_0
  obtain ⟨a13_0, c13_0, rfl⟩ := ho13_0.len
  obtain ⟨e13_0, f13_0, rfl⟩ := hq13_0.len
  have hpl13_0 : ps13_0.length = g0.files.length := (by rw [← hps13_0, List.length_map])
  have hql13_0 : qs13_0.length = g0.dirs.length := (by rw [← hqs13_0, List.length_map])
  rw [hpl13_0] at ho13_0 ⊢
  rw [hql13_0] at hq13_0 ⊢
  have I13_0 := Lib.hid (show DskIn w13 (fun _ => True) (.slice a13_0 g0.files.length c13_0) g0.files (.slice e13_0 g0.dirs.length f13_0) g0.dirs from ⟨by have h := ho13_0.fils (D := (fun _ => True)) (fun _ _ => trivial); rw [hps13_0] at h; exact h, by have h := hq13_0.dirs (D := (fun _ => True)) (fun _ _ => trivial); rw [hqs13_0] at h; exact h⟩)
  have O13_0 := Lib.hid (show OwnDsk w13 _ _ ps13_0 _ qs13_0 from ⟨ho13_0, hq13_0⟩)
  have Hps13_0 := Lib.hid hps13_0
  have Hqs13_0 := Lib.hid hqs13_0
  clear ho13_0 hps13_0 hq13_0 hqs13_0
  try rw [← HG1.out]
  have OO13_0 := Lib.hid (O13_0.out.mono (show w10.heap.size + 1 ≤ _ by simp))
  clear O13_0
  have Hv18 := Lib.hid (fun b (hb : BlkK (.slice a13_0 g0.files.length c13_0) ps13_0 (.slice e13_0 g0.dirs.length f13_0) qs13_0 b) => (show w10.heap.size + 1 ≤ b ∧ b < w13.heap.size by have h := (blkK_ge OO13_0.out) b hb; first | exact h | (simp at h; exact h)))
  have k19_0 : w13.cell? ⟨w6.heap.size, 0, none⟩ = some (.slice a6_0 g0.files.length c6_0) := (X15.out).2 0
  have k19_1 : w13.cell? ⟨w6.heap.size, 1, none⟩ = some (.int .i64 g0.clock) := (X15.out).2 1
  have k19_2 : w13.cell? ⟨w6.heap.size, 2, none⟩ = some (.slice e6_0 g0.dirs.length f6_0) := (X15.out).2 2
  have kl19 := (X15.out).1
  go_wp2_with fail
  refine (laws_eqDiskX _ _ g0.files g0.files _ _ _ _ g0.dirs g0.dirs (fun _ => True) (fun _ => True) _ (I13_0.out.below (by (repeat (with_reducible first | exact Below.refl _ _ | assumption | refine ba ?_ _ | refine bd ?_ | refine bdN ?_ _ | refine bs ?_ (by first | exact Nat.le_refl _ | (dsimp only; omega) | (simp; done)) _ | refine bt ?_ (by assumption))))) (IW0.out.below (bt BW13.out (by (repeat (with_reducible first | exact Below.refl _ _ | assumption | refine ba ?_ _ | refine bd ?_ | refine bdN ?_ _ | refine bs ?_ (by first | exact Nat.le_refl _ | (dsimp only; omega) | (simp; done)) _ | refine bt ?_ (by assumption))))))).mono ?_
  rintro _ w20 ⟨rfl, hb20⟩
  clear k19_0 k19_1 k19_2 kl19
  have hs20 : Below w13.heap.size w13 w20 := by (repeat (with_reducible first | exact Below.refl _ _ | assumption | refine ba ?_ _ | refine bd ?_ | refine bdN ?_ _ | refine bs ?_ (by first | exact Nat.le_refl _ | (dsimp only; omega) | (simp; done)) _ | refine bt ?_ (by assumption)))
  have Bw20 := Lib.hid (bt Bw13.out hs20)
  have BW20 := Lib.hid (bt BW13.out hs20)
  have X21 := Lib.hid (X14.out.below hs20)
  have X22 := Lib.hid (X15.out.below hs20)
  have X23 := Lib.hid (X16.out.below hs20)
  have X24 := Lib.hid (show BoxC w20 (w13.heap.size) #[.slice a13_0 g0.files.length c13_0, .int .i64 g0.clock, .slice e13_0 g0.dirs.length f13_0] from ((BoxC.start w13 #[.slice a13_0 g0.files.length c13_0, .int .i64 g0.clock, .slice e13_0 g0.dirs.length f13_0] 38).below hb20).at (by simp))
  have J25 := Lib.hid (J17.out.below hs20)
  have Q25 := Lib.hid (Q17.out.below hs20)
  have J26 := Lib.hid (I13_0.out.below hs20)
  have Q26 := Lib.hid (OO13_0.out.below hs20)
  clear Bw13 BW13 X14 X15 X16 J17 Q17 I13_0 OO13_0
  rw [Hsg0.out]
  have Hk27 := Lib.hid (fun (w' : World) (hC : Below w20.heap.size w20 w') => (⟨((X21.out).below hC).2 0, ((X21.out).below hC).2 1, ((X21.out).below hC).2 2, ((X23.out).below hC).2 0, ((X23.out).below hC).2 1, ((X23.out).below hC).2 2, hC⟩ : w'.cell? ⟨w.heap.size, 0, none⟩ = some (.slice aa0 fs0.length ca0) ∧ w'.cell? ⟨w.heap.size, 1, none⟩ = some (.int .i64 k0) ∧ w'.cell? ⟨w.heap.size, 2, none⟩ = some (.slice ab0 ds0.length cb0) ∧ w'.cell? ⟨w10.heap.size, 0, none⟩ = some (.slice a10 fs0.length c10) ∧ w'.cell? ⟨w10.heap.size, 1, none⟩ = some (.int .i64 k0) ∧ w'.cell? ⟨w10.heap.size, 2, none⟩ = some (.slice e10 ds0.length f10) ∧ Below w20.heap.size w20 w'))
  have HPHk27 := Lib.hid (HR0.out.below Bw20.out)
  go_wp2_with fail
  go_region_held3 (fun w' => w'.cell? ⟨w.heap.size, 0, none⟩ = some (.slice aa0 fs0.length ca0) ∧ w'.cell? ⟨w.heap.size, 1, none⟩ = some (.int .i64 k0) ∧ w'.cell? ⟨w.heap.size, 2, none⟩ = some (.slice ab0 ds0.length cb0) ∧ w'.cell? ⟨w10.heap.size, 0, none⟩ = some (.slice a10 fs0.length c10) ∧ w'.cell? ⟨w10.heap.size, 1, none⟩ = some (.int .i64 k0) ∧ w'.cell? ⟨w10.heap.size, 2, none⟩ = some (.slice e10 ds0.length f10) ∧ Below w20.heap.size w20 w')
    (exact Hk27.out _ (by (repeat (with_reducible first | exact Below.refl _ _ | assumption | refine ba ?_ _ | refine bd ?_ | refine bdN ?_ _ | refine bs ?_ (by first | exact Nat.le_refl _ | (dsimp only; omega) | (simp; done)) _ | refine bt ?_ (by assumption)))))
    (first
      | (go_at_call 13; refine (laws_toDiskX _ fs0 _ _ ds0 _ _ (HPHk27.out.below (by (repeat (with_reducible first | exact Below.refl _ _ | assumption | refine ba ?_ _ | refine bd ?_ | refine bdN ?_ _ | refine bs ?_ (by first | exact Nat.le_refl _ | (dsimp only; omega) | (simp; done)) _ | refine bt ?_ (by assumption))))) HL0.out).mono ?_; rintro _ w28 ⟨v28, ps28, u28, qs28, rfl, hps28, hqs28, ho28, hq28, hb28⟩; obtain ⟨a28, c28, rfl⟩ := ho28.len; obtain ⟨e28, f28, rfl⟩ := hq28.len; have hpl28 : ps28.length = fs0.length := (by rw [← hps28, List.length_map]); have hql28 : qs28.length = ds0.length := (by rw [← hqs28, List.length_map]); rw [hpl28] at ho28 ⊢; rw [hql28] at hq28 ⊢; have I28 := Lib.hid (show DskIn w28 (fun _ => True) (.slice a28 fs0.length c28) fs0 (.slice e28 ds0.length f28) ds0 from ⟨by have h := ho28.fils (D := (fun _ => True)) (fun _ _ => trivial); rw [hps28] at h; exact h, by have h := hq28.dirs (D := (fun _ => True)) (fun _ _ => trivial); rw [hqs28] at h; exact h⟩); have O28 := Lib.hid (show OwnDsk w28 _ _ ps28 _ qs28 from ⟨ho28, hq28⟩); have Hps28 := Lib.hid hps28; have Hqs28 := Lib.hid hqs28; clear ho28 hps28 hq28 hqs28)
      | (go_at_call 16; refine (laws_eqDiskX _ _ fs0 fs0 _ _ _ _ ds0 ds0 (fun _ => True) (fun _ => True) _ (J25.out.below (by (repeat (with_reducible first | exact Below.refl _ _ | assumption | refine ba ?_ _ | refine bd ?_ | refine bdN ?_ _ | refine bs ?_ (by first | exact Nat.le_refl _ | (dsimp only; omega) | (simp; done)) _ | refine bt ?_ (by assumption))))) (I28.out.below (by (repeat (with_reducible first | exact Below.refl _ _ | assumption | refine ba ?_ _ | refine bd ?_ | refine bdN ?_ _ | refine bs ?_ (by first | exact Nat.le_refl _ | (dsimp only; omega) | (simp; done)) _ | refine bt ?_ (by assumption)))))).mono ?_; rintro _ w29 ⟨rfl, hb29⟩; rw [Hse0.out]))
  have hs29 : Below w20.heap.size w20 w29 := by (repeat (with_reducible first | exact Below.refl _ _ | assumption | refine ba ?_ _ | refine bd ?_ | refine bdN ?_ _ | refine bs ?_ (by first | exact Nat.le_refl _ | (dsimp only; omega) | (simp; done)) _ | refine bt ?_ (by assumption)))
  have Bw29 := Lib.hid (bt Bw20.out hs29)
  have BW29 := Lib.hid (bt BW20.out hs29)
  have X30 := Lib.hid (X21.out.below hs29)
  have X31 := Lib.hid (X22.out.below hs29)
  have X32 := Lib.hid (X23.out.below hs29)
  have X33 := Lib.hid (X24.out.below hs29)
  have J34 := Lib.hid (J25.out.below hs29)
  have Q34 := Lib.hid (Q25.out.below hs29)
  have J35 := Lib.hid (J26.out.below hs29)
  have Q35 := Lib.hid (Q26.out.below hs29)
  clear Bw20 BW20 X21 X22 X23 X24 J25 Q25 J26 Q26
  have k36_0 : w29.cell? ⟨w10.heap.size, 0, none⟩ = some (.slice a10 fs0.length c10) := (X32.out).2 0
  have k36_1 : w29.cell? ⟨w10.heap.size, 1, none⟩ = some (.int .i64 k0) := (X32.out).2 1
  have k36_2 : w29.cell? ⟨w10.heap.size, 2, none⟩ = some (.slice e10 ds0.length f10) := (X32.out).2 2
  have kl36 := (X32.out).1
  go_wp2_with fail
  have hkk : 1 ≤ 1 := by omega
  refine (laws_markDisk (w6.heap.size + 1) _ _ _ ps10 qs10 1 _ (Q34.out.below (by (repeat (with_reducible first | exact Below.refl _ _ | assumption | refine ba ?_ _ | refine bd ?_ | refine bdN ?_ _ | refine bs ?_ (by first | exact Nat.le_refl _ | (dsimp only; omega) | (simp; done)) _ | refine bt ?_ (by assumption))))) hkk (by rw [Hps10.out, Hqs10.out]; have := HE0.out 1; omega) (by omega) (by omega)).mono ?_
  rintro _ w37 ⟨rfl, _, ht37⟩
  clear k36_0 k36_1 k36_2 kl36
  have Ht37 := Lib.hid ht37
  clear ht37
  have BW37 := Lib.hid (BW29.out.trans (Ht37.out.below BW29.out.size (fun b hb => by have := (Hv10.out b hb).1; have := Hpl0.out; have := Hwl0.out; have := HWs.out; have := Hz10.out; have := Hz13.out; omega)))
  have Bw37 := Lib.hid (show Below w.heap.size w w37 from HwW.out.trans (BW37.out.mono HwW.out.size))
  have X38 := Lib.hid (X30.out.turned Ht37.out (fun hb => by have := Hv10.out _ hb; have := Hpl0.out; have := Hwl0.out; have := HWs.out; have := Hz10.out; have := Hz13.out; omega))
  have X39 := Lib.hid (X31.out.turned Ht37.out (fun hb => by have := Hv10.out _ hb; have := Hpl0.out; have := Hwl0.out; have := HWs.out; have := Hz10.out; have := Hz13.out; omega))
  have X40 := Lib.hid (X32.out.turned Ht37.out (fun hb => by have := Hv10.out _ hb; have := Hpl0.out; have := Hwl0.out; have := HWs.out; have := Hz10.out; have := Hz13.out; omega))
  have X41 := Lib.hid (X33.out.turned Ht37.out (fun hb => by have := Hv10.out _ hb; have := Hpl0.out; have := Hwl0.out; have := HWs.out; have := Hz10.out; have := Hz13.out; omega))
  have Q42 := Lib.hid (dsk_turned Q35.out Ht37.out (fun b hb hS => by have := Hv10.out b hS; have := Hv18.out b hb; have := Hpl0.out; have := Hwl0.out; have := HWs.out; have := Hz10.out; have := Hz13.out; omega))
  clear Bw29 BW29 X30 X31 X32 X33 J34 Q34 J35 Q35
  clear hkk
  obtain ⟨K43, hK43⟩ : ∃ K, K = endD (endF 1 (ps10.map (·.1))) (qs10.map (·.1)) := ⟨_, rfl⟩
  have hK43b : 1 ≤ K43 ∧ K43 ≤ 1 + 5 * C0 := by rw [hK43]; exact ⟨endK_mono _ _ _, by rw [Hps10.out, Hqs10.out]; exact HE0.out 1⟩
  rw [← hK43]
  have HK43 := Lib.hid hK43
  clear hK43
  have hk0 : ¬ ((K43 : Nat) : Int) < 0 := Int.not_lt.2 (Int.natCast_nonneg _)
  have I_44 := Lib.hid (show DskIn w37 (fun _ => True) (.slice a13_0 g0.files.length c13_0) g0.files (.slice e13_0 g0.dirs.length f13_0) g0.dirs from ⟨by have h := Q42.out.1.fils (D := (fun _ => True)) (fun _ _ => trivial); rw [Hps13_0.out] at h; exact h, by have h := Q42.out.2.dirs (D := (fun _ => True)) (fun _ _ => trivial); rw [Hqs13_0.out] at h; exact h⟩)
  have k45_0 : w37.cell? ⟨w6.heap.size, 0, none⟩ = some (.slice a6_0 g0.files.length c6_0) := (X39.out).2 0
  have k45_1 : w37.cell? ⟨w6.heap.size, 1, none⟩ = some (.int .i64 g0.clock) := (X39.out).2 1
  have k45_2 : w37.cell? ⟨w6.heap.size, 2, none⟩ = some (.slice e6_0 g0.dirs.length f6_0) := (X39.out).2 2
  have kl45 := (X39.out).1
  have k46_0 : w37.cell? ⟨w13.heap.size, 0, none⟩ = some (.slice a13_0 g0.files.length c13_0) := (X41.out).2 0
  have k46_1 : w37.cell? ⟨w13.heap.size, 1, none⟩ = some (.int .i64 g0.clock) := (X41.out).2 1
  have k46_2 : w37.cell? ⟨w13.heap.size, 2, none⟩ = some (.slice e13_0 g0.dirs.length f13_0) := (X41.out).2 2
  have kl46 := (X41.out).1
  go_wp2_with fail
  refine (laws_eqDiskX _ _ g0.files g0.files _ _ _ _ g0.dirs g0.dirs (fun _ => True) (fun _ => True) _ (I_44.out.below (by (repeat (with_reducible first | exact Below.refl _ _ | assumption | refine ba ?_ _ | refine bd ?_ | refine bdN ?_ _ | refine bs ?_ (by first | exact Nat.le_refl _ | (dsimp only; omega) | (simp; done)) _ | refine bt ?_ (by assumption))))) (IW0.out.below (bt BW37.out (by (repeat (with_reducible first | exact Below.refl _ _ | assumption | refine ba ?_ _ | refine bd ?_ | refine bdN ?_ _ | refine bs ?_ (by first | exact Nat.le_refl _ | (dsimp only; omega) | (simp; done)) _ | refine bt ?_ (by assumption))))))).mono ?_
  rintro _ w47 ⟨rfl, hb47⟩
  clear hk0 k45_0 k45_1 k45_2 kl45 k46_0 k46_1 k46_2 kl46
  have hs47 : Below w37.heap.size w37 w47 := by (repeat (with_reducible first | exact Below.refl _ _ | assumption | refine ba ?_ _ | refine bd ?_ | refine bdN ?_ _ | refine bs ?_ (by first | exact Nat.le_refl _ | (dsimp only; omega) | (simp; done)) _ | refine bt ?_ (by assumption)))
  have Bw47 := Lib.hid (bt Bw37.out hs47)
  have BW47 := Lib.hid (bt BW37.out hs47)
  have X48 := Lib.hid (X38.out.below hs47)
  have X49 := Lib.hid (X39.out.below hs47)
  have X50 := Lib.hid (X41.out.below hs47)
  have J51 := Lib.hid (I_44.out.below hs47)
  have Q51 := Lib.hid (Q42.out.below hs47)
  clear Bw37 BW37 X38 X39 X41 I_44 Q42
  rw [Hsg0.out]
  have k52_0 : w47.cell? ⟨w13.heap.size, 0, none⟩ = some (.slice a13_0 g0.files.length c13_0) := (X50.out).2 0
  have k52_1 : w47.cell? ⟨w13.heap.size, 1, none⟩ = some (.int .i64 g0.clock) := (X50.out).2 1
  have k52_2 : w47.cell? ⟨w13.heap.size, 2, none⟩ = some (.slice e13_0 g0.dirs.length f13_0) := (X50.out).2 2
  have kl52 := (X50.out).1
  go_wp2_with fail
  have hkk : 1 ≤ 1 := by omega
  refine (laws_markDisk (w10.heap.size + 1) _ _ _ ps13_0 qs13_0 1 _ (Q51.out.below (by (repeat (with_reducible first | exact Below.refl _ _ | assumption | refine ba ?_ _ | refine bd ?_ | refine bdN ?_ _ | refine bs ?_ (by first | exact Nat.le_refl _ | (dsimp only; omega) | (simp; done)) _ | refine bt ?_ (by assumption))))) hkk (by rw [Hps13_0.out, Hqs13_0.out]; have := Hgb0.out 1; omega) (by omega) (by omega)).mono ?_
  rintro _ w53 ⟨rfl, hm53, ht53⟩
  clear k52_0 k52_1 k52_2 kl52
  have M53 := Lib.hid hm53
  clear hm53
  have Ht53 := Lib.hid ht53
  clear ht53
  have BW53 := Lib.hid (BW47.out.trans (Ht53.out.below BW47.out.size (fun b hb => by have := (Hv18.out b hb).1; have := Hpl0.out; have := Hwl0.out; have := HWs.out; have := Hz10.out; have := Hz13.out; omega)))
  have Bw53 := Lib.hid (show Below w.heap.size w w53 from HwW.out.trans (BW53.out.mono HwW.out.size))
  have X54 := Lib.hid (X48.out.turned Ht53.out (fun hb => by have := Hv18.out _ hb; have := Hpl0.out; have := Hwl0.out; have := HWs.out; have := Hz10.out; have := Hz13.out; omega))
  have X55 := Lib.hid (X49.out.turned Ht53.out (fun hb => by have := Hv18.out _ hb; have := Hpl0.out; have := Hwl0.out; have := HWs.out; have := Hz10.out; have := Hz13.out; omega))
  have X56 := Lib.hid (X50.out.turned Ht53.out (fun hb => by have := Hv18.out _ hb; have := Hpl0.out; have := Hwl0.out; have := HWs.out; have := Hz10.out; have := Hz13.out; omega))
  clear Bw47 BW47 X48 X49 X50 J51 Q51
  clear hkk
  rw [Hps13_0.out, Hqs13_0.out]
  obtain ⟨K57, hK57⟩ : ∃ K, K = endD (endF 1 g0.files) g0.dirs := ⟨_, rfl⟩
  have hK57b : 1 ≤ K57 ∧ K57 ≤ 1 + 1000 := by rw [hK57]; exact ⟨endK_mono _ _ _, by have := Hgb0.out 1; omega⟩
  rw [← hK57]
  have HK57 := Lib.hid hK57
  clear hK57
  have k58_0 : w53.cell? ⟨w13.heap.size, 0, none⟩ = some (.slice a13_0 g0.files.length c13_0) := (X56.out).2 0
  have k58_1 : w53.cell? ⟨w13.heap.size, 1, none⟩ = some (.int .i64 g0.clock) := (X56.out).2 1
  have k58_2 : w53.cell? ⟨w13.heap.size, 2, none⟩ = some (.slice e13_0 g0.dirs.length f13_0) := (X56.out).2 2
  have kl58 := (X56.out).1
  go_wp2_with fail
  refine (laws_heldDiskX _ _ _ _ ps13_0 qs13_0 g0.files g0.dirs 1 _ (M53.out.below (by (repeat (with_reducible first | exact Below.refl _ _ | assumption | refine ba ?_ _ | refine bd ?_ | refine bdN ?_ _ | refine bs ?_ (by first | exact Nat.le_refl _ | (dsimp only; omega) | (simp; done)) _ | refine bt ?_ (by assumption))))) Hps13_0.out Hqs13_0.out (by omega) (by have := Hgb0.out 1; omega) (by omega) (by omega)).mono ?_
  rintro _ w59 ⟨rfl, hb59⟩
  clear k58_0 k58_1 k58_2 kl58
  have hs59 : Below w53.heap.size w53 w59 := by (repeat (with_reducible first | exact Below.refl _ _ | assumption | refine ba ?_ _ | refine bd ?_ | refine bdN ?_ _ | refine bs ?_ (by first | exact Nat.le_refl _ | (dsimp only; omega) | (simp; done)) _ | refine bt ?_ (by assumption)))
  have Bw59 := Lib.hid (bt Bw53.out hs59)
  have BW59 := Lib.hid (bt BW53.out hs59)
  have X60 := Lib.hid (X54.out.below hs59)
  have X61 := Lib.hid (X55.out.below hs59)
  have X62 := Lib.hid (X56.out.below hs59)
  have N63 := Lib.hid (M53.out.below hs59)
  clear Bw53 BW53 X54 X55 X56 M53
  rw [← HK57.out]
  have hk0 : ¬ ((K57 : Nat) : Int) < 0 := Int.not_lt.2 (Int.natCast_nonneg _)
  have k64_0 : w59.cell? ⟨w.heap.size, 0, none⟩ = some (.slice aa0 fs0.length ca0) := (X60.out).2 0
  have k64_1 : w59.cell? ⟨w.heap.size, 1, none⟩ = some (.int .i64 k0) := (X60.out).2 1
  have k64_2 : w59.cell? ⟨w.heap.size, 2, none⟩ = some (.slice ab0 ds0.length cb0) := (X60.out).2 2
  have kl64 := (X60.out).1
  go_wp2_with fail
  refine (laws_toDiskX _ fs0 _ _ ds0 _ _ (HR0.out.below (bt Bw59.out (by (repeat (with_reducible first | exact Below.refl _ _ | assumption | refine ba ?_ _ | refine bd ?_ | refine bdN ?_ _ | refine bs ?_ (by first | exact Nat.le_refl _ | (dsimp only; omega) | (simp; done)) _ | refine bt ?_ (by assumption)))))) HL0.out).mono ?_
  rintro _ w65 ⟨v65, ps65, u65, qs65, rfl, hps65, hqs65, ho65, hq65, hb65⟩
  clear hk0 k64_0 k64_1 k64_2 kl64
  have hs65 : Below w59.heap.size w59 w65 := by (repeat (with_reducible first | exact Below.refl _ _ | assumption | refine ba ?_ _ | refine bd ?_ | refine bdN ?_ _ | refine bs ?_ (by first | exact Nat.le_refl _ | (dsimp only; omega) | (simp; done)) _ | refine bt ?_ (by assumption)))
  have Bw65 := Lib.hid (bt Bw59.out hs65)
  have BW65 := Lib.hid (bt BW59.out hs65)
  have X66 := Lib.hid (X60.out.below hs65)
  have X67 := Lib.hid (X61.out.below hs65)
  have X68 := Lib.hid (X62.out.below hs65)
  have N69 := Lib.hid (N63.out.below hs65)
  clear Bw59 BW59 X60 X61 X62 N63
  obtain ⟨a65, c65, rfl⟩ := ho65.len
  obtain ⟨e65, f65, rfl⟩ := hq65.len
  have hpl65 : ps65.length = fs0.length := (by rw [← hps65, List.length_map])
  have hql65 : qs65.length = ds0.length := (by rw [← hqs65, List.length_map])
  rw [hpl65] at ho65 ⊢
  rw [hql65] at hq65 ⊢
  have I65 := Lib.hid (show DskIn w65 (fun _ => True) (.slice a65 fs0.length c65) fs0 (.slice e65 ds0.length f65) ds0 from ⟨by have h := ho65.fils (D := (fun _ => True)) (fun _ _ => trivial); rw [hps65] at h; exact h, by have h := hq65.dirs (D := (fun _ => True)) (fun _ _ => trivial); rw [hqs65] at h; exact h⟩)
  have O65 := Lib.hid (show OwnDsk w65 _ _ ps65 _ qs65 from ⟨ho65, hq65⟩)
  have Hps65 := Lib.hid hps65
  have Hqs65 := Lib.hid hqs65
  clear ho65 hps65 hq65 hqs65
  go_wp2_with fail
  refine (impl_DiskRemove _ fs0 _ _ _ ds0 _ _ n1 n2 _ (O65.out.below (by (repeat (with_reducible first | exact Below.refl _ _ | assumption | refine ba ?_ _ | refine bd ?_ | refine bdN ?_ _ | refine bs ?_ (by first | exact Nat.le_refl _ | (dsimp only; omega) | (simp; done)) _ | refine bt ?_ (by assumption))))) Hps65.out Hqs65.out HS0.out HL0.out).mono ?_
  rintro _ w70 ⟨v70_0, ps70_0, u70_0, qs70_0, rfl, hps70_0, hqs70_0, ho70_0, hq70_0, hb70⟩
  have hs70 : Below w65.heap.size w65 w70 := by (repeat (with_reducible first | exact Below.refl _ _ | assumption | refine ba ?_ _ | refine bd ?_ | refine bdN ?_ _ | refine bs ?_ (by first | exact Nat.le_refl _ | (dsimp only; omega) | (simp; done)) _ | refine bt ?_ (by assumption)))
  have Bw70 := Lib.hid (bt Bw65.out hs70)
  have BW70 := Lib.hid (bt BW65.out hs70)
  have X71 := Lib.hid (X66.out.below hs70)
  have X72 := Lib.hid (X67.out.below hs70)
  have X73 := Lib.hid (X68.out.below hs70)
  have J74 := Lib.hid (I65.out.below hs70)
  have Q74 := Lib.hid (O65.out.below hs70)
  have N75 := Lib.hid (N69.out.below hs70)
  clear Bw65 BW65 X66 X67 X68 I65 O65 N69
  have Hz70 := Lib.hid (show w65.heap.size ≤ w70.heap.size by have h := hb70.size; first | omega | (simp at h; omega))
  try rw [← HG0.out]
  try rw [← HG0.out] at hps70_0
  try rw [← HG0.out] at hqs70_0
  try rw [← HG0.out] at ho70_0
  try rw [← HG0.out] at hq70_0
  obtain ⟨a70_0, c70_0, rfl⟩ := ho70_0.len
  obtain ⟨e70_0, f70_0, rfl⟩ := hq70_0.len
  have hpl70_0 : ps70_0.length = g0.files.length := (by rw [← hps70_0, List.length_map])
  have hql70_0 : qs70_0.length = g0.dirs.length := (by rw [← hqs70_0, List.length_map])
  rw [hpl70_0] at ho70_0 ⊢
  rw [hql70_0] at hq70_0 ⊢
  have I70_0 := Lib.hid (show DskIn w70 (fun _ => True) (.slice a70_0 g0.files.length c70_0) g0.files (.slice e70_0 g0.dirs.length f70_0) g0.dirs from ⟨by have h := ho70_0.fils (D := (fun _ => True)) (fun _ _ => trivial); rw [hps70_0] at h; exact h, by have h := hq70_0.dirs (D := (fun _ => True)) (fun _ _ => trivial); rw [hqs70_0] at h; exact h⟩)
  have O70_0 := Lib.hid (show OwnDsk w70 _ _ ps70_0 _ qs70_0 from ⟨ho70_0, hq70_0⟩)
  have Hps70_0 := Lib.hid hps70_0
  have Hqs70_0 := Lib.hid hqs70_0
  clear ho70_0 hps70_0 hq70_0 hqs70_0
  try rw [← HG1.out]
  have k76_0 : w70.cell? ⟨w6.heap.size, 0, none⟩ = some (.slice a6_0 g0.files.length c6_0) := (X72.out).2 0
  have k76_1 : w70.cell? ⟨w6.heap.size, 1, none⟩ = some (.int .i64 g0.clock) := (X72.out).2 1
  have k76_2 : w70.cell? ⟨w6.heap.size, 2, none⟩ = some (.slice e6_0 g0.dirs.length f6_0) := (X72.out).2 2
  have kl76 := (X72.out).1
  go_wp2_with fail
  refine (laws_eqDiskX _ _ g0.files g0.files _ _ _ _ g0.dirs g0.dirs (fun _ => True) (fun _ => True) _ (I70_0.out.below (by (repeat (with_reducible first | exact Below.refl _ _ | assumption | refine ba ?_ _ | refine bd ?_ | refine bdN ?_ _ | refine bs ?_ (by first | exact Nat.le_refl _ | (dsimp only; omega) | (simp; done)) _ | refine bt ?_ (by assumption))))) (IW0.out.below (bt BW70.out (by (repeat (with_reducible first | exact Below.refl _ _ | assumption | refine ba ?_ _ | refine bd ?_ | refine bdN ?_ _ | refine bs ?_ (by first | exact Nat.le_refl _ | (dsimp only; omega) | (simp; done)) _ | refine bt ?_ (by assumption))))))).mono ?_
  rintro _ w77 ⟨rfl, hb77⟩
  clear k76_0 k76_1 k76_2 kl76
  have hs77 : Below w70.heap.size w70 w77 := by (repeat (with_reducible first | exact Below.refl _ _ | assumption | refine ba ?_ _ | refine bd ?_ | refine bdN ?_ _ | refine bs ?_ (by first | exact Nat.le_refl _ | (dsimp only; omega) | (simp; done)) _ | refine bt ?_ (by assumption)))
  have Bw77 := Lib.hid (bt Bw70.out hs77)
  have BW77 := Lib.hid (bt BW70.out hs77)
  have X78 := Lib.hid (X71.out.below hs77)
  have X79 := Lib.hid (X72.out.below hs77)
  have X80 := Lib.hid (show BoxC w77 (w70.heap.size) #[.slice a70_0 g0.files.length c70_0, .int .i64 g0.clock, .slice e70_0 g0.dirs.length f70_0] from ((BoxC.start w70 #[.slice a70_0 g0.files.length c70_0, .int .i64 g0.clock, .slice e70_0 g0.dirs.length f70_0] 38).below hb77).at (by simp))
  have X81 := Lib.hid (X73.out.below hs77)
  have J82 := Lib.hid (I70_0.out.below hs77)
  have N83 := Lib.hid (N75.out.below hs77)
  clear Bw70 BW70 X71 X72 X73 I70_0 N75
  rw [Hsg0.out]
  have k84_0 : w77.cell? ⟨w13.heap.size, 0, none⟩ = some (.slice a13_0 g0.files.length c13_0) := (X81.out).2 0
  have k84_1 : w77.cell? ⟨w13.heap.size, 1, none⟩ = some (.int .i64 g0.clock) := (X81.out).2 1
  have k84_2 : w77.cell? ⟨w13.heap.size, 2, none⟩ = some (.slice e13_0 g0.dirs.length f13_0) := (X81.out).2 2
  have kl84 := (X81.out).1
  go_wp2_with fail
  refine (laws_heldDiskX _ _ _ _ ps13_0 qs13_0 g0.files g0.dirs 1 _ (N83.out.below (by (repeat (with_reducible first | exact Below.refl _ _ | assumption | refine ba ?_ _ | refine bd ?_ | refine bdN ?_ _ | refine bs ?_ (by first | exact Nat.le_refl _ | (dsimp only; omega) | (simp; done)) _ | refine bt ?_ (by assumption))))) Hps13_0.out Hqs13_0.out (by omega) (by have := Hgb0.out 1; omega) (by omega) (by omega)).mono ?_
  rintro _ w85 ⟨rfl, hb85⟩
  clear k84_0 k84_1 k84_2 kl84
  have hs85 : Below w77.heap.size w77 w85 := by (repeat (with_reducible first | exact Below.refl _ _ | assumption | refine ba ?_ _ | refine bd ?_ | refine bdN ?_ _ | refine bs ?_ (by first | exact Nat.le_refl _ | (dsimp only; omega) | (simp; done)) _ | refine bt ?_ (by assumption)))
  have Bw85 := Lib.hid (bt Bw77.out hs85)
  have BW85 := Lib.hid (bt BW77.out hs85)
  have X86 := Lib.hid (X78.out.below hs85)
  have X87 := Lib.hid (X79.out.below hs85)
  have X88 := Lib.hid (X80.out.below hs85)
  have X89 := Lib.hid (X81.out.below hs85)
  have J90 := Lib.hid (J82.out.below hs85)
  have N91 := Lib.hid (N83.out.below hs85)
  clear Bw77 BW77 X78 X79 X80 X81 J82 N83
  rw [← HK57.out]
  have hk0 : ¬ ((K57 : Nat) : Int) < 0 := Int.not_lt.2 (Int.natCast_nonneg _)
  go_wp2_with fail
  go_ret
  exact ⟨rfl, Bw85.out⟩

/-! ### THE STEP TO THE ROW -/
set_option maxRecDepth 100000 in
theorem lifted (os : Os) (started : os.Started) (H : Type) (enc : TypeId × Value → H) :
    ReturnsInHanded {} Try.checked os 4 .any (Rows.fnExactDiskRemoveSpec.pre6 enc Try.prog Try.f4 Rows.fnExactDiskRemoveRow.domain false) (Rows.fnExactDiskRemoveSpec.post enc Try.prog Try.f4 false true false false) := by
  refine returnsInHanded_of_change (C := Try.checked) own started (by kernel_rfl) Try.func4
    (ChangeSpec.witness6 (enc := enc) (C := Try.checked) false ⟨#[], #[.agg #[.slice none 0 0, .int .i64 0, .slice none 0 0], .int .i64 0, .int .i64 0], []⟩ 8 (by kernel_rfl) (by kernel_rfl) (by kernel_rfl) (by kernel_rfl)) ?_
  intro W base args ds gs before hval0 hW hcnd _
  have hval : ∀ (j : Nat) t v, Try.f4.params[j]? = some t → args[j]? = some v → Value.okWide Try.prog W .any base t v := hval0
  have hW' := hW
  obtain ⟨p, q, hA0, hV, rfl, hfz, hnd⟩ := hW
  have hA : DataW.TrodAll enc Try.prog W 0 (fun _ => true) true Try.f4.params.toList args.toList ds p := hA0
  rw [Try.params4] at hA hval
  obtain ⟨v0, vs0, d0, ds0, p0, q0, hargs, rfl, rfl, h0, r0⟩ := trodAll_cons hA
  obtain ⟨v1, vs1, d1, ds1, p1, q1, rfl, rfl, rfl, h1, r1⟩ := trodAll_cons r0
  obtain ⟨v2, vs2, d2, ds2, p2, q2, rfl, rfl, rfl, h2, r2⟩ := trodAll_cons r1
  obtain ⟨rfl, rfl, rfl⟩ := trodAll_nil r2
  obtain rfl : args = #[v0, v1, v2] := by cases args; simp_all
  obtain ⟨rfl, rfl⟩ := trodVars_none hV
  obtain ⟨cs0, rfl, _⟩ := okWide_struct Try.underlying27 (hval 0 27 v0 rfl rfl)
  have k0 := h0
  have lt0 : ∀ x ∈ p0, x.block < W.heap.size := by obtain ⟨m, hm⟩ := k0; exact DataW.trod_lt m _ _ _ hm
  obtain ⟨xs0, tv0, c0, ys0, uv0, et0, w0⟩ : ∃ fs tv c ds uv, cs0 = #[tv, .int .i64 c, uv] ∧ DskIn W (fun _ => True) tv fs uv ds ∧ ShortK maxLen fs ds := by
    obtain ⟨fuel, hf⟩ := h0
    obtain ⟨a, len, cap, fs, c, a', len', cap', ds, e0, e1, e2, e3, e4⟩ := read_disk hf
    exact ⟨fs, _, c, ds, _, by rw [← Array.toList_inj]; simpa [Value.cells] using e0, ⟨e1, e3⟩, ⟨e2, e4⟩⟩
  subst et0
  obtain ⟨n1, rfl, rfl, rfl, w1⟩ := open_int Try.underlying3 (hval 1 3 v1 rfl rfl) h1
  obtain ⟨n2, rfl, rfl, rfl, w2⟩ := open_int Try.underlying3 (hval 2 3 v2 rfl rfl) h2
  clear hA0 hval0
  refine (walk tv0 xs0 c0 uv0 ys0 n1 n2 W w0 w1 w2).mono fun e W' ⟨he, bel⟩ => ?_
  subst he
  exact ⟨_, rfl, _, _, _, [], _, [], hW', trodAll_mk1 (shut_bool Try.underlying4 _), (trodAll_cons_mk (Below.trod laidOut (by kernel_rfl) (of_decide_eq_true (by kernel_rfl)) k0 bel lt0) (trodAll_cons_mk (shut_int Try.underlying3 w1) (trodAll_cons_mk (shut_int Try.underlying3 w2) trodAll_mk0))), rfl, bel.frame _, fun h => by cases h⟩

theorem over : Rows.fnExactDiskRemoveRow.holds Try.pinned (OpenSpec.ofChange Rows.fnExactDiskRemoveSpec) :=
  OpenClaim.holds_of_wide 4 Try.f4 rfl rfl rfl rfl rfl rfl rfl ⟨rfl, rfl, rfl, rfl, rfl⟩ rfl rfl rfl rfl rfl (by kernel_rfl) Try.func4 (by kernel_rfl)
    (of_decide_eq_true (by kernel_rfl)) (by unfold Func.isWrapper; first | (rw [if_pos (by decide +kernel)]; kernel_rfl) | (rw [if_neg (by decide +kernel)]; exact ⟨rfl, rfl⟩))
    (fun os started H enc _ => lifted os started H enc)

/-- THE STATEMENT -/
theorem proved : Rows.FnExactDiskRemoveSaid := over
end Go.Proofs.Ytcphhmpedejkcaa.FnExactDiskRemove
