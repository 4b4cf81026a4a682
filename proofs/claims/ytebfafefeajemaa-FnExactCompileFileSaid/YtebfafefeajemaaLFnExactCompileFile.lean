/- FnExactCompileFile returns true for every argument. -/
import Derived.Test.YtebfafefeajemaaSComp
import Derived.Test.YtebfafefeajemaaStoreMem
import Derived.Test.YtebfafefeajemaaExTools
import Derived.Test.YtebfafefeajemaaSzTree
import Derived.Test.YtebfafefeajemaaReadIn
import Derived.Test.YtebfafefeajemaaHeld
import Derived.Test.YtebfafefeajemaaMarks2
import Derived.Test.YtebfafefeajemaaInts
import Derived.Test.YtebfafefeajemaaStrs
import Derived.Test.YtebfafefeajemaaFrame
set_option linter.unusedVariables false
set_option linter.unusedSimpArgs false
namespace Go.Proofs.Ytebfafefeajemaa.FnExactCompileFile
open Go.ChangeShapes Go.WideShapes Go.ChangeAt Go.RowKit Go.Proofs.Ytebfafefeajemaa.Nm

set_option maxRecDepth 100000 in
set_option maxHeartbeats 16000000 in
theorem walk (f0 : Fil) (v0 : Value) (n1 : Int) (w : World) (h0 : StmsIn w (fun _ => True) v0 f0.body ∧ ShortF maxLen f0) (h1 : (Lit.int .i64 n1).wf = true) :
    Calls Try.prog 3 #[.agg #[.int .i64 f0.root, .string (mk f0.pack), .string (mk f0.name), .bool f0.init, .int .i64 f0.stamp, v0], .int .i64 n1] w fun e w' => e = .returned (.bool true) ∧ Below w.heap.size w w' := by
  obtain ⟨hr0, hz0⟩ := h0
  obtain ⟨fr0, fp0, fn0, fi0, ft0, fb0⟩ := f0
  obtain ⟨za0, zb0, zc0⟩ := hz0
  dsimp only at hr0 za0 zb0 zc0 ⊢
  have HR0 := Lib.hid hr0
  have HZ0 := Lib.hid zc0
  obtain ⟨aa0, ca0, rfl, hlc0, hmc0⟩ := hr0.len
  clear hr0 zc0 hmc0
  obtain ⟨C0, hC0⟩ : ∃ C, C = filCost (⟨fr0, fp0, fn0, fi0, ft0, fb0⟩ : Fil) := ⟨_, rfl⟩
  have HC0 := Lib.hid hC0
  clear hC0
  obtain ⟨g0, hg0⟩ : ∃ g, g = compile ⟨fr0, fp0, fn0, fi0, ft0, fb0⟩ n1 := ⟨_, rfl⟩
  have HG0 := Lib.hid hg0
  clear hg0
  have Hsg0 := Lib.hid (show sameCmp ⟨g0.root, g0.module, g0.init, g0.mode, g0.stamp, g0.size, g0.hash, g0.body⟩ ⟨g0.root, g0.module, g0.init, g0.mode, g0.stamp, g0.size, g0.hash, g0.body⟩ = true from decide_eq_true rfl)
  go_enter Try.func3, Try.ntmps3
  go_wp2_with fail
  refine (laws_szFile _ _ _ _ _ _ fb0 _ 1048576 _ za0 zb0 (HR0.out.below (by (repeat (with_reducible first | exact Below.refl _ _ | assumption | refine ba ?_ _ | refine bd ?_ | refine bdN ?_ _ | refine bs ?_ (by first | exact Nat.le_refl _ | (dsimp only; omega) | (simp; done)) _ | refine bt ?_ (by assumption))))) HZ0.out (by omega)).mono ?_
  rintro _ w1 ⟨r1, rfl, hr1, hb1⟩
  have hs1 : Below w.heap.size w w1 := by (repeat (with_reducible first | exact Below.refl _ _ | assumption | refine ba ?_ _ | refine bd ?_ | refine bdN ?_ _ | refine bs ?_ (by first | exact Nat.le_refl _ | (dsimp only; omega) | (simp; done)) _ | refine bt ?_ (by assumption)))
  have Bw1 := Lib.hid (hs1)
  have X2 := Lib.hid (show BoxC w1 (w.heap.size) #[.int .i64 fr0, .string (mk fp0), .string (mk fn0), .bool fi0, .int .i64 ft0, .slice aa0 fb0.length ca0] from ((BoxC.start w #[.int .i64 fr0, .string (mk fp0), .string (mk fn0), .bool fi0, .int .i64 ft0, .slice aa0 fb0.length ca0] 24).below hb1).at (by simp))
  rw [← HC0.out] at hr1
  have k3_0 : w1.cell? ⟨w.heap.size, 0, none⟩ = some (.int .i64 fr0) := (X2.out).2 0
  have k3_1 : w1.cell? ⟨w.heap.size, 1, none⟩ = some (.string (mk fp0)) := (X2.out).2 1
  have k3_2 : w1.cell? ⟨w.heap.size, 2, none⟩ = some (.string (mk fn0)) := (X2.out).2 2
  have k3_3 : w1.cell? ⟨w.heap.size, 3, none⟩ = some (.bool fi0) := (X2.out).2 3
  have k3_4 : w1.cell? ⟨w.heap.size, 4, none⟩ = some (.int .i64 ft0) := (X2.out).2 4
  have k3_5 : w1.cell? ⟨w.heap.size, 5, none⟩ = some (.slice aa0 fb0.length ca0) := (X2.out).2 5
  have kl3 := (X2.out).1
  by_cases hn1 : r1 < 0
  · go_wp2_with fail
    go_ret
    exact ⟨rfl, Bw1.out⟩
  obtain ⟨R1, rfl⟩ := Int.eq_ofNat_of_zero_le (show 0 ≤ r1 by omega)
  have hR1 : R1 + C0 ≤ 1048576 := by omega
  clear hr1
  have HS0 := Lib.hid (shortF_of (by rw [← HC0.out]; omega : filCost (⟨fr0, fp0, fn0, fi0, ft0, fb0⟩ : Fil) ≤ 1048576))
  have hln0 : fb0.length ≤ C0 ∧ fp0.length ≤ 1048576 ∧ fn0.length ≤ 1048576 := by have h1 := HC0.out; have h2 := HS0.out.1; have h3 := HS0.out.2.1; have e : filCost (⟨fr0, fp0, fn0, fi0, ft0, fb0⟩ : Fil) = fp0.length + fn0.length + (fb0.length + (fb0.map stmCost).sum) := rfl; dsimp only at h2 h3; omega
  have HB0 := Lib.hid (short_mono (B := 2000000) (by omega) HS0.out.2.2)
  have Hse0 := Lib.hid (show sameFil (⟨fr0, fp0, fn0, fi0, ft0, fb0⟩ : Fil) (⟨fr0, fp0, fn0, fi0, ft0, fb0⟩ : Fil) = true from decide_eq_true rfl)
  have hgl : g0.body.length ≤ 1048576 := by rw [HG0.out]; unfold compile; split; exact Nat.le_trans hln0.1 (by omega); simp [noCmp]
  go_wp2_with fail
  refine (laws_toFile _ _ _ _ _ _ fb0 _ _ (HR0.out.below (bt Bw1.out (by (repeat (with_reducible first | exact Below.refl _ _ | assumption | refine ba ?_ _ | refine bd ?_ | refine bdN ?_ _ | refine bs ?_ (by first | exact Nat.le_refl _ | (dsimp only; omega) | (simp; done)) _ | refine bt ?_ (by assumption)))))) (by omega)).mono ?_
  rintro _ w4 ⟨v4, rfl, ho4, hb4⟩
  clear k3_0 k3_1 k3_2 k3_3 k3_4 k3_5 kl3
  have hs4 : Below w1.heap.size w1 w4 := by (repeat (with_reducible first | exact Below.refl _ _ | assumption | refine ba ?_ _ | refine bd ?_ | refine bdN ?_ _ | refine bs ?_ (by first | exact Nat.le_refl _ | (dsimp only; omega) | (simp; done)) _ | refine bt ?_ (by assumption)))
  have Bw4 := Lib.hid (bt Bw1.out hs4)
  have X5 := Lib.hid (X2.out.below hs4)
  clear Bw1 X2
  obtain ⟨a4, c4, rfl⟩ := owns_shape ho4
  unfold filV; dsimp only
  have I4 := Lib.hid (show StmsIn w4 (fun _ => True) (.slice a4 fb0.length c4) fb0 from StmsIn.of_owns ho4 (fun _ _ => trivial))
  have O4 := Lib.hid ho4
  clear ho4
  go_wp2_with fail
  refine (spec_CompileFile _ _ _ _ _ _ fb0 n1 _ _ (owns_below O4.out (by (repeat (with_reducible first | exact Below.refl _ _ | assumption | refine ba ?_ _ | refine bd ?_ | refine bdN ?_ _ | refine bs ?_ (by first | exact Nat.le_refl _ | (dsimp only; omega) | (simp; done)) _ | refine bt ?_ (by assumption))))) HS0.out (by omega)).mono ?_
  rintro _ w6 ⟨v6_0, rfl, ho6_0, hb6⟩
  have hs6 : Below w4.heap.size w4 w6 := by (repeat (with_reducible first | exact Below.refl _ _ | assumption | refine ba ?_ _ | refine bd ?_ | refine bdN ?_ _ | refine bs ?_ (by first | exact Nat.le_refl _ | (dsimp only; omega) | (simp; done)) _ | refine bt ?_ (by assumption)))
  have Bw6 := Lib.hid (bt Bw4.out hs6)
  have X7 := Lib.hid (X5.out.below hs6)
  have J8 := Lib.hid (I4.out.below hs6)
  have Q8 := Lib.hid (owns_below O4.out hs6)
  clear Bw4 X5 I4 O4
  have Hz6 := Lib.hid (show w4.heap.size ≤ w6.heap.size by have h := hb6.size; first | omega | (simp at h; omega))
  try rw [← HG0.out]
  try rw [← HG0.out] at ho6_0
  obtain ⟨a6_0, c6_0, rfl⟩ := owns_shape ho6_0
  have I6_0 := Lib.hid (show StmsIn w6 (fun _ => True) (.slice a6_0 g0.body.length c6_0) g0.body from StmsIn.of_owns ho6_0 (fun _ _ => trivial))
  have O6_0 := Lib.hid ho6_0
  clear ho6_0
  obtain ⟨WW, hWW⟩ : ∃ WW, WW = (w6.alloc (.cells #[.int .i64 g0.root, .string (mk g0.module), .bool g0.init, .int .i64 g0.mode, .int .i64 g0.stamp, .int .i64 g0.size, .int .i64 g0.hash, .slice a6_0 g0.body.length c6_0] 28)) := ⟨_, rfl⟩
  have hWs : WW.heap.size = w6.heap.size + 1 := by rw [hWW]; simp
  have hcW : Below w6.heap.size w6 WW := by rw [hWW]; (repeat (with_reducible first | exact Below.refl _ _ | assumption | refine ba ?_ _ | refine bd ?_ | refine bdN ?_ _ | refine bs ?_ (by first | exact Nat.le_refl _ | (dsimp only; omega) | (simp; done)) _ | refine bt ?_ (by assumption)))
  have IW0 := Lib.hid (I6_0.out.below hcW)
  have HwW := Lib.hid (bt Bw6.out hcW)
  have Hpl0 := Lib.hid (show w.heap.size < WW.heap.size by have := X7.out.1; omega)
  have Hwl0 := Lib.hid (show w6.heap.size < WW.heap.size by omega)
  have HWs := Lib.hid hWs
  clear hWs hcW
  have k9_0 : w6.cell? ⟨w.heap.size, 0, none⟩ = some (.int .i64 fr0) := (X7.out).2 0
  have k9_1 : w6.cell? ⟨w.heap.size, 1, none⟩ = some (.string (mk fp0)) := (X7.out).2 1
  have k9_2 : w6.cell? ⟨w.heap.size, 2, none⟩ = some (.string (mk fn0)) := (X7.out).2 2
  have k9_3 : w6.cell? ⟨w.heap.size, 3, none⟩ = some (.bool fi0) := (X7.out).2 3
  have k9_4 : w6.cell? ⟨w.heap.size, 4, none⟩ = some (.int .i64 ft0) := (X7.out).2 4
  have k9_5 : w6.cell? ⟨w.heap.size, 5, none⟩ = some (.slice aa0 fb0.length ca0) := (X7.out).2 5
  have kl9 := (X7.out).1
  go_wp2_with fail
  refine (laws_toFile _ _ _ _ _ _ fb0 _ _ (HR0.out.below (bt Bw6.out (by (repeat (with_reducible first | exact Below.refl _ _ | assumption | refine ba ?_ _ | refine bd ?_ | refine bdN ?_ _ | refine bs ?_ (by first | exact Nat.le_refl _ | (dsimp only; omega) | (simp; done)) _ | refine bt ?_ (by assumption)))))) (by omega)).mono ?_
  rintro _ w10 ⟨v10, rfl, ho10, hb10⟩
  clear k9_0 k9_1 k9_2 k9_3 k9_4 k9_5 kl9
  have hs10 : Below w6.heap.size w6 w10 := by (repeat (with_reducible first | exact Below.refl _ _ | assumption | refine ba ?_ _ | refine bd ?_ | refine bdN ?_ _ | refine bs ?_ (by first | exact Nat.le_refl _ | (dsimp only; omega) | (simp; done)) _ | refine bt ?_ (by assumption)))
  have Bw10 := Lib.hid (bt Bw6.out hs10)
  have BW10 := Lib.hid (show Below WW.heap.size WW w10 by rw [hWW]; exact hb10)
  have X11 := Lib.hid (X7.out.below hs10)
  have X12 := Lib.hid (show BoxC w10 (w6.heap.size) #[.int .i64 g0.root, .string (mk g0.module), .bool g0.init, .int .i64 g0.mode, .int .i64 g0.stamp, .int .i64 g0.size, .int .i64 g0.hash, .slice a6_0 g0.body.length c6_0] from ((BoxC.start w6 #[.int .i64 g0.root, .string (mk g0.module), .bool g0.init, .int .i64 g0.mode, .int .i64 g0.stamp, .int .i64 g0.size, .int .i64 g0.hash, .slice a6_0 g0.body.length c6_0] 28).below hb10).at (by simp))
  clear Bw6 X7
  have Hz10 := Lib.hid (show w6.heap.size + 1 ≤ w10.heap.size by have h := hb10.size; first | omega | (simp at h; omega))
  obtain ⟨a10, c10, rfl⟩ := owns_shape ho10
  unfold filV; dsimp only
  have I10 := Lib.hid (show StmsIn w10 (fun _ => True) (.slice a10 fb0.length c10) fb0 from StmsIn.of_owns ho10 (fun _ _ => trivial))
  have O10 := Lib.hid ho10
  clear ho10
  have OO10 := Lib.hid (owns_mono O10.out (show w6.heap.size + 1 ≤ _ by simp))
  clear O10
  have Hv10 := Lib.hid (fun b (hb : (Value.slice a10 fb0.length c10).ownBlock = some b) => (show w6.heap.size + 1 ≤ b ∧ b < w10.heap.size by have h := (fun b hb => OO10.out.lt b hb) b hb; first | exact h | (simp at h; exact h)))
  go_wp2_with fail
  refine (impl_CompileFile _ _ _ _ _ _ fb0 n1 _ _ (owns_below OO10.out (by (repeat (with_reducible first | exact Below.refl _ _ | assumption | refine ba ?_ _ | refine bd ?_ | refine bdN ?_ _ | refine bs ?_ (by first | exact Nat.le_refl _ | (dsimp only; omega) | (simp; done)) _ | refine bt ?_ (by assumption))))) HS0.out (by omega)).mono ?_
  rintro _ w13 ⟨v13_0, rfl, ho13_0, hb13⟩
  have hs13 : Below w10.heap.size w10 w13 := by (repeat (with_reducible first | exact Below.refl _ _ | assumption | refine ba ?_ _ | refine bd ?_ | refine bdN ?_ _ | refine bs ?_ (by first | exact Nat.le_refl _ | (dsimp only; omega) | (simp; done)) _ | refine bt ?_ (by assumption)))
  have Bw13 := Lib.hid (bt Bw10.out hs13)
  have BW13 := Lib.hid (bt BW10.out hs13)
  have X14 := Lib.hid (X11.out.below hs13)
  have X15 := Lib.hid (X12.out.below hs13)
  have X16 := Lib.hid (show BoxC w13 (w10.heap.size) #[.int .i64 fr0, .string (mk fp0), .string (mk fn0), .bool fi0, .int .i64 ft0, .slice a10 fb0.length c10] from ((BoxC.start w10 #[.int .i64 fr0, .string (mk fp0), .string (mk fn0), .bool fi0, .int .i64 ft0, .slice a10 fb0.length c10] 31).below hb13).at (by simp))
  have J17 := Lib.hid (I10.out.below hs13)
  have Q17 := Lib.hid (owns_below OO10.out hs13)
  clear Bw10 BW10 X11 X12 I10 OO10
  have Hz13 := Lib.hid (show w10.heap.size + 1 ≤ w13.heap.size by have h := hb13.size; first | omega | (simp at h; omega))
  try rw [← HG0.out]
  try rw [← HG0.out] at ho13_0
  obtain ⟨a13_0, c13_0, rfl⟩ := owns_shape ho13_0
  have I13_0 := Lib.hid (show StmsIn w13 (fun _ => True) (.slice a13_0 g0.body.length c13_0) g0.body from StmsIn.of_owns ho13_0 (fun _ _ => trivial))
  have O13_0 := Lib.hid ho13_0
  clear ho13_0
  have OO13_0 := Lib.hid (owns_mono O13_0.out (show w10.heap.size + 1 ≤ _ by simp))
  clear O13_0
  have Hv18 := Lib.hid (fun b (hb : (Value.slice a13_0 g0.body.length c13_0).ownBlock = some b) => (show w10.heap.size + 1 ≤ b ∧ b < w13.heap.size by have h := (fun b hb => OO13_0.out.lt b hb) b hb; first | exact h | (simp at h; exact h)))
  have k19_0 : w13.cell? ⟨w6.heap.size, 0, none⟩ = some (.int .i64 g0.root) := (X15.out).2 0
  have k19_1 : w13.cell? ⟨w6.heap.size, 1, none⟩ = some (.string (mk g0.module)) := (X15.out).2 1
  have k19_2 : w13.cell? ⟨w6.heap.size, 2, none⟩ = some (.bool g0.init) := (X15.out).2 2
  have k19_3 : w13.cell? ⟨w6.heap.size, 3, none⟩ = some (.int .i64 g0.mode) := (X15.out).2 3
  have k19_4 : w13.cell? ⟨w6.heap.size, 4, none⟩ = some (.int .i64 g0.stamp) := (X15.out).2 4
  have k19_5 : w13.cell? ⟨w6.heap.size, 5, none⟩ = some (.int .i64 g0.size) := (X15.out).2 5
  have k19_6 : w13.cell? ⟨w6.heap.size, 6, none⟩ = some (.int .i64 g0.hash) := (X15.out).2 6
  have k19_7 : w13.cell? ⟨w6.heap.size, 7, none⟩ = some (.slice a6_0 g0.body.length c6_0) := (X15.out).2 7
  have kl19 := (X15.out).1
  go_wp2_with fail
  refine (laws_eqCompiled _ _ _ _ _ _ _ _ g0.body _ _ _ _ _ _ _ _ g0.body (fun _ => True) (fun _ => True) _ (I13_0.out.below (by (repeat (with_reducible first | exact Below.refl _ _ | assumption | refine ba ?_ _ | refine bd ?_ | refine bdN ?_ _ | refine bs ?_ (by first | exact Nat.le_refl _ | (dsimp only; omega) | (simp; done)) _ | refine bt ?_ (by assumption))))) (IW0.out.below (bt BW13.out (by (repeat (with_reducible first | exact Below.refl _ _ | assumption | refine ba ?_ _ | refine bd ?_ | refine bdN ?_ _ | refine bs ?_ (by first | exact Nat.le_refl _ | (dsimp only; omega) | (simp; done)) _ | refine bt ?_ (by assumption))))))).mono ?_
  rintro _ w20 ⟨rfl, hb20⟩
  clear k19_0 k19_1 k19_2 k19_3 k19_4 k19_5 k19_6 k19_7 kl19
  have hs20 : Below w13.heap.size w13 w20 := by (repeat (with_reducible first | exact Below.refl _ _ | assumption | refine ba ?_ _ | refine bd ?_ | refine bdN ?_ _ | refine bs ?_ (by first | exact Nat.le_refl _ | (dsimp only; omega) | (simp; done)) _ | refine bt ?_ (by assumption)))
  have Bw20 := Lib.hid (bt Bw13.out hs20)
  have BW20 := Lib.hid (bt BW13.out hs20)
  have X21 := Lib.hid (X14.out.below hs20)
  have X22 := Lib.hid (X15.out.below hs20)
  have X23 := Lib.hid (X16.out.below hs20)
  have X24 := Lib.hid (show BoxC w20 (w13.heap.size) #[.int .i64 g0.root, .string (mk g0.module), .bool g0.init, .int .i64 g0.mode, .int .i64 g0.stamp, .int .i64 g0.size, .int .i64 g0.hash, .slice a13_0 g0.body.length c13_0] from ((BoxC.start w13 #[.int .i64 g0.root, .string (mk g0.module), .bool g0.init, .int .i64 g0.mode, .int .i64 g0.stamp, .int .i64 g0.size, .int .i64 g0.hash, .slice a13_0 g0.body.length c13_0] 28).below hb20).at (by simp))
  have J25 := Lib.hid (J17.out.below hs20)
  have Q25 := Lib.hid (owns_below Q17.out hs20)
  have J26 := Lib.hid (I13_0.out.below hs20)
  have Q26 := Lib.hid (owns_below OO13_0.out hs20)
  clear Bw13 BW13 X14 X15 X16 J17 Q17 I13_0 OO13_0
  rw [Hsg0.out]
  have Hk27 := Lib.hid (fun (w' : World) (hC : Below w20.heap.size w20 w') => (⟨((X21.out).below hC).2 0, ((X21.out).below hC).2 1, ((X21.out).below hC).2 2, ((X21.out).below hC).2 3, ((X21.out).below hC).2 4, ((X21.out).below hC).2 5, ((X23.out).below hC).2 0, ((X23.out).below hC).2 1, ((X23.out).below hC).2 2, ((X23.out).below hC).2 3, ((X23.out).below hC).2 4, ((X23.out).below hC).2 5, hC⟩ : w'.cell? ⟨w.heap.size, 0, none⟩ = some (.int .i64 fr0) ∧ w'.cell? ⟨w.heap.size, 1, none⟩ = some (.string (mk fp0)) ∧ w'.cell? ⟨w.heap.size, 2, none⟩ = some (.string (mk fn0)) ∧ w'.cell? ⟨w.heap.size, 3, none⟩ = some (.bool fi0) ∧ w'.cell? ⟨w.heap.size, 4, none⟩ = some (.int .i64 ft0) ∧ w'.cell? ⟨w.heap.size, 5, none⟩ = some (.slice aa0 fb0.length ca0) ∧ w'.cell? ⟨w10.heap.size, 0, none⟩ = some (.int .i64 fr0) ∧ w'.cell? ⟨w10.heap.size, 1, none⟩ = some (.string (mk fp0)) ∧ w'.cell? ⟨w10.heap.size, 2, none⟩ = some (.string (mk fn0)) ∧ w'.cell? ⟨w10.heap.size, 3, none⟩ = some (.bool fi0) ∧ w'.cell? ⟨w10.heap.size, 4, none⟩ = some (.int .i64 ft0) ∧ w'.cell? ⟨w10.heap.size, 5, none⟩ = some (.slice a10 fb0.length c10) ∧ Below w20.heap.size w20 w'))
  have HPHk27 := Lib.hid (HR0.out.below Bw20.out)
  go_wp2_with fail
  go_region_held3 (fun w' => w'.cell? ⟨w.heap.size, 0, none⟩ = some (.int .i64 fr0) ∧ w'.cell? ⟨w.heap.size, 1, none⟩ = some (.string (mk fp0)) ∧ w'.cell? ⟨w.heap.size, 2, none⟩ = some (.string (mk fn0)) ∧ w'.cell? ⟨w.heap.size, 3, none⟩ = some (.bool fi0) ∧ w'.cell? ⟨w.heap.size, 4, none⟩ = some (.int .i64 ft0) ∧ w'.cell? ⟨w.heap.size, 5, none⟩ = some (.slice aa0 fb0.length ca0) ∧ w'.cell? ⟨w10.heap.size, 0, none⟩ = some (.int .i64 fr0) ∧ w'.cell? ⟨w10.heap.size, 1, none⟩ = some (.string (mk fp0)) ∧ w'.cell? ⟨w10.heap.size, 2, none⟩ = some (.string (mk fn0)) ∧ w'.cell? ⟨w10.heap.size, 3, none⟩ = some (.bool fi0) ∧ w'.cell? ⟨w10.heap.size, 4, none⟩ = some (.int .i64 ft0) ∧ w'.cell? ⟨w10.heap.size, 5, none⟩ = some (.slice a10 fb0.length c10) ∧ Below w20.heap.size w20 w')
    (exact Hk27.out _ (by (repeat (with_reducible first | exact Below.refl _ _ | assumption | refine ba ?_ _ | refine bd ?_ | refine bdN ?_ _ | refine bs ?_ (by first | exact Nat.le_refl _ | (dsimp only; omega) | (simp; done)) _ | refine bt ?_ (by assumption)))))
    (first
      | (go_at_call 16; refine (laws_toFile _ _ _ _ _ _ fb0 _ _ (HPHk27.out.below (by (repeat (with_reducible first | exact Below.refl _ _ | assumption | refine ba ?_ _ | refine bd ?_ | refine bdN ?_ _ | refine bs ?_ (by first | exact Nat.le_refl _ | (dsimp only; omega) | (simp; done)) _ | refine bt ?_ (by assumption))))) (by omega)).mono ?_; rintro _ w28 ⟨v28, rfl, ho28, hb28⟩; obtain ⟨a28, c28, rfl⟩ := owns_shape ho28; unfold filV; dsimp only; have I28 := Lib.hid (show StmsIn w28 (fun _ => True) (.slice a28 fb0.length c28) fb0 from StmsIn.of_owns ho28 (fun _ _ => trivial)); have O28 := Lib.hid ho28; clear ho28)
      | (go_at_call 19; refine (laws_eqFile _ _ _ _ _ _ fb0 _ _ _ _ _ _ fb0 (fun _ => True) (fun _ => True) _ (J25.out.below (by (repeat (with_reducible first | exact Below.refl _ _ | assumption | refine ba ?_ _ | refine bd ?_ | refine bdN ?_ _ | refine bs ?_ (by first | exact Nat.le_refl _ | (dsimp only; omega) | (simp; done)) _ | refine bt ?_ (by assumption))))) (I28.out.below (by (repeat (with_reducible first | exact Below.refl _ _ | assumption | refine ba ?_ _ | refine bd ?_ | refine bdN ?_ _ | refine bs ?_ (by first | exact Nat.le_refl _ | (dsimp only; omega) | (simp; done)) _ | refine bt ?_ (by assumption)))))).mono ?_; rintro _ w29 ⟨rfl, hb29⟩; rw [Hse0.out]))
  have hs29 : Below w20.heap.size w20 w29 := by (repeat (with_reducible first | exact Below.refl _ _ | assumption | refine ba ?_ _ | refine bd ?_ | refine bdN ?_ _ | refine bs ?_ (by first | exact Nat.le_refl _ | (dsimp only; omega) | (simp; done)) _ | refine bt ?_ (by assumption)))
  have Bw29 := Lib.hid (bt Bw20.out hs29)
  have BW29 := Lib.hid (bt BW20.out hs29)
  have X30 := Lib.hid (X21.out.below hs29)
  have X31 := Lib.hid (X22.out.below hs29)
  have X32 := Lib.hid (X23.out.below hs29)
  have X33 := Lib.hid (X24.out.below hs29)
  have J34 := Lib.hid (J25.out.below hs29)
  have Q34 := Lib.hid (owns_below Q25.out hs29)
  have J35 := Lib.hid (J26.out.below hs29)
  have Q35 := Lib.hid (owns_below Q26.out hs29)
  clear Bw20 BW20 X21 X22 X23 X24 J25 Q25 J26 Q26
  have k36_0 : w29.cell? ⟨w10.heap.size, 0, none⟩ = some (.int .i64 fr0) := (X32.out).2 0
  have k36_1 : w29.cell? ⟨w10.heap.size, 1, none⟩ = some (.string (mk fp0)) := (X32.out).2 1
  have k36_2 : w29.cell? ⟨w10.heap.size, 2, none⟩ = some (.string (mk fn0)) := (X32.out).2 2
  have k36_3 : w29.cell? ⟨w10.heap.size, 3, none⟩ = some (.bool fi0) := (X32.out).2 3
  have k36_4 : w29.cell? ⟨w10.heap.size, 4, none⟩ = some (.int .i64 ft0) := (X32.out).2 4
  have k36_5 : w29.cell? ⟨w10.heap.size, 5, none⟩ = some (.slice a10 fb0.length c10) := (X32.out).2 5
  have kl36 := (X32.out).1
  go_wp2_with fail
  have hkk : 1 ≤ 1 := by omega
  refine (laws_markFile (w6.heap.size + 1) _ _ _ _ _ _ fb0 1 _ (owns_below Q34.out (by (repeat (with_reducible first | exact Below.refl _ _ | assumption | refine ba ?_ _ | refine bd ?_ | refine bdN ?_ _ | refine bs ?_ (by first | exact Nat.le_refl _ | (dsimp only; omega) | (simp; done)) _ | refine bt ?_ (by assumption))))) hkk (by omega)).mono ?_
  rintro _ w37 ⟨rfl, _, ht37⟩
  clear k36_0 k36_1 k36_2 k36_3 k36_4 k36_5 kl36
  have Ht37 := Lib.hid ht37
  clear ht37
  have BW37 := Lib.hid (BW29.out.trans (Ht37.out.below BW29.out.size (fun b hb => by have := (Hv10.out b hb).1; have := Hpl0.out; have := Hwl0.out; have := HWs.out; have := Hz10.out; have := Hz13.out; omega)))
  have Bw37 := Lib.hid (show Below w.heap.size w w37 from HwW.out.trans (BW37.out.mono HwW.out.size))
  have X38 := Lib.hid (X30.out.turned Ht37.out (fun hb => by have := Hv10.out _ hb; have := Hpl0.out; have := Hwl0.out; have := HWs.out; have := Hz10.out; have := Hz13.out; omega))
  have X39 := Lib.hid (X31.out.turned Ht37.out (fun hb => by have := Hv10.out _ hb; have := Hpl0.out; have := Hwl0.out; have := HWs.out; have := Hz10.out; have := Hz13.out; omega))
  have X40 := Lib.hid (X32.out.turned Ht37.out (fun hb => by have := Hv10.out _ hb; have := Hpl0.out; have := Hwl0.out; have := HWs.out; have := Hz10.out; have := Hz13.out; omega))
  have X41 := Lib.hid (X33.out.turned Ht37.out (fun hb => by have := Hv10.out _ hb; have := Hpl0.out; have := Hwl0.out; have := HWs.out; have := Hz10.out; have := Hz13.out; omega))
  have Q42 := Lib.hid (owns_turned Q35.out Ht37.out (fun b hb hS => by have := Hv10.out b hS; have := Hv18.out b hb; have := Hpl0.out; have := Hwl0.out; have := HWs.out; have := Hz10.out; have := Hz13.out; omega))
  clear Bw29 BW29 X30 X31 X32 X33 J34 Q34 J35 Q35
  clear hkk
  obtain ⟨K43, hK43⟩ : ∃ K, K = 1 + 5 * fb0.length := ⟨_, rfl⟩
  have hK43b : 1 ≤ K43 ∧ K43 ≤ 1 + 5 * C0 := by rw [hK43]; exact ⟨by omega, by omega⟩
  rw [← hK43]
  have HK43 := Lib.hid hK43
  clear hK43
  have hk0 : ¬ ((K43 : Nat) : Int) < 0 := Int.not_lt.2 (Int.natCast_nonneg _)
  have I_44 := Lib.hid (show StmsIn w37 (fun _ => True) (.slice a13_0 g0.body.length c13_0) g0.body from StmsIn.of_owns Q42.out (fun _ _ => trivial))
  have k45_0 : w37.cell? ⟨w6.heap.size, 0, none⟩ = some (.int .i64 g0.root) := (X39.out).2 0
  have k45_1 : w37.cell? ⟨w6.heap.size, 1, none⟩ = some (.string (mk g0.module)) := (X39.out).2 1
  have k45_2 : w37.cell? ⟨w6.heap.size, 2, none⟩ = some (.bool g0.init) := (X39.out).2 2
  have k45_3 : w37.cell? ⟨w6.heap.size, 3, none⟩ = some (.int .i64 g0.mode) := (X39.out).2 3
  have k45_4 : w37.cell? ⟨w6.heap.size, 4, none⟩ = some (.int .i64 g0.stamp) := (X39.out).2 4
  have k45_5 : w37.cell? ⟨w6.heap.size, 5, none⟩ = some (.int .i64 g0.size) := (X39.out).2 5
  have k45_6 : w37.cell? ⟨w6.heap.size, 6, none⟩ = some (.int .i64 g0.hash) := (X39.out).2 6
  have k45_7 : w37.cell? ⟨w6.heap.size, 7, none⟩ = some (.slice a6_0 g0.body.length c6_0) := (X39.out).2 7
  have kl45 := (X39.out).1
  have k46_0 : w37.cell? ⟨w13.heap.size, 0, none⟩ = some (.int .i64 g0.root) := (X41.out).2 0
  have k46_1 : w37.cell? ⟨w13.heap.size, 1, none⟩ = some (.string (mk g0.module)) := (X41.out).2 1
  have k46_2 : w37.cell? ⟨w13.heap.size, 2, none⟩ = some (.bool g0.init) := (X41.out).2 2
  have k46_3 : w37.cell? ⟨w13.heap.size, 3, none⟩ = some (.int .i64 g0.mode) := (X41.out).2 3
  have k46_4 : w37.cell? ⟨w13.heap.size, 4, none⟩ = some (.int .i64 g0.stamp) := (X41.out).2 4
  have k46_5 : w37.cell? ⟨w13.heap.size, 5, none⟩ = some (.int .i64 g0.size) := (X41.out).2 5
  have k46_6 : w37.cell? ⟨w13.heap.size, 6, none⟩ = some (.int .i64 g0.hash) := (X41.out).2 6
  have k46_7 : w37.cell? ⟨w13.heap.size, 7, none⟩ = some (.slice a13_0 g0.body.length c13_0) := (X41.out).2 7
  have kl46 := (X41.out).1
  go_wp2_with fail
  refine (laws_eqCompiled _ _ _ _ _ _ _ _ g0.body _ _ _ _ _ _ _ _ g0.body (fun _ => True) (fun _ => True) _ (I_44.out.below (by (repeat (with_reducible first | exact Below.refl _ _ | assumption | refine ba ?_ _ | refine bd ?_ | refine bdN ?_ _ | refine bs ?_ (by first | exact Nat.le_refl _ | (dsimp only; omega) | (simp; done)) _ | refine bt ?_ (by assumption))))) (IW0.out.below (bt BW37.out (by (repeat (with_reducible first | exact Below.refl _ _ | assumption | refine ba ?_ _ | refine bd ?_ | refine bdN ?_ _ | refine bs ?_ (by first | exact Nat.le_refl _ | (dsimp only; omega) | (simp; done)) _ | refine bt ?_ (by assumption))))))).mono ?_
  rintro _ w47 ⟨rfl, hb47⟩
  clear hk0 k45_0 k45_1 k45_2 k45_3 k45_4 k45_5 k45_6 k45_7 kl45 k46_0 k46_1 k46_2 k46_3 k46_4 k46_5 k46_6 k46_7 kl46
  have hs47 : Below w37.heap.size w37 w47 := by (repeat (with_reducible first | exact Below.refl _ _ | assumption | refine ba ?_ _ | refine bd ?_ | refine bdN ?_ _ | refine bs ?_ (by first | exact Nat.le_refl _ | (dsimp only; omega) | (simp; done)) _ | refine bt ?_ (by assumption)))
  have Bw47 := Lib.hid (bt Bw37.out hs47)
  have BW47 := Lib.hid (bt BW37.out hs47)
  have X48 := Lib.hid (X38.out.below hs47)
  have X49 := Lib.hid (X39.out.below hs47)
  have X50 := Lib.hid (X41.out.below hs47)
  have J51 := Lib.hid (I_44.out.below hs47)
  have Q51 := Lib.hid (owns_below Q42.out hs47)
  clear Bw37 BW37 X38 X39 X41 I_44 Q42
  rw [Hsg0.out]
  have k52_0 : w47.cell? ⟨w13.heap.size, 0, none⟩ = some (.int .i64 g0.root) := (X50.out).2 0
  have k52_1 : w47.cell? ⟨w13.heap.size, 1, none⟩ = some (.string (mk g0.module)) := (X50.out).2 1
  have k52_2 : w47.cell? ⟨w13.heap.size, 2, none⟩ = some (.bool g0.init) := (X50.out).2 2
  have k52_3 : w47.cell? ⟨w13.heap.size, 3, none⟩ = some (.int .i64 g0.mode) := (X50.out).2 3
  have k52_4 : w47.cell? ⟨w13.heap.size, 4, none⟩ = some (.int .i64 g0.stamp) := (X50.out).2 4
  have k52_5 : w47.cell? ⟨w13.heap.size, 5, none⟩ = some (.int .i64 g0.size) := (X50.out).2 5
  have k52_6 : w47.cell? ⟨w13.heap.size, 6, none⟩ = some (.int .i64 g0.hash) := (X50.out).2 6
  have k52_7 : w47.cell? ⟨w13.heap.size, 7, none⟩ = some (.slice a13_0 g0.body.length c13_0) := (X50.out).2 7
  have kl52 := (X50.out).1
  go_wp2_with fail
  have hkk : 1 ≤ 1 := by omega
  refine (laws_markCompiled (w10.heap.size + 1) _ _ _ _ _ _ _ _ g0.body 1 _ (owns_below Q51.out (by (repeat (with_reducible first | exact Below.refl _ _ | assumption | refine ba ?_ _ | refine bd ?_ | refine bdN ?_ _ | refine bs ?_ (by first | exact Nat.le_refl _ | (dsimp only; omega) | (simp; done)) _ | refine bt ?_ (by assumption))))) hkk (by omega)).mono ?_
  rintro _ w53 ⟨rfl, hm53, ht53⟩
  clear k52_0 k52_1 k52_2 k52_3 k52_4 k52_5 k52_6 k52_7 kl52
  have M53 := Lib.hid (show StmsIn w53 (fun _ => True) _ (marksS 1 g0.body.length) from StmsIn.of_owns (by rw [marksS_len]; exact hm53) (fun _ _ => trivial))
  clear hm53
  have Ht53 := Lib.hid ht53
  clear ht53
  have BW53 := Lib.hid (BW47.out.trans (Ht53.out.below BW47.out.size (fun b hb => by have := (Hv18.out b hb).1; have := Hpl0.out; have := Hwl0.out; have := HWs.out; have := Hz10.out; have := Hz13.out; omega)))
  have Bw53 := Lib.hid (show Below w.heap.size w w53 from HwW.out.trans (BW53.out.mono HwW.out.size))
  have X54 := Lib.hid (X48.out.turned Ht53.out (fun hb => by have := Hv18.out _ hb; have := Hpl0.out; have := Hwl0.out; have := HWs.out; have := Hz10.out; have := Hz13.out; omega))
  have X55 := Lib.hid (X49.out.turned Ht53.out (fun hb => by have := Hv18.out _ hb; have := Hpl0.out; have := Hwl0.out; have := HWs.out; have := Hz10.out; have := Hz13.out; omega))
  have X56 := Lib.hid (X50.out.turned Ht53.out (fun hb => by have := Hv18.out _ hb; have := Hpl0.out; have := Hwl0.out; have := HWs.out; have := Hz10.out; have := Hz13.out; omega))
  clear Bw47 BW47 X48 X49 X50 J51 Q51
  clear hkk
  obtain ⟨K57, hK57⟩ : ∃ K, K = 1 + 5 * g0.body.length := ⟨_, rfl⟩
  have hK57b : 1 ≤ K57 ∧ K57 ≤ 1 + 5 * g0.body.length := by rw [hK57]; exact ⟨by omega, by omega⟩
  rw [← hK57]
  have HK57 := Lib.hid hK57
  clear hK57
  have k58_0 : w53.cell? ⟨w13.heap.size, 0, none⟩ = some (.int .i64 g0.root) := (X56.out).2 0
  have k58_1 : w53.cell? ⟨w13.heap.size, 1, none⟩ = some (.string (mk g0.module)) := (X56.out).2 1
  have k58_2 : w53.cell? ⟨w13.heap.size, 2, none⟩ = some (.bool g0.init) := (X56.out).2 2
  have k58_3 : w53.cell? ⟨w13.heap.size, 3, none⟩ = some (.int .i64 g0.mode) := (X56.out).2 3
  have k58_4 : w53.cell? ⟨w13.heap.size, 4, none⟩ = some (.int .i64 g0.stamp) := (X56.out).2 4
  have k58_5 : w53.cell? ⟨w13.heap.size, 5, none⟩ = some (.int .i64 g0.size) := (X56.out).2 5
  have k58_6 : w53.cell? ⟨w13.heap.size, 6, none⟩ = some (.int .i64 g0.hash) := (X56.out).2 6
  have k58_7 : w53.cell? ⟨w13.heap.size, 7, none⟩ = some (.slice a13_0 g0.body.length c13_0) := (X56.out).2 7
  have kl58 := (X56.out).1
  go_wp2_with fail
  refine (laws_heldCompiled _ _ _ _ _ _ _ _ (fun _ => True) g0.body.length 1 _ (M53.out.below (by (repeat (with_reducible first | exact Below.refl _ _ | assumption | refine ba ?_ _ | refine bd ?_ | refine bdN ?_ _ | refine bs ?_ (by first | exact Nat.le_refl _ | (dsimp only; omega) | (simp; done)) _ | refine bt ?_ (by assumption))))) (by omega) (by omega)).mono ?_
  rintro _ w59 ⟨rfl, hb59⟩
  clear k58_0 k58_1 k58_2 k58_3 k58_4 k58_5 k58_6 k58_7 kl58
  have hs59 : Below w53.heap.size w53 w59 := by (repeat (with_reducible first | exact Below.refl _ _ | assumption | refine ba ?_ _ | refine bd ?_ | refine bdN ?_ _ | refine bs ?_ (by first | exact Nat.le_refl _ | (dsimp only; omega) | (simp; done)) _ | refine bt ?_ (by assumption)))
  have Bw59 := Lib.hid (bt Bw53.out hs59)
  have BW59 := Lib.hid (bt BW53.out hs59)
  have X60 := Lib.hid (X54.out.below hs59)
  have X61 := Lib.hid (X55.out.below hs59)
  have X62 := Lib.hid (X56.out.below hs59)
  have N63 := Lib.hid (M53.out.below hs59)
  clear Bw53 BW53 X54 X55 X56 M53
  rw [← HK57.out]
  have hk0 : ¬ ((K57 : Nat) : Int) < 0 := Int.not_lt.2 (Int.natCast_nonneg _)
  have k64_0 : w59.cell? ⟨w.heap.size, 0, none⟩ = some (.int .i64 fr0) := (X60.out).2 0
  have k64_1 : w59.cell? ⟨w.heap.size, 1, none⟩ = some (.string (mk fp0)) := (X60.out).2 1
  have k64_2 : w59.cell? ⟨w.heap.size, 2, none⟩ = some (.string (mk fn0)) := (X60.out).2 2
  have k64_3 : w59.cell? ⟨w.heap.size, 3, none⟩ = some (.bool fi0) := (X60.out).2 3
  have k64_4 : w59.cell? ⟨w.heap.size, 4, none⟩ = some (.int .i64 ft0) := (X60.out).2 4
  have k64_5 : w59.cell? ⟨w.heap.size, 5, none⟩ = some (.slice aa0 fb0.length ca0) := (X60.out).2 5
  have kl64 := (X60.out).1
  go_wp2_with fail
  refine (laws_toFile _ _ _ _ _ _ fb0 _ _ (HR0.out.below (bt Bw59.out (by (repeat (with_reducible first | exact Below.refl _ _ | assumption | refine ba ?_ _ | refine bd ?_ | refine bdN ?_ _ | refine bs ?_ (by first | exact Nat.le_refl _ | (dsimp only; omega) | (simp; done)) _ | refine bt ?_ (by assumption)))))) (by omega)).mono ?_
  rintro _ w65 ⟨v65, rfl, ho65, hb65⟩
  clear hk0 k64_0 k64_1 k64_2 k64_3 k64_4 k64_5 kl64
  have hs65 : Below w59.heap.size w59 w65 := by (repeat (with_reducible first | exact Below.refl _ _ | assumption | refine ba ?_ _ | refine bd ?_ | refine bdN ?_ _ | refine bs ?_ (by first | exact Nat.le_refl _ | (dsimp only; omega) | (simp; done)) _ | refine bt ?_ (by assumption)))
  have Bw65 := Lib.hid (bt Bw59.out hs65)
  have BW65 := Lib.hid (bt BW59.out hs65)
  have X66 := Lib.hid (X60.out.below hs65)
  have X67 := Lib.hid (X61.out.below hs65)
  have X68 := Lib.hid (X62.out.below hs65)
  have N69 := Lib.hid (N63.out.below hs65)
  clear Bw59 BW59 X60 X61 X62 N63
  obtain ⟨a65, c65, rfl⟩ := owns_shape ho65
  unfold filV; dsimp only
  have I65 := Lib.hid (show StmsIn w65 (fun _ => True) (.slice a65 fb0.length c65) fb0 from StmsIn.of_owns ho65 (fun _ _ => trivial))
  have O65 := Lib.hid ho65
  clear ho65
  go_wp2_with fail
  refine (impl_CompileFile _ _ _ _ _ _ fb0 n1 _ _ (owns_below O65.out (by (repeat (with_reducible first | exact Below.refl _ _ | assumption | refine ba ?_ _ | refine bd ?_ | refine bdN ?_ _ | refine bs ?_ (by first | exact Nat.le_refl _ | (dsimp only; omega) | (simp; done)) _ | refine bt ?_ (by assumption))))) HS0.out (by omega)).mono ?_
  rintro _ w70 ⟨v70_0, rfl, ho70_0, hb70⟩
  have hs70 : Below w65.heap.size w65 w70 := by (repeat (with_reducible first | exact Below.refl _ _ | assumption | refine ba ?_ _ | refine bd ?_ | refine bdN ?_ _ | refine bs ?_ (by first | exact Nat.le_refl _ | (dsimp only; omega) | (simp; done)) _ | refine bt ?_ (by assumption)))
  have Bw70 := Lib.hid (bt Bw65.out hs70)
  have BW70 := Lib.hid (bt BW65.out hs70)
  have X71 := Lib.hid (X66.out.below hs70)
  have X72 := Lib.hid (X67.out.below hs70)
  have X73 := Lib.hid (X68.out.below hs70)
  have J74 := Lib.hid (I65.out.below hs70)
  have Q74 := Lib.hid (owns_below O65.out hs70)
  have N75 := Lib.hid (N69.out.below hs70)
  clear Bw65 BW65 X66 X67 X68 I65 O65 N69
  have Hz70 := Lib.hid (show w65.heap.size ≤ w70.heap.size by have h := hb70.size; first | omega | (simp at h; omega))
  try rw [← HG0.out]
  try rw [← HG0.out] at ho70_0
  obtain ⟨a70_0, c70_0, rfl⟩ := owns_shape ho70_0
  have I70_0 := Lib.hid (show StmsIn w70 (fun _ => True) (.slice a70_0 g0.body.length c70_0) g0.body from StmsIn.of_owns ho70_0 (fun _ _ => trivial))
  have O70_0 := Lib.hid ho70_0
  clear ho70_0
  have k76_0 : w70.cell? ⟨w6.heap.size, 0, none⟩ = some (.int .i64 g0.root) := (X72.out).2 0
  have k76_1 : w70.cell? ⟨w6.heap.size, 1, none⟩ = some (.string (mk g0.module)) := (X72.out).2 1
  have k76_2 : w70.cell? ⟨w6.heap.size, 2, none⟩ = some (.bool g0.init) := (X72.out).2 2
  have k76_3 : w70.cell? ⟨w6.heap.size, 3, none⟩ = some (.int .i64 g0.mode) := (X72.out).2 3
  have k76_4 : w70.cell? ⟨w6.heap.size, 4, none⟩ = some (.int .i64 g0.stamp) := (X72.out).2 4
  have k76_5 : w70.cell? ⟨w6.heap.size, 5, none⟩ = some (.int .i64 g0.size) := (X72.out).2 5
  have k76_6 : w70.cell? ⟨w6.heap.size, 6, none⟩ = some (.int .i64 g0.hash) := (X72.out).2 6
  have k76_7 : w70.cell? ⟨w6.heap.size, 7, none⟩ = some (.slice a6_0 g0.body.length c6_0) := (X72.out).2 7
  have kl76 := (X72.out).1
  go_wp2_with fail
  refine (laws_eqCompiled _ _ _ _ _ _ _ _ g0.body _ _ _ _ _ _ _ _ g0.body (fun _ => True) (fun _ => True) _ (I70_0.out.below (by (repeat (with_reducible first | exact Below.refl _ _ | assumption | refine ba ?_ _ | refine bd ?_ | refine bdN ?_ _ | refine bs ?_ (by first | exact Nat.le_refl _ | (dsimp only; omega) | (simp; done)) _ | refine bt ?_ (by assumption))))) (IW0.out.below (bt BW70.out (by (repeat (with_reducible first | exact Below.refl _ _ | assumption | refine ba ?_ _ | refine bd ?_ | refine bdN ?_ _ | refine bs ?_ (by first | exact Nat.le_refl _ | (dsimp only; omega) | (simp; done)) _ | refine bt ?_ (by assumption))))))).mono ?_
  rintro _ w77 ⟨rfl, hb77⟩
  clear k76_0 k76_1 k76_2 k76_3 k76_4 k76_5 k76_6 k76_7 kl76
  have hs77 : Below w70.heap.size w70 w77 := by (repeat (with_reducible first | exact Below.refl _ _ | assumption | refine ba ?_ _ | refine bd ?_ | refine bdN ?_ _ | refine bs ?_ (by first | exact Nat.le_refl _ | (dsimp only; omega) | (simp; done)) _ | refine bt ?_ (by assumption)))
  have Bw77 := Lib.hid (bt Bw70.out hs77)
  have BW77 := Lib.hid (bt BW70.out hs77)
  have X78 := Lib.hid (X71.out.below hs77)
  have X79 := Lib.hid (X72.out.below hs77)
  have X80 := Lib.hid (show BoxC w77 (w70.heap.size) #[.int .i64 g0.root, .string (mk g0.module), .bool g0.init, .int .i64 g0.mode, .int .i64 g0.stamp, .int .i64 g0.size, .int .i64 g0.hash, .slice a70_0 g0.body.length c70_0] from ((BoxC.start w70 #[.int .i64 g0.root, .string (mk g0.module), .bool g0.init, .int .i64 g0.mode, .int .i64 g0.stamp, .int .i64 g0.size, .int .i64 g0.hash, .slice a70_0 g0.body.length c70_0] 28).below hb77).at (by simp))
  have X81 := Lib.hid (X73.out.below hs77)
  have J82 := Lib.hid (I70_0.out.below hs77)
  have N83 := Lib.hid (N75.out.below hs77)
  clear Bw70 BW70 X71 X72 X73 I70_0 N75
  rw [Hsg0.out]
  have k84_0 : w77.cell? ⟨w13.heap.size, 0, none⟩ = some (.int .i64 g0.root) := (X81.out).2 0
  have k84_1 : w77.cell? ⟨w13.heap.size, 1, none⟩ = some (.string (mk g0.module)) := (X81.out).2 1
  have k84_2 : w77.cell? ⟨w13.heap.size, 2, none⟩ = some (.bool g0.init) := (X81.out).2 2
  have k84_3 : w77.cell? ⟨w13.heap.size, 3, none⟩ = some (.int .i64 g0.mode) := (X81.out).2 3
  have k84_4 : w77.cell? ⟨w13.heap.size, 4, none⟩ = some (.int .i64 g0.stamp) := (X81.out).2 4
  have k84_5 : w77.cell? ⟨w13.heap.size, 5, none⟩ = some (.int .i64 g0.size) := (X81.out).2 5
  have k84_6 : w77.cell? ⟨w13.heap.size, 6, none⟩ = some (.int .i64 g0.hash) := (X81.out).2 6
  have k84_7 : w77.cell? ⟨w13.heap.size, 7, none⟩ = some (.slice a13_0 g0.body.length c13_0) := (X81.out).2 7
  have kl84 := (X81.out).1
  go_wp2_with fail
  refine (laws_heldCompiled _ _ _ _ _ _ _ _ (fun _ => True) g0.body.length 1 _ (N83.out.below (by (repeat (with_reducible first | exact Below.refl _ _ | assumption | refine ba ?_ _ | refine bd ?_ | refine bdN ?_ _ | refine bs ?_ (by first | exact Nat.le_refl _ | (dsimp only; omega) | (simp; done)) _ | refine bt ?_ (by assumption))))) (by omega) (by omega)).mono ?_
  rintro _ w85 ⟨rfl, hb85⟩
  clear k84_0 k84_1 k84_2 k84_3 k84_4 k84_5 k84_6 k84_7 kl84
  have hs85 : Below w77.heap.size w77 w85 := by (repeat (with_reducible first | exact Below.refl _ _ | assumption | refine ba ?_ _ | refine bd ?_ | refine bdN ?_ _ | refine bs ?_ (by first | exact Nat.le_refl _ | (dsimp only; omega) | (simp; done)) _ | refine bt ?_ (by assumption)))
  have Bw85 := Lib.hid (bt Bw77.out hs85)
  have BW85 := Lib.hid (bt BW77.out hs85)
  have X86 := Lib.hid (X78.out.below hs85)
  have X87 := Lib.hid (X79.out.below hs85)
  have X88 := Lib.hid (X80.out.below hs85)
  have X89 := Lib.hid (X81.out.below hs85)
  have J90 := Lib.hid (J82.out.below hs85)
  have N91 := Lib.hid (N83.out.below hs85)
  clear Bw77 BW77 X78 X79 X80 X81 J82 N83
  rw [← HK57.out]
  have hk0 : ¬ ((K57 : Nat) : Int) < 0 := Int.not_lt.2 (Int.natCast_nonneg _)
  go_wp2_with fail
  go_ret
  exact ⟨rfl, Bw85.out⟩

/-! ### THE STEP TO THE ROW -/
set_option maxRecDepth 100000 in
theorem lifted (os : Os) (started : os.Started) (H : Type) (enc : TypeId × Value → H) :
    ReturnsInHanded {} Try.checked os 3 .any (Rows.fnExactCompileFileSpec.pre6 enc Try.prog Try.f3 Rows.fnExactCompileFileRow.domain false) (Rows.fnExactCompileFileSpec.post enc Try.prog Try.f3 false true false false) := by
  refine returnsInHanded_of_change (C := Try.checked) own started (by kernel_rfl) Try.func3
    (ChangeSpec.witness6 (enc := enc) (C := Try.checked) false ⟨#[], #[.agg #[.int .i64 0, .string ByteArray.empty, .string ByteArray.empty, .bool false, .int .i64 0, .slice none 0 0], .int .i64 0], []⟩ 8 (by kernel_rfl) (by kernel_rfl) (by kernel_rfl) (by kernel_rfl)) ?_
  intro W base args ds gs before hval0 hW hcnd _
  have hval : ∀ (j : Nat) t v, Try.f3.params[j]? = some t → args[j]? = some v → Value.okWide Try.prog W .any base t v := hval0
  have hW' := hW
  obtain ⟨p, q, hA0, hV, rfl, hfz, hnd⟩ := hW
  have hA : DataW.TrodAll enc Try.prog W 0 (fun _ => true) true Try.f3.params.toList args.toList ds p := hA0
  rw [Try.params3] at hA hval
  obtain ⟨v0, vs0, d0, ds0, p0, q0, hargs, rfl, rfl, h0, r0⟩ := trodAll_cons hA
  obtain ⟨v1, vs1, d1, ds1, p1, q1, rfl, rfl, rfl, h1, r1⟩ := trodAll_cons r0
  obtain ⟨rfl, rfl, rfl⟩ := trodAll_nil r1
  obtain rfl : args = #[v0, v1] := by cases args; simp_all
  obtain ⟨rfl, rfl⟩ := trodVars_none hV
  obtain ⟨cs0, rfl, _⟩ := okWide_struct Try.underlying24 (hval 0 24 v0 rfl rfl)
  have k0 := h0
  have lt0 : ∀ x ∈ p0, x.block < W.heap.size := by obtain ⟨m, hm⟩ := k0; exact DataW.trod_lt m _ _ _ hm
  obtain ⟨f0, bv0, et0, w0⟩ : ∃ f bv, cs0 = (filOf f bv).toArray ∧ StmsIn W (fun _ => True) bv f.body ∧ ShortF maxLen f := by
    obtain ⟨fuel, hf⟩ := h0
    obtain ⟨f, bv, e0, e1, e2⟩ := read_fil hf
    exact ⟨f, bv, by rw [← Array.toList_inj]; simpa [Value.cells] using e0, e1, e2⟩
  subst et0
  obtain ⟨n1, rfl, rfl, rfl, w1⟩ := open_int Try.underlying3 (hval 1 3 v1 rfl rfl) h1
  clear hA0 hval0
  refine (walk f0 bv0 n1 W w0 w1).mono fun e W' ⟨he, bel⟩ => ?_
  subst he
  exact ⟨_, rfl, _, _, _, [], _, [], hW', trodAll_mk1 (shut_bool Try.underlying4 _), (trodAll_cons_mk (Below.trod laidOut (by kernel_rfl) (of_decide_eq_true (by kernel_rfl)) k0 bel lt0) (trodAll_cons_mk (shut_int Try.underlying3 w1) trodAll_mk0)), rfl, bel.frame _, fun h => by cases h⟩

theorem over : Rows.fnExactCompileFileRow.holds Try.pinned (OpenSpec.ofChange Rows.fnExactCompileFileSpec) :=
  OpenClaim.holds_of_wide 3 Try.f3 rfl rfl rfl rfl rfl rfl rfl ⟨rfl, rfl, rfl, rfl, rfl⟩ rfl rfl rfl rfl rfl (by kernel_rfl) Try.func3 (by kernel_rfl)
    (of_decide_eq_true (by kernel_rfl)) (by unfold Func.isWrapper; first | (rw [if_pos (by decide +kernel)]; kernel_rfl) | (rw [if_neg (by decide +kernel)]; exact ⟨rfl, rfl⟩))
    (fun os started H enc _ => lifted os started H enc)

/-- THE STATEMENT -/
theorem proved : Rows.FnExactCompileFileSaid := over
end Go.Proofs.Ytebfafefeajemaa.FnExactCompileFile
