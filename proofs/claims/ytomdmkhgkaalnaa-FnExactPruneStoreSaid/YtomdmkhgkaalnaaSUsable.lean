/- Contracts of the model's functions that say whether what is compiled can be used for a file. -/
import Derived.Test.YtomdmkhgkaalnaaUsable
set_option linter.unusedVariables false
set_option linter.unusedSimpArgs false
namespace Go.Proofs.Ytomdmkhgkaalnaa
open Go.RowKit Go.Proofs.Ytomdmkhgkaalnaa.Nm
open Go.Sort (grow)

set_option maxRecDepth 100000 in
set_option maxHeartbeats 4000000 in
theorem spec_usable (x0 : Int) (x1 : Bs) (x2 : Bool) (x3 x4 x5 x6 : Int) (cv : Value) (cb : List Stm) (r st : Int) (p n : Bs) (i : Bool) (bv : Value) (body : List Stm) (D : Nat → Prop) (w : World)
    (hf : StmsIn w D bv body) (hz : Short 8000000 body) (hok : okBody body = true) :
    Calls Try.prog 95 #[.agg #[.int .i64 x0, .string (mk x1), .bool x2, .int .i64 x3, .int .i64 x4, .int .i64 x5, .int .i64 x6, cv], .agg #[.int .i64 r, .string (mk p), .string (mk n), .bool i, .int .i64 st, bv]] w
      fun e w' => e = .returned (.bool (usable ⟨x0, x1, x2, x3, x4, x5, x6, cb⟩ ⟨r, p, n, i, st, body⟩)) ∧ Below w.heap.size w w' := by
  have HS := Lib.hid hf
  have HZ := Lib.hid hz
  have Hok := Lib.hid hok
  obtain ⟨ab, cbp, rfl, _, _⟩ := hf.len
  clear hf hz hok
  obtain ⟨W1, hW1⟩ : ∃ W1, W1 = (w.alloc (.cells #[.int .i64 x0, .string (mk x1), .bool x2, .int .i64 x3, .int .i64 x4, .int .i64 x5, .int .i64 x6, cv] 53)).alloc (.cells #[.int .i64 r, .string (mk p), .string (mk n), .bool i, .int .i64 st, .slice ab body.length cbp] 55) := ⟨_, rfl⟩
  have Hb := Lib.hid (show Below w.heap.size w W1 by rw [hW1]; (repeat (with_reducible first | exact Below.refl _ _ | assumption | refine ba ?_ _ | refine bd ?_ | refine bdN ?_ _ | refine bs ?_ (by first | exact Nat.le_refl _ | (dsimp only; omega) | (simp; done)) _ | refine bt ?_ (by assumption))))
  have X0 := Lib.hid (show BoxC W1 w.heap.size #[.int .i64 x0, .string (mk x1), .bool x2, .int .i64 x3, .int .i64 x4, .int .i64 x5, .int .i64 x6, cv] by rw [hW1]; exact (BoxC.start w _ _).below (by (repeat (with_reducible first | exact Below.refl _ _ | assumption | refine ba ?_ _ | refine bd ?_ | refine bdN ?_ _ | refine bs ?_ (by first | exact Nat.le_refl _ | (dsimp only; omega) | (simp; done)) _ | refine bt ?_ (by assumption)))))
  have X1 := Lib.hid (show BoxC W1 (w.heap.size + 1) #[.int .i64 r, .string (mk p), .string (mk n), .bool i, .int .i64 st, .slice ab body.length cbp] by rw [hW1]; exact (BoxC.start (w.alloc (.cells #[.int .i64 x0, .string (mk x1), .bool x2, .int .i64 x3, .int .i64 x4, .int .i64 x5, .int .i64 x6, cv] 53)) _ _).at (by simp))
  have HWe := Lib.hid hW1
  clear hW1
  have k3 := cell_regrown (show W1.cell? ⟨w.heap.size, 3, none⟩ = some (.int .i64 x3) from X0.out.2 3)
  have k4 := cell_regrown (show W1.cell? ⟨w.heap.size, 4, none⟩ = some (.int .i64 x4) from X0.out.2 4)
  have k5 := cell_regrown (show W1.cell? ⟨w.heap.size, 5, none⟩ = some (.int .i64 x5) from X0.out.2 5)
  have k6 := cell_regrown (show W1.cell? ⟨w.heap.size, 6, none⟩ = some (.int .i64 x6) from X0.out.2 6)
  have j4 := cell_regrown (show W1.cell? ⟨w.heap.size + 1, 4, none⟩ = some (.int .i64 st) from X1.out.2 4)
  have j5 := cell_regrown (show W1.cell? ⟨w.heap.size + 1, 5, none⟩ = some (.slice ab body.length cbp) from X1.out.2 5)
  have m3 : W1.cell? ⟨w.heap.size, 3, none⟩ = some (.int .i64 x3) := X0.out.2 3
  have cZ : ∀ d os, Calls Try.prog 116 #[.slice ab body.length cbp] (grow (redrawn W1 d) os) fun e w'' => e = .returned (.int .i64 (sizeSum body : Nat)) ∧ ∃ p : Regrown, w'' = grow (redrawn W1 p.d) p.os := fun d os =>
    Calls.regrown_of (spec_sizeOf _ body D _ (HS.out.below (bt Hb.out (below_regrown W1 d os))) HZ.out Hok.out)
  have cH : ∀ d os, Calls Try.prog 117 #[.slice ab body.length cbp] (grow (redrawn W1 d) os) fun e w'' => e = .returned (.int .i64 (hashOf body)) ∧ ∃ p : Regrown, w'' = grow (redrawn W1 p.d) p.os := fun d os =>
    Calls.regrown_of (spec_hashOf _ body D _ (HS.out.below (bt Hb.out (below_regrown W1 d os))) HZ.out Hok.out)
  by_cases h0 : x3 = 0
  · subst h0
    have Hv := Lib.hid (show usable ⟨x0, x1, x2, 0, x4, x5, x6, cb⟩ ⟨r, p, n, i, st, body⟩ = (decide (x4 = st) && decide (x5 = (sizeSum body : Nat))) from rfl)
    by_cases h1 : x4 = st
    · by_cases h2 : x5 = (sizeSum body : Nat)
      · have Hv2 := Lib.hid (show (decide (x4 = st) && decide (x5 = (sizeSum body : Nat))) = true by simp [h1, h2])
        have h1b : (x4 == st) = true := by simp [h1]
        have h2b : (x5 == (sizeSum body : Nat)) = true := by simp [h2]
        clear h1 h2
        generalize ((sizeSum body : Nat) : Int) = sz at *
        go_enter Try.func95, Try.ntmps95
        go_upto_region 1 with fail
        rw [← HWe.out]
        go_wp2_with fail
        refine wp_region_quiet_below (by kernel_rfl) (by kernel_rfl) ?_
        repeat (go_big_quiet_step (exact cZ _ _))
        refine wpQuiet_nil ?_
        intro _ hw'
        obtain ⟨⟨dq, osq⟩, hw2⟩ := hw'
        subst hw2
        have Hb7 := Lib.hid (bt Hb.out (below_regrown W1 dq osq))
        clear cZ cH k3 k4 k5 k6 j4 j5 m3
        go_wp2_with fail
        go_ret
        rw [Hv.out, Hv2.out]
        exact ⟨rfl, Hb7.out⟩
      · have Hv2 := Lib.hid (show (decide (x4 = st) && decide (x5 = (sizeSum body : Nat))) = false by simp [h2])
        have h1b : (x4 == st) = true := by simp [h1]
        have h2b : (x5 == (sizeSum body : Nat)) = false := by simp [h2]
        have h2c := eq_false h2
        clear h1 h2
        generalize ((sizeSum body : Nat) : Int) = sz at *
        go_enter Try.func95, Try.ntmps95
        go_upto_region 1 with fail
        rw [← HWe.out]
        go_wp2_with fail
        refine wp_region_quiet_below (by kernel_rfl) (by kernel_rfl) ?_
        repeat (go_big_quiet_step (exact cZ _ _))
        refine wpQuiet_nil ?_
        intro _ hw'
        obtain ⟨⟨dq, osq⟩, hw2⟩ := hw'
        subst hw2
        have Hb7 := Lib.hid (bt Hb.out (below_regrown W1 dq osq))
        clear cZ cH k3 k4 k5 k6 j4 j5 m3
        go_wp2_with fail
        go_ret
        rw [Hv.out, Hv2.out]
        exact ⟨rfl, Hb7.out⟩
    · have Hv2 := Lib.hid (show (decide (x4 = st) && decide (x5 = (sizeSum body : Nat))) = false by simp [h1])
      have h1b : (x4 == st) = false := by simp [h1]
      have h1c := eq_false h1
      clear h1
      go_enter Try.func95, Try.ntmps95
      go_upto_region 1 with fail
      rw [← HWe.out]
      go_wp2_with fail
      refine wp_region_quiet_below (by kernel_rfl) (by kernel_rfl) ?_
      repeat (go_big_quiet_step (exact cZ _ _))
      refine wpQuiet_nil ?_
      intro _ hw'
      obtain ⟨⟨dq, osq⟩, hw2⟩ := hw'
      subst hw2
      have Hb7 := Lib.hid (bt Hb.out (below_regrown W1 dq osq))
      clear cZ cH k3 k4 k5 k6 j4 j5 m3
      go_wp2_with fail
      go_ret
      rw [Hv.out, Hv2.out]
      exact ⟨rfl, Hb7.out⟩
  by_cases h1 : x3 = 1
  · subst h1
    clear h0
    have Hv := Lib.hid (show usable ⟨x0, x1, x2, 1, x4, x5, x6, cb⟩ ⟨r, p, n, i, st, body⟩ = decide (x6 = hashOf body) from rfl)
    obtain ⟨hh, ehh⟩ : ∃ h, h = hashOf body := ⟨_, rfl⟩
    rw [← ehh] at cH Hv
    clear ehh
    go_enter Try.func95, Try.ntmps95
    go_upto_region 1 with fail
    rw [← HWe.out]
    go_wp2_with fail
    refine wp_region_quiet_below (by kernel_rfl) (by kernel_rfl) ?_
    repeat (go_big_quiet_step (exact cH _ _))
    refine wpQuiet_nil ?_
    intro _ hw'
    obtain ⟨⟨dq, osq⟩, hw2⟩ := hw'
    subst hw2
    have Hb7 := Lib.hid (bt Hb.out (below_regrown W1 dq osq))
    clear cZ cH k3 k4 k5 k6 j4 j5 m3
    go_wp2_with fail
    go_ret
    rw [Hv.out]
    exact ⟨ret_bool (by first | rfl | simp [beq_dec]), Hb7.out⟩
  have Hv := Lib.hid (show usable ⟨x0, x1, x2, x3, x4, x5, x6, cb⟩ ⟨r, p, n, i, st, body⟩ = true by unfold usable; dsimp only; rw [if_neg h0, if_neg h1])
  have h0b : (x3 == 0) = false := by simp [h0]
  have h1b : (x3 == 1) = false := by simp [h1]
  go_enter Try.func95, Try.ntmps95
  go_upto_region 1 with fail
  rw [← HWe.out]
  go_wp2_with fail
  go_ret
  rw [Hv.out]
  exact ⟨rfl, Hb.out⟩
end Go.Proofs.Ytomdmkhgkaalnaa
