/- FnSizeOf returns true for every code. -/
import Derived.Test.YtkecjifejbhdpaaDrawX
import Derived.Test.YtkecjifejbhdpaaSizes
import Derived.Test.YtkecjifejbhdpaaFrame
import Derived.Lib.QuietBelow
import Derived.BigQuiet
set_option linter.unusedVariables false
set_option linter.unusedSimpArgs false
namespace Go.Proofs.Ytkecjifejbhdpaa.Nm
open Go.RowKit
theorem size_eqS {b : List Stm} (h : okBody b = true) : bodySize b = ((sizeSum b : Nat) : Int) := by unfold bodySize; rw [if_pos h]
theorem sizeSum_app (a b : List Stm) : sizeSum (a ++ b) = sizeSum a + sizeSum b := by simp [sizeSum]
theorem sizeSum_ge (b : List Stm) : 3 * b.length ≤ sizeSum b := by
  induction b with
  | nil => simp [sizeSum]
  | cons x r ih =>
    have e : sizeSum (x :: r) = stmSize x + sizeSum r := by simp [sizeSum]
    have h : 3 ≤ stmSize x := by unfold stmSize; omega
    rw [e, List.length_cons]; omega
theorem okBody_take {b : List Stm} (h : okBody b = true) (k : Nat) : okBody (b.take k) = true := by
  unfold okBody at h ⊢
  simp only [Bool.and_eq_true, List.all_eq_true, decide_eq_true_eq] at h ⊢
  exact ⟨fun s hs => h.1 s (List.mem_of_mem_take hs), by rw [List.length_take]; omega⟩
theorem okBody_drop {b : List Stm} (h : okBody b = true) (k : Nat) : okBody (b.drop k) = true := by
  unfold okBody at h ⊢
  simp only [Bool.and_eq_true, List.all_eq_true, decide_eq_true_eq] at h ⊢
  exact ⟨fun s hs => h.1 s (List.mem_of_mem_drop hs), by rw [List.length_drop]; omega⟩
/-- The front and the rest of a body. -/
theorem StmsIn.front {w : World} {D : Nat → Prop} {g n cap : Nat} {ss : List Stm} (h : StmsIn w D (.slice (some ⟨g, 0, none⟩) n cap) ss) (k : Nat) (hk : k ≤ ss.length) : StmsIn w D (.slice (some ⟨g, 0, none⟩) k cap) (ss.take k) := by
  obtain ⟨a', cap', h1, h2, h3, h4⟩ := h
  simp only [Value.slice.injEq] at h1
  obtain ⟨rfl, _, rfl⟩ := h1
  have hl : (ss.take k).length = k := by rw [List.length_take]; omega
  refine ⟨_, cap, by rw [hl], by omega, h3, fun hx => ?_⟩
  obtain ⟨b, off, e1, e2, e3, e4⟩ := h4 (by omega)
  refine ⟨b, off, e1, e2, e3, fun i hi => ?_⟩
  rw [hl] at hi
  have := e4 i (by omega)
  simpa only [List.getElem_take] using this
theorem StmsIn.rest {w : World} {D : Nat → Prop} {g n cap : Nat} {ss : List Stm} (h : StmsIn w D (.slice (some ⟨g, 0, none⟩) n cap) ss) (k : Nat) (hk : k ≤ ss.length) : StmsIn w D (.slice (some ⟨g, k * 5, none⟩) (ss.length - k) (cap - k)) (ss.drop k) := by
  obtain ⟨a', cap', h1, h2, h3, h4⟩ := h
  simp only [Value.slice.injEq] at h1
  obtain ⟨rfl, _, rfl⟩ := h1
  have hl : (ss.drop k).length = ss.length - k := by rw [List.length_drop]
  refine ⟨_, cap - k, by rw [hl], by omega, by omega, fun hx => ?_⟩
  obtain ⟨b, off, e1, e2, e3, e4⟩ := h4 (by omega)
  simp only [Option.some.injEq, Addr.mk.injEq, and_true] at e1
  obtain ⟨rfl, rfl⟩ := e1
  refine ⟨g, k * 5, rfl, e2, e3, fun i hi => ?_⟩
  rw [hl] at hi
  have := e4 (k + i) (by omega)
  have e : k * 5 + i * 5 = 0 + (k + i) * 5 := by omega
  simp only [List.getElem_drop, e]
  exact this
end Go.Proofs.Ytkecjifejbhdpaa.Nm
namespace Go.Proofs.Ytkecjifejbhdpaa.FnSizeOf
open Go.Sort Go.ChangeShapes Go.WideShapes Go.ChangeAt Go.RowKit Go.Proofs.Ytkecjifejbhdpaa.Nm

set_option maxRecDepth 100000 in
set_option maxHeartbeats 2000000 in
theorem walk (a : Option Addr) (n cap : Nat) (w : World) (hc : Code w w.heap.size a n cap) :
    Calls Try.prog 3 #[.slice a n cap] w fun e w' => e = .returned (.bool true) ∧ Below w.heap.size w w' := by
  by_cases hn : (1048576 : Int) < (n : Int)
  · go_enter Try.func3, Try.ntmps3
    go_wp2_with fail
    go_ret
    exact ⟨rfl, Below.refl _ _⟩
  · have Hc := Lib.hid hc
    clear hc
    go_enter Try.func3, Try.ntmps3
    go_wp2_with fail
    refine (spec_DrawSizeOf a n cap w Hc.out).mono ?_
    rintro e w1 ⟨v, ss, rfl, hown, hsh, hl4, hb1⟩
    have Hs8 := Lib.hid (short_mono (B := 8000000) (by omega) hsh)
    have Hr := Lib.hid (show StmsIn w1 (fun _ => True) v ss from StmsIn.of_owns hown (fun _ _ => trivial))
    have Hb1 := Lib.hid hb1
    have Hshape := Lib.hid hown.2
    obtain ⟨aa, ca, rfl⟩ := owns_shape hown
    clear hown hsh hb1
    cases hok : okBody ss
    · have Hh := Lib.hid (show bodySize ss = -1 by unfold bodySize; rw [hok]; rfl)
      clear hok Hshape
      go_wp2_with fail
      refine (impl_SizeOf _ ss (fun _ => True) _ Hr.out Hs8.out).mono ?_
      rintro _ w2 ⟨rfl, hb2⟩
      rw [Hh.out]
      go_wp2_with fail
      refine (spec_SizeOf _ ss (fun _ => True) _ (Hr.out.below hb2) Hs8.out).mono ?_
      rintro _ w3 ⟨rfl, hb3⟩
      rw [Hh.out]
      have Hb3 := Lib.hid (bt hb2 hb3)
      clear hb2 hb3
      go_wp2_with fail
      refine (spec_SizeOf _ ss (fun _ => True) _ (Hr.out.below Hb3.out) Hs8.out).mono ?_
      rintro _ w4 ⟨rfl, hb4⟩
      rw [Hh.out]
      have Hb4 := Lib.hid (bt Hb1.out (bt Hb3.out hb4))
      clear hb4
      go_wp2_with fail
      go_ret
      exact ⟨rfl, Hb4.out⟩
    · have Hh := Lib.hid (show bodySize ss = ((sizeSum ss : Nat) : Int) by unfold bodySize; rw [if_pos hok])
      have Hok := Lib.hid hok
      have hz := size_take Hs8.out (by omega) ss.length (Nat.le_refl _)
      rw [List.take_length] at hz
      have Hge := Lib.hid (sizeSum_ge ss)
      clear hok
      obtain ⟨z, hz0⟩ : ∃ z, z = sizeSum ss := ⟨_, rfl⟩
      rw [← hz0] at Hh hz Hge
      have Hz0 := Lib.hid hz0
      clear hz0
      go_wp2_with fail
      refine (impl_SizeOf _ ss (fun _ => True) _ Hr.out Hs8.out).mono ?_
      rintro _ w2 ⟨rfl, hb2⟩
      rw [Hh.out]
      go_wp2_with fail
      refine (spec_SizeOf _ ss (fun _ => True) _ (Hr.out.below hb2) Hs8.out).mono ?_
      rintro _ w3 ⟨rfl, hb3⟩
      rw [Hh.out]
      have Hb3 := Lib.hid (bt hb2 hb3)
      have Hw3 := Lib.hid (bt Hb1.out Hb3.out)
      clear hb2 hb3
      rcases Hshape.out with ⟨hnil, hlen⟩ | ⟨g, cur0, cur, e1, _⟩
      · obtain rfl : ss = [] := List.eq_nil_of_length_eq_zero hlen
        simp only [List.length_nil, Value.slice.injEq] at hnil
        obtain ⟨rfl, _, rfl⟩ := hnil
        obtain rfl : z = 0 := Hz0.out
        have Hr3 := Lib.hid (Hr.out.below Hb3.out)
        have c0 : ∀ d os, Calls Try.prog 5 #[.slice none 0 0] (grow (redrawn w3 d) os) fun e w'' => e = .returned (.int .i64 0) ∧ ∃ p : Regrown, w'' = grow (redrawn w3 p.d) p.os := fun d os =>
          Calls.regrown_of (impl_SizeOf _ [] (fun _ => True) _ (Hr3.out.below (below_regrown w3 d os)) Hs8.out)
        clear Hshape
        go_wp2_with fail
        refine wp_region_quiet_below (by kernel_rfl) (by kernel_rfl) ?_
        repeat (go_big_quiet_step (exact c0 _ _))
        refine wpQuiet_nil ?_
        intro _ hw'
        obtain ⟨⟨dq, osq⟩, hw2⟩ := hw'
        subst hw2
        have Hb7 := Lib.hid (bt Hw3.out (below_regrown w3 dq osq))
        clear c0
        go_wp2_with fail
        go_ret
        exact ⟨rfl, Hb7.out⟩
      · simp only [Value.slice.injEq] at e1
        obtain ⟨rfl, _, rfl⟩ := e1
        have hcap : ss.length ≤ ca := by obtain ⟨a', c', h1, h2, _⟩ := Hr.out; simp only [Value.slice.injEq] at h1; omega
        have hcm : ca ≤ maxLen := by obtain ⟨a', c', h1, h2, h3, _⟩ := Hr.out; simp only [Value.slice.injEq] at h1; omega
        unfold maxLen at hcm
        have Hr3 := Lib.hid (Hr.out.below Hb3.out)
        clear Hshape Hr
        have hcase : ss.length = 0 ∨ ss.length = 1 ∨ ss.length = 2 ∨ ss.length = 3 ∨ ss.length = 4 := by omega
        rcases hcase with h | h | h | h | h
        · obtain rfl : ss = [] := List.eq_nil_of_length_eq_zero h
          obtain rfl : z = 0 := Hz0.out
          have c0 : ∀ d os, Calls Try.prog 5 #[.slice (some ⟨g, 0, none⟩) 0 ca] (grow (redrawn w3 d) os) fun e w'' => e = .returned (.int .i64 0) ∧ ∃ p : Regrown, w'' = grow (redrawn w3 p.d) p.os := fun d os =>
            Calls.regrown_of (impl_SizeOf _ [] (fun _ => True) _ ⟨_, ca, rfl, Nat.zero_le _, (by unfold maxLen; omega), fun hx => absurd hx (by simp)⟩ (fun s hs => by cases hs))
          simp only [List.length_nil]
          clear hcap h hl4
          rcases Nat.eq_zero_or_pos ca with rfl | hca
          all_goals
            go_wp2_with fail
            refine wp_region_quiet_below (by kernel_rfl) (by kernel_rfl) ?_
            repeat (go_big_quiet_step (with_reducible exact c0 _ _))
            refine wpQuiet_nil ?_
            intro _ hw'
            obtain ⟨⟨dq, osq⟩, hw2⟩ := hw'
            subst hw2
            have Hb7 := Lib.hid (bt Hw3.out (below_regrown w3 dq osq))
            clear c0
            go_wp2_with fail
            go_ret
            exact ⟨rfl, Hb7.out⟩
        · have hsum := Lib.hid (show ((sizeSum (ss.take 0) : Nat) : Int) + ((sizeSum (ss.drop 0) : Nat) : Int) = (z : Int) by
            have h1 := sizeSum_app (ss.take 0) (ss.drop 0)
            rw [List.take_append_drop] at h1
            have h2 := Hz0.out
            omega)
          have hge : (3 : Int) ≤ (z : Int) := by have := Hge.out; omega
          have HA := Lib.hid (Hr3.out.front 0 (by omega))
          have HB := Lib.hid (Hr3.out.rest 0 (by omega))
          have eA := size_eqS (okBody_take Hok.out 0)
          have eB := size_eqS (okBody_drop Hok.out 0)
          have HsA := Lib.hid (show Short 8000000 (ss.take 0) from fun s hs => Hs8.out s (List.mem_of_mem_take hs))
          have HsB := Lib.hid (show Short 8000000 (ss.drop 0) from fun s hs => Hs8.out s (List.mem_of_mem_drop hs))
          have cA : ∀ d os, Calls Try.prog 5 #[.slice (some ⟨g, 0, none⟩) 0 ca] (grow (redrawn w3 d) os) fun e w'' => e = .returned (.int .i64 ((sizeSum (ss.take 0) : Nat) : Int)) ∧ ∃ p : Regrown, w'' = grow (redrawn w3 p.d) p.os := fun d os =>
            Calls.regrown_of (by have h := impl_SizeOf _ (ss.take 0) (fun _ => True) (grow (redrawn w3 d) os) (HA.out.below (below_regrown w3 d os)) HsA.out; rw [eA] at h; exact h)
          have cB : ∀ d os, Calls Try.prog 5 #[.slice (some ⟨g, 0, none⟩) 1 ca] (grow (redrawn w3 d) os) fun e w'' => e = .returned (.int .i64 ((sizeSum (ss.drop 0) : Nat) : Int)) ∧ ∃ p : Regrown, w'' = grow (redrawn w3 p.d) p.os := fun d os =>
            Calls.regrown_of (by have h := impl_SizeOf _ (ss.drop 0) (fun _ => True) (grow (redrawn w3 d) os) (HB.out.below (below_regrown w3 d os)) HsB.out; rw [eB] at h; simpa [‹ss.length = 1›] using h)
          generalize sizeSum (ss.take 0) = za at *
          generalize sizeSum (ss.drop 0) = zb at *
          have hs := hsum.out
          have hza : za ≤ 128000024 := by omega
          have hzb : zb ≤ 128000024 := by omega
          clear eA eB
          rw [h]
          have hcap' : 1 ≤ ca := by omega
          clear hcap h hl4
          go_wp2_with fail
          refine wp_region_quiet_below (by kernel_rfl) (by kernel_rfl) ?_
          repeat (go_big_quiet_step (first | with_reducible exact cA _ _ | with_reducible exact cB _ _))
          refine wpQuiet_nil ?_
          intro _ hw'
          obtain ⟨⟨dq, osq⟩, hw2⟩ := hw'
          subst hw2
          have Hb7 := Lib.hid (bt Hw3.out (below_regrown w3 dq osq))
          clear cA cB
          go_wp2_with fail
          go_ret
          exact ⟨rfl, Hb7.out⟩
        · have hsum := Lib.hid (show ((sizeSum (ss.take 1) : Nat) : Int) + ((sizeSum (ss.drop 1) : Nat) : Int) = (z : Int) by
            have h1 := sizeSum_app (ss.take 1) (ss.drop 1)
            rw [List.take_append_drop] at h1
            have h2 := Hz0.out
            omega)
          have hge : (6 : Int) ≤ (z : Int) := by have := Hge.out; omega
          have HA := Lib.hid (Hr3.out.front 1 (by omega))
          have HB := Lib.hid (Hr3.out.rest 1 (by omega))
          have eA := size_eqS (okBody_take Hok.out 1)
          have eB := size_eqS (okBody_drop Hok.out 1)
          have HsA := Lib.hid (show Short 8000000 (ss.take 1) from fun s hs => Hs8.out s (List.mem_of_mem_take hs))
          have HsB := Lib.hid (show Short 8000000 (ss.drop 1) from fun s hs => Hs8.out s (List.mem_of_mem_drop hs))
          have cA : ∀ d os, Calls Try.prog 5 #[.slice (some ⟨g, 0, none⟩) 1 ca] (grow (redrawn w3 d) os) fun e w'' => e = .returned (.int .i64 ((sizeSum (ss.take 1) : Nat) : Int)) ∧ ∃ p : Regrown, w'' = grow (redrawn w3 p.d) p.os := fun d os =>
            Calls.regrown_of (by have h := impl_SizeOf _ (ss.take 1) (fun _ => True) (grow (redrawn w3 d) os) (HA.out.below (below_regrown w3 d os)) HsA.out; rw [eA] at h; exact h)
          have cB : ∀ d os, Calls Try.prog 5 #[.slice (some ⟨g, 5, none⟩) 1 (ca - 1)] (grow (redrawn w3 d) os) fun e w'' => e = .returned (.int .i64 ((sizeSum (ss.drop 1) : Nat) : Int)) ∧ ∃ p : Regrown, w'' = grow (redrawn w3 p.d) p.os := fun d os =>
            Calls.regrown_of (by have h := impl_SizeOf _ (ss.drop 1) (fun _ => True) (grow (redrawn w3 d) os) (HB.out.below (below_regrown w3 d os)) HsB.out; rw [eB] at h; simpa [‹ss.length = 2›] using h)
          generalize sizeSum (ss.take 1) = za at *
          generalize sizeSum (ss.drop 1) = zb at *
          have hs := hsum.out
          have hza : za ≤ 128000024 := by omega
          have hzb : zb ≤ 128000024 := by omega
          clear eA eB
          rw [h]
          have hcap' : 2 ≤ ca := by omega
          clear hcap h hl4
          go_wp2_with fail
          refine wp_region_quiet_below (by kernel_rfl) (by kernel_rfl) ?_
          repeat (go_big_quiet_step (first | with_reducible exact cA _ _ | with_reducible exact cB _ _))
          refine wpQuiet_nil ?_
          intro _ hw'
          obtain ⟨⟨dq, osq⟩, hw2⟩ := hw'
          subst hw2
          have Hb7 := Lib.hid (bt Hw3.out (below_regrown w3 dq osq))
          clear cA cB
          go_wp2_with fail
          go_ret
          exact ⟨rfl, Hb7.out⟩
        · have hsum := Lib.hid (show ((sizeSum (ss.take 1) : Nat) : Int) + ((sizeSum (ss.drop 1) : Nat) : Int) = (z : Int) by
            have h1 := sizeSum_app (ss.take 1) (ss.drop 1)
            rw [List.take_append_drop] at h1
            have h2 := Hz0.out
            omega)
          have hge : (9 : Int) ≤ (z : Int) := by have := Hge.out; omega
          have HA := Lib.hid (Hr3.out.front 1 (by omega))
          have HB := Lib.hid (Hr3.out.rest 1 (by omega))
          have eA := size_eqS (okBody_take Hok.out 1)
          have eB := size_eqS (okBody_drop Hok.out 1)
          have HsA := Lib.hid (show Short 8000000 (ss.take 1) from fun s hs => Hs8.out s (List.mem_of_mem_take hs))
          have HsB := Lib.hid (show Short 8000000 (ss.drop 1) from fun s hs => Hs8.out s (List.mem_of_mem_drop hs))
          have cA : ∀ d os, Calls Try.prog 5 #[.slice (some ⟨g, 0, none⟩) 1 ca] (grow (redrawn w3 d) os) fun e w'' => e = .returned (.int .i64 ((sizeSum (ss.take 1) : Nat) : Int)) ∧ ∃ p : Regrown, w'' = grow (redrawn w3 p.d) p.os := fun d os =>
            Calls.regrown_of (by have h := impl_SizeOf _ (ss.take 1) (fun _ => True) (grow (redrawn w3 d) os) (HA.out.below (below_regrown w3 d os)) HsA.out; rw [eA] at h; exact h)
          have cB : ∀ d os, Calls Try.prog 5 #[.slice (some ⟨g, 5, none⟩) 2 (ca - 1)] (grow (redrawn w3 d) os) fun e w'' => e = .returned (.int .i64 ((sizeSum (ss.drop 1) : Nat) : Int)) ∧ ∃ p : Regrown, w'' = grow (redrawn w3 p.d) p.os := fun d os =>
            Calls.regrown_of (by have h := impl_SizeOf _ (ss.drop 1) (fun _ => True) (grow (redrawn w3 d) os) (HB.out.below (below_regrown w3 d os)) HsB.out; rw [eB] at h; simpa [‹ss.length = 3›] using h)
          generalize sizeSum (ss.take 1) = za at *
          generalize sizeSum (ss.drop 1) = zb at *
          have hs := hsum.out
          have hza : za ≤ 128000024 := by omega
          have hzb : zb ≤ 128000024 := by omega
          clear eA eB
          rw [h]
          have hcap' : 3 ≤ ca := by omega
          clear hcap h hl4
          go_wp2_with fail
          refine wp_region_quiet_below (by kernel_rfl) (by kernel_rfl) ?_
          repeat (go_big_quiet_step (first | with_reducible exact cA _ _ | with_reducible exact cB _ _))
          refine wpQuiet_nil ?_
          intro _ hw'
          obtain ⟨⟨dq, osq⟩, hw2⟩ := hw'
          subst hw2
          have Hb7 := Lib.hid (bt Hw3.out (below_regrown w3 dq osq))
          clear cA cB
          go_wp2_with fail
          go_ret
          exact ⟨rfl, Hb7.out⟩
        · have hsum := Lib.hid (show ((sizeSum (ss.take 2) : Nat) : Int) + ((sizeSum (ss.drop 2) : Nat) : Int) = (z : Int) by
            have h1 := sizeSum_app (ss.take 2) (ss.drop 2)
            rw [List.take_append_drop] at h1
            have h2 := Hz0.out
            omega)
          have hge : (12 : Int) ≤ (z : Int) := by have := Hge.out; omega
          have HA := Lib.hid (Hr3.out.front 2 (by omega))
          have HB := Lib.hid (Hr3.out.rest 2 (by omega))
          have eA := size_eqS (okBody_take Hok.out 2)
          have eB := size_eqS (okBody_drop Hok.out 2)
          have HsA := Lib.hid (show Short 8000000 (ss.take 2) from fun s hs => Hs8.out s (List.mem_of_mem_take hs))
          have HsB := Lib.hid (show Short 8000000 (ss.drop 2) from fun s hs => Hs8.out s (List.mem_of_mem_drop hs))
          have cA : ∀ d os, Calls Try.prog 5 #[.slice (some ⟨g, 0, none⟩) 2 ca] (grow (redrawn w3 d) os) fun e w'' => e = .returned (.int .i64 ((sizeSum (ss.take 2) : Nat) : Int)) ∧ ∃ p : Regrown, w'' = grow (redrawn w3 p.d) p.os := fun d os =>
            Calls.regrown_of (by have h := impl_SizeOf _ (ss.take 2) (fun _ => True) (grow (redrawn w3 d) os) (HA.out.below (below_regrown w3 d os)) HsA.out; rw [eA] at h; exact h)
          have cB : ∀ d os, Calls Try.prog 5 #[.slice (some ⟨g, 10, none⟩) 2 (ca - 2)] (grow (redrawn w3 d) os) fun e w'' => e = .returned (.int .i64 ((sizeSum (ss.drop 2) : Nat) : Int)) ∧ ∃ p : Regrown, w'' = grow (redrawn w3 p.d) p.os := fun d os =>
            Calls.regrown_of (by have h := impl_SizeOf _ (ss.drop 2) (fun _ => True) (grow (redrawn w3 d) os) (HB.out.below (below_regrown w3 d os)) HsB.out; rw [eB] at h; simpa [‹ss.length = 4›] using h)
          generalize sizeSum (ss.take 2) = za at *
          generalize sizeSum (ss.drop 2) = zb at *
          have hs := hsum.out
          have hza : za ≤ 128000024 := by omega
          have hzb : zb ≤ 128000024 := by omega
          clear eA eB
          rw [h]
          have hcap' : 4 ≤ ca := by omega
          clear hcap h hl4
          go_wp2_with fail
          refine wp_region_quiet_below (by kernel_rfl) (by kernel_rfl) ?_
          repeat (go_big_quiet_step (first | with_reducible exact cA _ _ | with_reducible exact cB _ _))
          refine wpQuiet_nil ?_
          intro _ hw'
          obtain ⟨⟨dq, osq⟩, hw2⟩ := hw'
          subst hw2
          have Hb7 := Lib.hid (bt Hw3.out (below_regrown w3 dq osq))
          clear cA cB
          go_wp2_with fail
          go_ret
          exact ⟨rfl, Hb7.out⟩

/-! ### THE STEP TO THE ROW -/
set_option maxRecDepth 100000 in
theorem lifted (os : Os) (started : os.Started) (H : Type) (enc : TypeId × Value → H) :
    ReturnsInHanded {} Try.checked os 3 .any (Rows.fnSizeOfSpec.pre6 enc Try.prog Try.f3 Rows.fnSizeOfRow.domain false) (Rows.fnSizeOfSpec.post enc Try.prog Try.f3 false true false false) := by
  refine returnsInHanded_of_change (C := Try.checked) own started (by kernel_rfl) Try.func3
    (ChangeSpec.witness6 (enc := enc) (C := Try.checked) false ⟨#[], #[.slice none 0 0], []⟩ 8 (by kernel_rfl) (by kernel_rfl) (by kernel_rfl) (by kernel_rfl)) ?_
  intro W base args ds gs before hval0 hW hcnd _
  have hval : ∀ (j : Nat) t v, Try.f3.params[j]? = some t → args[j]? = some v → Value.okWide Try.prog W .any base t v := hval0
  have hW' := hW
  obtain ⟨p, q, hA0, hV, rfl, hfz, hnd⟩ := hW
  have hA : DataW.TrodAll enc Try.prog W 0 (fun _ => true) true Try.f3.params.toList args.toList ds p := hA0
  rw [Try.params3] at hA hval
  obtain ⟨v0, vs0, d0, ds0, p0, q0, hargs, rfl, rfl, h0, r0⟩ := trodAll_cons hA
  obtain ⟨rfl, rfl, rfl⟩ := trodAll_nil r0
  obtain rfl : args = #[v0] := by cases args; simp_all
  obtain ⟨rfl, rfl⟩ := trodVars_none hV
  obtain ⟨a0, len0, cap0, rfl⟩ := okWide_slice Try.underlying22 (hval 0 22 v0 rfl rfl)
  have k0 := h0
  have lt0 : ∀ x ∈ p0, x.block < W.heap.size := by obtain ⟨m, hm⟩ := k0; exact DataW.trod_lt m _ _ _ hm
  have w0 : Code W W.heap.size a0 len0 cap0 := by
    obtain ⟨fuel, hf⟩ := h0
    rcases open_ints Try.underlying22 Try.underlying5 (by kernel_rfl) hf with ⟨hcs, _⟩ | ⟨x, l, c, zs, hcs, _, hl, hm, hz, _, hcell, hwz⟩
    · simp [Value.cells] at hcs
      obtain ⟨rfl, rfl, rfl⟩ := hcs
      exact .inl ⟨rfl, by unfold maxLen; omega⟩
    · simp [Value.cells] at hcs
      obtain ⟨rfl, rfl, rfl⟩ := hcs
      exact code_row W _ _ _ zs hl hm (by simpa using hz) hcell hwz
  clear hA0 hval0
  refine (walk a0 len0 cap0 W w0).mono fun e W' ⟨he, bel⟩ => ?_
  subst he
  exact ⟨_, rfl, _, _, _, [], _, [], hW', trodAll_mk1 (shut_bool Try.underlying4 _), (trodAll_cons_mk (Below.trod laidOut (by kernel_rfl) (of_decide_eq_true (by kernel_rfl)) k0 bel lt0) trodAll_mk0), rfl, bel.frame _, fun h => by cases h⟩

theorem over : Rows.fnSizeOfRow.holds Try.pinned (OpenSpec.ofChange Rows.fnSizeOfSpec) :=
  OpenClaim.holds_of_wide 3 Try.f3 rfl rfl rfl rfl rfl rfl rfl ⟨rfl, rfl, rfl, rfl, rfl⟩ rfl rfl rfl rfl rfl (by kernel_rfl) Try.func3 (by kernel_rfl)
    (of_decide_eq_true (by kernel_rfl)) (by unfold Func.isWrapper; first | (rw [if_pos (by decide +kernel)]; kernel_rfl) | (rw [if_neg (by decide +kernel)]; exact ⟨rfl, rfl⟩))
    (fun os started H enc _ => lifted os started H enc)

/-- THE STATEMENT -/
theorem proved : Rows.FnSizeOfSaid := over
end Go.Proofs.Ytkecjifejbhdpaa.FnSizeOf
