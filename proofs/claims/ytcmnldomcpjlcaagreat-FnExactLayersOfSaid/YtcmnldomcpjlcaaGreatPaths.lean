/- Contracts of the functions that say whether roots are a path. -/
import Derived.Test.YtcmnldomcpjlcaaGreatInts
import Derived.Test.YtcmnldomcpjlcaaGreatStmts
import Derived.StillTailTactics
import Derived.Lib.QuietBelow
import Derived.BigQuiet
set_option linter.unusedVariables false
set_option linter.unusedSimpArgs false
namespace Go.Proofs.YtcmnldomcpjlcaaGreat
open Go.RowKit Go.Proofs.YtcmnldomcpjlcaaGreat.Nm
open Go.Sort (grow)

set_option maxRecDepth 100000 in
set_option maxHeartbeats 400000 in
theorem slices_Index (v : Value) (xs : List Int) (n : Int) (w : World) (hr : IntsIn w v xs) :
    Calls Tryz.prog 142 #[v, .int .i64 n] w fun e w' => e = .returned (.int .i64 (intIdx xs n)) ∧ w = w' := by
  have Hr := Lib.hid hr
  obtain ⟨aa, ca, rfl, hl, hm⟩ := hr.len
  unfold maxLen at hm
  clear hr
  go_enter Tryz.func142, Tryz.ntmps142
  go_wp2_with fail
  go_loop [8] (fun kv => ∃ k : Nat, k ≤ xs.length ∧ kv = .int .i64 k ∧ ∀ i (h : i < xs.length), i < k → xs[i] ≠ n) (fun kv => xs.length - (intOf kv).toNat)
  case atStart => exact ⟨0, by omega, rfl, fun i _ h => absurd h (by omega)⟩
  case round =>
    obtain ⟨k, hk, rfl, ha⟩ := hrel
    have Ha := Lib.hid ha
    clear ha
    by_cases hlt : k < xs.length
    · obtain ⟨b, off, cap, e, hb, hc⟩ := Hr.out.at_ hlt
      simp only [Value.slice.injEq] at e
      obtain ⟨rfl, _, rfl⟩ := e
      by_cases heq : xs[k] = n
      · have Hv := Lib.hid (intIdx_yes xs k hlt n (fun j h1 h2 => Ha.out j h1 h2) heq)
        rw [heq] at hc
        clear heq
        go_wp2_with fail
        go_ret
        rw [Hv.out]
        exact ⟨rfl, rfl⟩
      · have Heq := Lib.hid heq
        have hne : (n == xs[k]) = false := by rw [beq_eq_false_iff_ne]; exact fun e => heq e.symm
        clear heq
        go_wp2_with fail
        go_round
        case rel =>
          refine ⟨k + 1, by omega, by go_num, fun i h1 hi => ?_⟩
          by_cases e : i = k
          · subst e; exact Heq.out
          · exact Ha.out i h1 (by omega)
        case measure => simp [intOf]; omega
    · have Hv := Lib.hid (intIdx_no xs n (fun j h1 => Ha.out j h1 (by omega)))
      go_wp2_with fail
      go_ret
      rw [Hv.out]
      exact ⟨rfl, rfl⟩
set_option maxRecDepth 100000 in
set_option maxHeartbeats 400000 in
theorem slices_Contains (v : Value) (xs : List Int) (n : Int) (w : World) (hr : IntsIn w v xs) :
    Calls Tryz.prog 94 #[v, .int .i64 n] w fun e w' => e = .returned (.bool (decide (n ∈ xs))) ∧ w = w' := by
  have Hm := Lib.hid (intIdx_mem xs n)
  go_enter Tryz.func94, Tryz.ntmps94
  go_wp2_with (go_at_call 142; refine (slices_Index v xs n _ hr).mono ?_; rintro _ _ ⟨rfl, rfl⟩)
  go_ret
  refine ⟨ret_bool ?_, rfl⟩
  rw [Bool.eq_iff_iff]
  simp only [decide_eq_true_eq]
  exact Hm.out

set_option maxRecDepth 100000 in
set_option maxHeartbeats 1000000 in
theorem impl_ValidPath (v : Value) (xs : List Int) (w : World) (hr : IntsIn w v xs) :
    Calls Tryz.prog 48 #[v] w fun e w' => e = .returned (.bool (okPath xs)) ∧ w = w' := by
  have Hr := Lib.hid hr
  obtain ⟨aa, ca, rfl, hl, hm⟩ := hr.len
  unfold maxLen at hm
  clear hr
  go_enter Tryz.func48, Tryz.ntmps48
  go_wp2_with fail
  go_loop [7] (fun kv => ∃ k : Nat, k ≤ xs.length ∧ kv = .int .i64 k ∧ ∀ i (h : i < xs.length), i < k → inr xs[i] 0 2 = true ∧ xs[i] ∉ xs.take i) (fun kv => xs.length - (intOf kv).toNat)
  case atStart => exact ⟨0, by omega, rfl, fun i _ h => absurd h (by omega)⟩
  case round =>
    obtain ⟨k, hk, rfl, ha⟩ := hrel
    have Ha := Lib.hid ha
    clear ha
    by_cases hlt : k < xs.length
    · obtain ⟨b, off, cap, e, hb, hc⟩ := Hr.out.at_ hlt
      simp only [Value.slice.injEq] at e
      obtain ⟨rfl, _, rfl⟩ := e
      have Hf := Lib.hid (Hr.out.front k (by omega))
      have Hb1 := Lib.hid (fun h => okPath_bad1 hlt h)
      have Hb2 := Lib.hid (fun h => okPath_bad2 hlt h)
      obtain ⟨n, hn⟩ : ∃ n, n = xs[k] := ⟨_, rfl⟩
      have Hn := Lib.hid hn
      rw [← hn] at hc Hb1 Hb2
      clear hn
      cases h1 : inr n 0 2
      · have Hv := Lib.hid (Hb1.out h1)
        have H1 := Lib.hid h1
        clear h1
        go_wp2_with (go_at_call 93; refine (impl_inRange _ _ _).mono ?_; rintro _ _ ⟨rfl, rfl⟩; rw [H1.out])
        go_ret
        rw [Hv.out]
        exact ⟨rfl, rfl⟩
      · have H1 := Lib.hid h1
        clear h1
        by_cases h2 : n ∈ xs.take k
        · have Hv := Lib.hid (Hb2.out h2)
          have H2 := Lib.hid (decide_eq_true h2)
          clear h2
          go_wp2_with (first
            | (go_at_call 93; refine (impl_inRange _ _ _).mono ?_; rintro _ _ ⟨rfl, rfl⟩; rw [H1.out])
            | (go_at_call 94; refine (slices_Contains _ (xs.take k) n _ Hf.out).mono ?_; rintro _ _ ⟨rfl, rfl⟩; rw [H2.out]))
          go_ret
          rw [Hv.out]
          exact ⟨rfl, rfl⟩
        · have H3 := Lib.hid h2
          have H2 := Lib.hid (decide_eq_false h2)
          clear h2
          go_wp2_with (first
            | (go_at_call 93; refine (impl_inRange _ _ _).mono ?_; rintro _ _ ⟨rfl, rfl⟩; rw [H1.out])
            | (go_at_call 94; refine (slices_Contains _ (xs.take k) n _ Hf.out).mono ?_; rintro _ _ ⟨rfl, rfl⟩; rw [H2.out]))
          go_round
          case rel =>
            refine ⟨k + 1, by omega, by go_num, fun i h hi => ?_⟩
            by_cases e : i = k
            · subst e; rw [← Hn.out]; exact ⟨H1.out, H3.out⟩
            · exact Ha.out i h (by omega)
          case measure => simp [intOf]; omega
    · have Hv := Lib.hid (okPath_good (fun i h => Ha.out i h (by omega)))
      go_wp2_with fail
      go_ret
      rw [Hv.out]
      exact ⟨rfl, rfl⟩

set_option maxRecDepth 100000 in
set_option maxHeartbeats 400000 in
theorem spec_intAt (v : Value) (xs : List Int) (n : Int) (w : World) (hr : IntsIn w v xs) :
    Calls Tryz.prog 110 #[v, .int .i64 n] w fun e w' => e = .returned (.int .i64 (intIdx xs n)) ∧ w = w' := by
  have Hr := Lib.hid hr
  obtain ⟨aa, ca, rfl, hl, hm⟩ := hr.len
  unfold maxLen at hm
  clear hr
  go_enter Tryz.func110, Tryz.ntmps110
  go_wp2_with fail
  go_loop [5] (fun kv => ∃ k : Nat, k ≤ xs.length ∧ kv = .int .i64 k ∧ ∀ i (h : i < xs.length), i < k → xs[i] ≠ n) (fun kv => xs.length - (intOf kv).toNat)
  case atStart => exact ⟨0, by omega, rfl, fun i _ h => absurd h (by omega)⟩
  case round =>
    obtain ⟨k, hk, rfl, ha⟩ := hrel
    have Ha := Lib.hid ha
    clear ha
    by_cases hlt : k < xs.length
    · obtain ⟨b, off, cap, e, hb, hc⟩ := Hr.out.at_ hlt
      simp only [Value.slice.injEq] at e
      obtain ⟨rfl, _, rfl⟩ := e
      by_cases heq : xs[k] = n
      · have Hv := Lib.hid (intIdx_yes xs k hlt n (fun j h1 h2 => Ha.out j h1 h2) heq)
        rw [heq] at hc
        clear heq
        go_wp2_with fail
        go_ret
        rw [Hv.out]
        exact ⟨rfl, rfl⟩
      · have Heq := Lib.hid heq
        have hne : (xs[k] == n) = false := by rw [beq_eq_false_iff_ne]; exact heq
        clear heq
        go_wp2_with fail
        go_round
        case rel =>
          refine ⟨k + 1, by omega, by go_num, fun i h1 hi => ?_⟩
          by_cases e : i = k
          · subst e; exact Heq.out
          · exact Ha.out i h1 (by omega)
        case measure => simp [intOf]; omega
    · have Hv := Lib.hid (intIdx_no xs n (fun j h1 => Ha.out j h1 (by omega)))
      go_wp2_with fail
      go_ret
      rw [Hv.out]
      exact ⟨rfl, rfl⟩

set_option maxRecDepth 100000 in
set_option maxHeartbeats 1000000 in
theorem spec_validPath (v : Value) (xs : List Int) (w : World) (hr : IntsIn w v xs) :
    Calls Tryz.prog 62 #[v] w fun e w' => e = .returned (.bool (okPath xs)) ∧ Below w.heap.size w w' := by
  have Hr := Lib.hid hr
  obtain ⟨aa, ca, rfl, hl, hm⟩ := hr.len
  unfold maxLen at hm
  clear hr
  go_enter Tryz.func62, Tryz.ntmps62
  go_wp2_with fail
  go_loopw [3] (fun kv wr => ∃ k : Nat, k ≤ xs.length ∧ kv = .int .i64 k ∧ Below w.heap.size w wr ∧ ∀ i (h : i < xs.length), i < k → inr xs[i] 0 2 = true ∧ xs[i] ∉ xs.take i) (fun kv _ => xs.length - (intOf kv).toNat)
  case atStart => exact ⟨0, by omega, rfl, Below.refl _ _, fun i _ h => absurd h (by omega)⟩
  case round =>
    obtain ⟨k, hk, rfl, hbel, ha⟩ := hrel
    have Ha := Lib.hid ha
    have hbe := Lib.hid hbel
    clear ha
    by_cases hlt : k < xs.length
    · have Hrw := Lib.hid (Hr.out.below hbel)
      obtain ⟨b, off, cap, e, hb, hc⟩ := Hrw.out.at_ hlt
      simp only [Value.slice.injEq] at e
      obtain ⟨rfl, _, rfl⟩ := e
      have Hf := Lib.hid (Hrw.out.front k (by omega))
      have Hb1 := Lib.hid (fun h => okPath_bad1 hlt h)
      have Hb2 := Lib.hid (fun h => okPath_bad2 hlt h)
      obtain ⟨n, hn⟩ : ∃ n, n = xs[k] := ⟨_, rfl⟩
      have Hn := Lib.hid hn
      rw [← hn] at hc Hb1 Hb2
      have kc := cell_regrown hc
      have hk1 : (k : Int) < (xs.length : Int) := by omega
      have hk0 : (0 : Int) ≤ (k : Int) := by omega
      have hk2 : k ≤ ca := by omega
      clear hn hc hbel
      have Him := Lib.hid (intIdx_mem (xs.take k) n)
      have cI : ∀ d os, Calls Tryz.prog 110 #[.slice (some ⟨b, off, none⟩) k ca, .int .i64 n] (grow (redrawn wr d) os) fun e w'' => e = .returned (.int .i64 (intIdx (xs.take k) n)) ∧ ∃ p : Regrown, w'' = grow (redrawn wr p.d) p.os := fun d os =>
        Calls.regrown_of ((spec_intAt _ (xs.take k) n (grow (redrawn wr d) os) (Hf.out.below (below_regrown wr d os))).mono fun _ _ h => ⟨h.1, by rw [h.2]; exact Below.refl _ _⟩)
      generalize intIdx (xs.take k) n = j at *
      cases h1 : inr n 0 2
      · have Hv := Lib.hid (Hb1.out h1)
        have cV : ∀ d os, Calls Tryz.prog 109 #[.int .i64 n, .int .i64 0, .int .i64 2] (grow (redrawn wr d) os) fun e w'' => e = .returned (.bool false) ∧ ∃ p : Regrown, w'' = grow (redrawn wr p.d) p.os := fun d os =>
          Calls.regrown_of ((spec_inRange' n 0 2 (grow (redrawn wr d) os)).mono fun _ _ h => ⟨by rw [h.1, h1], by rw [h.2]; exact Below.refl _ _⟩)
        clear h1
        go_wp2_with fail
        refine wp_region_quiet_below (by kernel_rfl) (by kernel_rfl) ?_
        repeat (go_big_quiet_step (exact cV _ _))
        refine wpQuiet_nil ?_
        intro _ hw'
        obtain ⟨⟨dq, osq⟩, hw2⟩ := hw'
        subst hw2
        have Hb7 := Lib.hid (bt hbe.out (below_regrown wr dq osq))
        clear cV cI kc
        go_wp2_with fail
        go_ret
        rw [Hv.out]
        exact ⟨rfl, Hb7.out⟩
      · have cV : ∀ d os, Calls Tryz.prog 109 #[.int .i64 n, .int .i64 0, .int .i64 2] (grow (redrawn wr d) os) fun e w'' => e = .returned (.bool true) ∧ ∃ p : Regrown, w'' = grow (redrawn wr p.d) p.os := fun d os =>
          Calls.regrown_of ((spec_inRange' n 0 2 (grow (redrawn wr d) os)).mono fun _ _ h => ⟨by rw [h.1, h1], by rw [h.2]; exact Below.refl _ _⟩)
        have H1 := Lib.hid h1
        clear h1
        by_cases h2 : 0 ≤ j
        · have Hv := Lib.hid (Hb2.out (Him.out.1 h2))
          go_wp2_with fail
          refine wp_region_quiet_below (by kernel_rfl) (by kernel_rfl) ?_
          repeat (go_big_quiet_step (first | exact cV _ _ | exact cI _ _))
          refine wpQuiet_nil ?_
          intro _ hw'
          obtain ⟨⟨dq, osq⟩, hw2⟩ := hw'
          subst hw2
          have Hb7 := Lib.hid (bt hbe.out (below_regrown wr dq osq))
          clear cV cI kc
          go_wp2_with fail
          go_ret
          rw [Hv.out]
          exact ⟨rfl, Hb7.out⟩
        · have H3 := Lib.hid (show n ∉ xs.take k from fun h => h2 (Him.out.2 h))
          go_wp2_with fail
          refine wp_region_quiet_below (by kernel_rfl) (by kernel_rfl) ?_
          repeat (go_big_quiet_step (first | exact cV _ _ | exact cI _ _))
          refine wpQuiet_nil ?_
          intro _ hw'
          obtain ⟨⟨dq, osq⟩, hw2⟩ := hw'
          subst hw2
          have Hb7 := Lib.hid (bt hbe.out (below_regrown wr dq osq))
          clear cV cI kc
          go_wp2_with fail
          go_roundw
          case rel =>
            refine ⟨k + 1, by omega, by go_num, Hb7.out, fun i h hi => ?_⟩
            by_cases e : i = k
            · subst e; rw [← Hn.out]; exact ⟨H1.out, H3.out⟩
            · exact Ha.out i h (by omega)
          case measure => simp [intOf]; omega
    · have Hv := Lib.hid (okPath_good (fun i h => Ha.out i h (by omega)))
      go_wp2_with fail
      go_ret
      rw [Hv.out]
      exact ⟨rfl, hbel⟩
end Go.Proofs.YtcmnldomcpjlcaaGreat
