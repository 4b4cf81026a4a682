/- Contracts of the functions that say whether commands are valid. -/
import Derived.Test.YtebfafefeajemaaCmdMem
import Derived.Test.YtebfafefeajemaaStmts
import Derived.Test.YtebfafefeajemaaKin
set_option linter.unusedVariables false
set_option linter.unusedSimpArgs false
namespace Go.Proofs.Ytebfafefeajemaa
open Go.RowKit Go.Proofs.Ytebfafefeajemaa.Nm

set_option maxRecDepth 100000 in
set_option maxHeartbeats 1000000 in
theorem impl_ValidCommands (v : Value) (cs : List Cmd) (D : Nat → Prop) (w : World) (hr : CmdsIn w D v cs) (hz : ShortCmd 8000000 cs) :
    Calls Try.prog 63 #[v] w fun e w' => e = .returned (.bool (okCmds cs)) ∧ Below w.heap.size w w' := by
  have Hr := Lib.hid hr
  have Hz := Lib.hid hz
  obtain ⟨aa, ca, rfl, hl, hm⟩ := hr.len
  unfold maxLen at hm
  clear hr hz
  by_cases h10 : (10 : Int) < (cs.length : Int)
  · have Hv := Lib.hid (okCmds_long (show 10 < cs.length by omega))
    go_enter Try.func63, Try.ntmps63
    go_wp2_with fail
    go_ret
    rw [Hv.out]
    exact ⟨rfl, by (repeat (with_reducible first | exact Below.refl _ _ | assumption | refine ba ?_ _ | refine bd ?_ | refine bdN ?_ _ | refine bs ?_ (by first | exact Nat.le_refl _ | (dsimp only; omega) | (simp; done)) _ | refine bt ?_ (by assumption)))⟩
  · go_enter Try.func63, Try.ntmps63
    go_wp2_with fail
    go_loopw [10] (fun iv wr => ∃ k : Nat, k ≤ cs.length ∧ iv = .int .i64 k ∧ Below w.heap.size w wr ∧ ∀ i (h : i < cs.length), i < k → okCmd cs[i] = true) (fun iv _ => cs.length - (intOf iv).toNat)
    case atStart => exact ⟨0, by omega, rfl, Below.refl _ _, fun i _ h => absurd h (by omega)⟩
    case round =>
      obtain ⟨k, hk, rfl, hbel, ha⟩ := hrel
      have Ha := Lib.hid ha
      clear ha
      by_cases hlt : k < cs.length
      · obtain ⟨b, off, cap, e, hD, hb, c0, c1⟩ := (Hr.out.below hbel).at_ hlt
        simp only [Value.slice.injEq] at e
        obtain ⟨rfl, _, rfl⟩ := e
        have z1 := Hz.out _ (List.getElem_mem hlt)
        have Hn := Lib.hid (okCmds_no k hlt)
        obtain ⟨s, hs⟩ : ∃ s, s = cs[k] := ⟨_, rfl⟩
        rw [← hs] at c0 c1 z1 Hn
        have Hy := Lib.hid (fun (h : okCmd s = true) => (show okCmd cs[k] = true by rw [← hs]; exact h))
        clear hs
        obtain ⟨x0, x1⟩ := s
        dsimp only at c0 c1 z1
        have hk1 : (k : Int) < (cs.length : Int) := by omega
        have hk0 : (0 : Int) ≤ (k : Int) := by omega
        cases h1 : inr x0 0 2
        · have Hv := Lib.hid (Hn.out (show okCmd ⟨x0, x1⟩ = false by simp [okCmd, h1]))
          have H1 := Lib.hid h1
          clear h1
          go_wp2_with (go_at_call 115; refine (impl_inRange _ _ _).mono ?_; rintro _ _ ⟨rfl, rfl⟩; rw [H1.out])
          go_ret
          rw [Hv.out]
          exact ⟨rfl, by (repeat (with_reducible first | exact Below.refl _ _ | assumption | refine ba ?_ _ | refine bd ?_ | refine bdN ?_ _ | refine bs ?_ (by first | exact Nat.le_refl _ | (dsimp only; omega) | (simp; done)) _ | refine bt ?_ (by assumption)))⟩
        cases h2 : vn x1
        · have Hv := Lib.hid (Hn.out (show okCmd ⟨x0, x1⟩ = false by simp [okCmd, h2]))
          have H1 := Lib.hid h1
          have H2 := Lib.hid h2
          clear h1 h2
          go_wp2_with (first
            | (go_at_call 115; refine (impl_inRange _ _ _).mono ?_; rintro _ _ ⟨rfl, rfl⟩; rw [H1.out])
            | (go_at_call 116; refine (impl_ValidName _ _ (by omega)).mono ?_; rintro _ w5 ⟨rfl, hb5⟩; rw [H2.out]; obtain ⟨hc, hf, hs⟩ := bcell hb5))
          go_ret
          rw [Hv.out]
          exact ⟨rfl, by (repeat (with_reducible first | exact Below.refl _ _ | assumption | refine ba ?_ _ | refine bd ?_ | refine bdN ?_ _ | refine bs ?_ (by first | exact Nat.le_refl _ | (dsimp only; omega) | (simp; done)) _ | refine bt ?_ (by assumption)))⟩
        have Hok := Lib.hid (Hy.out (show okCmd ⟨x0, x1⟩ = true by simp [okCmd, h1, h2]))
        have H1 := Lib.hid h1
        have H2 := Lib.hid h2
        clear h1 h2
        go_wp2_with (first
          | (go_at_call 115; refine (impl_inRange _ _ _).mono ?_; rintro _ _ ⟨rfl, rfl⟩; rw [H1.out])
          | (go_at_call 116; refine (impl_ValidName _ _ (by omega)).mono ?_; rintro _ w5 ⟨rfl, hb5⟩; rw [H2.out]; obtain ⟨hc, hf, hs⟩ := bcell hb5))
        go_roundw
        case rel =>
          refine ⟨k + 1, by omega, by go_num, by (repeat (with_reducible first | exact Below.refl _ _ | assumption | refine ba ?_ _ | refine bd ?_ | refine bdN ?_ _ | refine bs ?_ (by first | exact Nat.le_refl _ | (dsimp only; omega) | (simp; done)) _ | refine bt ?_ (by assumption))), fun i h1 hi => ?_⟩
          by_cases e : i = k
          · subst e; exact Hok.out
          · exact Ha.out i h1 (by omega)
        case measure => simp [intOf]; omega
      · have hv := Lib.hid (okCmds_all (fun i h => Ha.out i h (by omega)))
        have Hlen := Lib.hid (decide_eq_true (show cs.length ≤ 10 by omega))
        go_wp2_with fail
        go_ret
        rw [hv.out, Hlen.out]
        exact ⟨rfl, hbel⟩
set_option maxRecDepth 100000 in
set_option maxHeartbeats 1000000 in
theorem spec_validCommands (v : Value) (cs : List Cmd) (D : Nat → Prop) (w : World) (hr : CmdsIn w D v cs) (hz : ShortCmd 8000000 cs) :
    Calls Try.prog 113 #[v] w fun e w' => e = .returned (.bool (okCmds cs)) ∧ Below w.heap.size w w' := by
  have Hr := Lib.hid hr
  have Hz := Lib.hid hz
  obtain ⟨aa, ca, rfl, hl, hm⟩ := hr.len
  unfold maxLen at hm
  clear hr hz
  go_enter Try.func113, Try.ntmps113
  go_wp2_with fail
  go_loopw [3] (fun iv wr => ∃ k : Nat, k ≤ cs.length ∧ iv = .int .i64 k ∧ Below w.heap.size w wr ∧ ∀ i (h : i < cs.length), i < k → okCmd cs[i] = true) (fun iv _ => cs.length - (intOf iv).toNat)
  case atStart => exact ⟨0, by omega, rfl, Below.refl _ _, fun i _ h => absurd h (by omega)⟩
  case round =>
    obtain ⟨k, hk, rfl, hbel, ha⟩ := hrel
    have Ha := Lib.hid ha
    clear ha
    by_cases hlt : k < cs.length
    · obtain ⟨b, off, cap, e, hD, hb, c0, c1⟩ := (Hr.out.below hbel).at_ hlt
      simp only [Value.slice.injEq] at e
      obtain ⟨rfl, _, rfl⟩ := e
      have z1 := Hz.out _ (List.getElem_mem hlt)
      have Hn := Lib.hid (okCmds_no k hlt)
      obtain ⟨s, hs⟩ : ∃ s, s = cs[k] := ⟨_, rfl⟩
      rw [← hs] at c0 c1 z1 Hn
      have Hy := Lib.hid (fun (h : okCmd s = true) => (show okCmd cs[k] = true by rw [← hs]; exact h))
      clear hs
      obtain ⟨x0, x1⟩ := s
      dsimp only at c0 c1 z1
      have hk1 : (k : Int) < (cs.length : Int) := by omega
      have hk0 : (0 : Int) ≤ (k : Int) := by omega
      cases h1 : inr x0 0 2
      · have Hv := Lib.hid (Hn.out (show okCmd ⟨x0, x1⟩ = false by simp [okCmd, h1]))
        have H1 := Lib.hid h1
        clear h1
        go_wp2_with (go_at_call 68; refine (spec_inRange' _ _ _ _).mono ?_; rintro _ _ ⟨rfl, rfl⟩; rw [H1.out])
        go_ret
        rw [Hv.out]
        exact ⟨rfl, by (repeat (with_reducible first | exact Below.refl _ _ | assumption | refine ba ?_ _ | refine bd ?_ | refine bdN ?_ _ | refine bs ?_ (by first | exact Nat.le_refl _ | (dsimp only; omega) | (simp; done)) _ | refine bt ?_ (by assumption)))⟩
      cases h2 : vn x1
      · have Hv := Lib.hid (Hn.out (show okCmd ⟨x0, x1⟩ = false by simp [okCmd, h2]))
        have H1 := Lib.hid h1
        have H2 := Lib.hid h2
        clear h1 h2
        go_wp2_with (first
          | (go_at_call 68; refine (spec_inRange' _ _ _ _).mono ?_; rintro _ _ ⟨rfl, rfl⟩; rw [H1.out])
          | (go_at_call 123; refine (spec_validName _ _ (by omega)).mono ?_; rintro _ w5 ⟨rfl, hb5⟩; rw [H2.out]; obtain ⟨hc, hf, hs⟩ := bcell hb5))
        go_ret
        rw [Hv.out]
        exact ⟨rfl, by (repeat (with_reducible first | exact Below.refl _ _ | assumption | refine ba ?_ _ | refine bd ?_ | refine bdN ?_ _ | refine bs ?_ (by first | exact Nat.le_refl _ | (dsimp only; omega) | (simp; done)) _ | refine bt ?_ (by assumption)))⟩
      have Hok := Lib.hid (Hy.out (show okCmd ⟨x0, x1⟩ = true by simp [okCmd, h1, h2]))
      have H1 := Lib.hid h1
      have H2 := Lib.hid h2
      clear h1 h2
      go_wp2_with (first
        | (go_at_call 68; refine (spec_inRange' _ _ _ _).mono ?_; rintro _ _ ⟨rfl, rfl⟩; rw [H1.out])
        | (go_at_call 123; refine (spec_validName _ _ (by omega)).mono ?_; rintro _ w5 ⟨rfl, hb5⟩; rw [H2.out]; obtain ⟨hc, hf, hs⟩ := bcell hb5))
      go_roundw
      case rel =>
        refine ⟨k + 1, by omega, by go_num, by (repeat (with_reducible first | exact Below.refl _ _ | assumption | refine ba ?_ _ | refine bd ?_ | refine bdN ?_ _ | refine bs ?_ (by first | exact Nat.le_refl _ | (dsimp only; omega) | (simp; done)) _ | refine bt ?_ (by assumption))), fun i h1 hi => ?_⟩
        by_cases e : i = k
        · subst e; exact Hok.out
        · exact Ha.out i h1 (by omega)
      case measure => simp [intOf]; omega
    · have hv := Lib.hid (okCmds_all (fun i h => Ha.out i h (by omega)))
      go_wp2_with fail
      go_ret
      refine ⟨ret_bool ?_, hbel⟩
      rw [hv.out]
      try simp
      try omega
set_option maxRecDepth 100000 in
set_option maxHeartbeats 400000 in
theorem spec_ValidCommands (v : Value) (cs : List Cmd) (D : Nat → Prop) (w : World) (hr : CmdsIn w D v cs) (hz : ShortCmd 8000000 cs) :
    Calls Try.prog 61 #[v] w fun e w' => e = .returned (.bool (okCmds cs)) ∧ Below w.heap.size w w' := by
  have Hr := Lib.hid hr
  have Hz := Lib.hid hz
  obtain ⟨aa, ca, rfl, hl, hm⟩ := hr.len
  clear hr hz
  go_enter Try.func61, Try.ntmps61
  go_wp2_with fail
  refine (spec_validCommands _ cs D _ Hr.out Hz.out).mono ?_
  rintro _ w5 ⟨rfl, hb5⟩
  go_wp2_with fail
  go_ret
  exact ⟨rfl, hb5⟩
end Go.Proofs.Ytebfafefeajemaa
