/- Contracts of the functions that say whether a body is valid. -/
import Derived.Test.YtolhgklbkjdpiaaGreatStmts
set_option linter.unusedVariables false
set_option linter.unusedSimpArgs false
namespace Go.Proofs.YtolhgklbkjdpiaaGreat
open Go.RowKit Go.Proofs.YtolhgklbkjdpiaaGreat.Nm




theorem okBody_no (ss : List Stm) (k : Nat) (h : k < ss.length) (hv : okStm ss[k] = false) : okBody ss = false := by
  have : ss.all okStm = false := by rw [List.all_eq_false]; exact ⟨_, List.getElem_mem h, by simp [hv]⟩
  simp [okBody, this]
theorem okBody_yes (ss : List Stm) (ha : ∀ i (h : i < ss.length), okStm ss[i] = true) : okBody ss = decide (ss.length ≤ 8) := by
  have : ss.all okStm = true := by
    rw [List.all_eq_true]; intro s hs
    obtain ⟨i, hi, rfl⟩ := List.getElem_of_mem hs
    exact ha i hi
  simp [okBody, this]

set_option maxRecDepth 100000 in
set_option maxHeartbeats 400000 in
theorem impl_ValidBody (v : Value) (ss : List Stm) (D : Nat → Prop) (w : World) (hr : StmsIn w D v ss) (hz : Short 8000000 ss) :
    Calls Tryz.prog 101 #[v] w fun e w' => e = .returned (.bool (okBody ss)) ∧ Below w.heap.size w w' := by
  obtain ⟨aa, ca, rfl, hl, hm⟩ := hr.len
  unfold maxLen at hm
  have Hr := Lib.hid hr
  have Hz := Lib.hid hz
  clear hr hz
  by_cases h8 : (8 : Int) < (ss.length : Int)
  · have Hv := Lib.hid (show okBody ss = false by simp [okBody]; omega)
    go_enter Tryz.func101, Tryz.ntmps101
    go_wp2_with fail
    go_ret
    rw [Hv.out]
    exact ⟨rfl, by (repeat (with_reducible first | exact Below.refl _ _ | assumption | refine ba ?_ _ | refine bd ?_ | refine bdN ?_ _ | refine bs ?_ (by first | exact Nat.le_refl _ | (dsimp only; omega) | (simp; done)) _ | refine bt ?_ (by assumption)))⟩
  · go_enter Tryz.func101, Tryz.ntmps101
    go_wp2_with fail
    go_loopw [10] (fun kv wr => ∃ k : Nat, k ≤ ss.length ∧ kv = .int .i64 k ∧ Below w.heap.size w wr ∧ ∀ i (h : i < ss.length), i < k → okStm ss[i] = true) (fun kv _ => ss.length - (intOf kv).toNat)
    case atStart => exact ⟨0, by omega, rfl, Below.refl _ _, fun i _ h => absurd h (by omega)⟩
    case round =>
      obtain ⟨k, hk, rfl, hbel, ha⟩ := hrel
      have Ha := Lib.hid ha
      clear ha
      by_cases hlt : k < ss.length
      · obtain ⟨b, off, cap, e, hD, hb, c0, c1, c2, c3, c4⟩ := (Hr.out.below hbel).at_ hlt
        simp only [Value.slice.injEq] at e
        obtain ⟨rfl, _, rfl⟩ := e
        have hz := Hz.out _ (List.getElem_mem hlt)
        obtain ⟨hz1, hz2⟩ := hz
        have Hn := Lib.hid (okBody_no ss k hlt)
        obtain ⟨s, hs⟩ : ∃ s, s = ss[k] := ⟨_, rfl⟩
        rw [← hs] at c0 c1 c2 c3 c4 hz1 hz2 Hn
        have Hy := Lib.hid (fun (h : okStm s = true) => (show okStm ss[k] = true by rw [← hs]; exact h))
        clear hs
        obtain ⟨sk, sm, sl, sn, sv⟩ := s
        dsimp only at c0 c1 c2 c3 c4 hz1 hz2
        go_wp2_with (go_at_call 117; refine (impl_validStmt sk sm sn sl sv _ hz1 hz2).mono ?_; (rintro _ _ ⟨rfl, hb⟩; obtain ⟨hc, hf, hs⟩ := bcell hb))
        · have h : (!okStm ⟨sk, sm, sl, sn, sv⟩) = true := by assumption
          go_ret
          rw [Hn.out (by simpa using h)]
          exact ⟨rfl, by (repeat (with_reducible first | exact Below.refl _ _ | assumption | refine ba ?_ _ | refine bd ?_ | refine bdN ?_ _ | refine bs ?_ (by first | exact Nat.le_refl _ | (dsimp only; omega) | (simp; done)) _ | refine bt ?_ (by assumption)))⟩
        · have h : (!okStm ⟨sk, sm, sl, sn, sv⟩) = false := by assumption
          go_roundw
          case rel =>
            refine ⟨k + 1, by omega, by go_num, by (repeat (with_reducible first | exact Below.refl _ _ | assumption | refine ba ?_ _ | refine bd ?_ | refine bdN ?_ _ | refine bs ?_ (by first | exact Nat.le_refl _ | (dsimp only; omega) | (simp; done)) _ | refine bt ?_ (by assumption))), fun i h1 hi => ?_⟩
            by_cases e : i = k
            · subst e; exact Hy.out (by simpa using h)
            · exact Ha.out i h1 (by omega)
          case measure => simp [intOf]; omega
      · have hv := Lib.hid (okBody_yes ss (fun i h => Ha.out i h (by omega)))
        have h8' := Lib.hid (show decide (ss.length ≤ 8) = true by simp; omega)
        go_wp2_with fail
        go_ret
        rw [hv.out, h8'.out]
        exact ⟨rfl, hbel⟩

set_option maxRecDepth 100000 in
set_option maxHeartbeats 400000 in
theorem spec_validBody (v : Value) (ss : List Stm) (D : Nat → Prop) (w : World) (hr : StmsIn w D v ss) (hz : Short 8000000 ss) :
    Calls Tryz.prog 79 #[v] w fun e w' => e = .returned (.bool (okBody ss)) ∧ Below w.heap.size w w' := by
  obtain ⟨aa, ca, rfl, hl, hm⟩ := hr.len
  unfold maxLen at hm
  have Hr := Lib.hid hr
  have Hz := Lib.hid hz
  clear hr hz
  go_enter Tryz.func79, Tryz.ntmps79
  go_wp2_with fail
  go_loopw [3] (fun kv wr => ∃ k : Nat, k ≤ ss.length ∧ kv = .int .i64 k ∧ Below w.heap.size w wr ∧ ∀ i (h : i < ss.length), i < k → okStm ss[i] = true) (fun kv _ => ss.length - (intOf kv).toNat)
  case atStart => exact ⟨0, by omega, rfl, Below.refl _ _, fun i _ h => absurd h (by omega)⟩
  case round =>
    obtain ⟨k, hk, rfl, hbel, ha⟩ := hrel
    have Ha := Lib.hid ha
    clear ha
    by_cases hlt : k < ss.length
    · obtain ⟨b, off, cap, e, hD, hb, c0, c1, c2, c3, c4⟩ := (Hr.out.below hbel).at_ hlt
      simp only [Value.slice.injEq] at e
      obtain ⟨rfl, _, rfl⟩ := e
      have hz := Hz.out _ (List.getElem_mem hlt)
      obtain ⟨hz1, hz2⟩ := hz
      have Hn := Lib.hid (okBody_no ss k hlt)
      obtain ⟨s, hs⟩ : ∃ s, s = ss[k] := ⟨_, rfl⟩
      rw [← hs] at c0 c1 c2 c3 c4 hz1 hz2 Hn
      have Hy := Lib.hid (fun (h : okStm s = true) => (show okStm ss[k] = true by rw [← hs]; exact h))
      clear hs
      obtain ⟨sk, sm, sl, sn, sv⟩ := s
      dsimp only at c0 c1 c2 c3 c4 hz1 hz2
      go_wp2_with (go_at_call 97; refine (spec_validStmt sk sm sn sl sv _ hz1 hz2).mono ?_; (rintro _ _ ⟨rfl, hb⟩; obtain ⟨hc, hf, hs⟩ := bcell hb))
      · have h : (!okStm ⟨sk, sm, sl, sn, sv⟩) = true := by assumption
        go_ret
        rw [Hn.out (by simpa using h)]
        exact ⟨rfl, by (repeat (with_reducible first | exact Below.refl _ _ | assumption | refine ba ?_ _ | refine bd ?_ | refine bdN ?_ _ | refine bs ?_ (by first | exact Nat.le_refl _ | (dsimp only; omega) | (simp; done)) _ | refine bt ?_ (by assumption)))⟩
      · have h : (!okStm ⟨sk, sm, sl, sn, sv⟩) = false := by assumption
        go_roundw
        case rel =>
          refine ⟨k + 1, by omega, by go_num, by (repeat (with_reducible first | exact Below.refl _ _ | assumption | refine ba ?_ _ | refine bd ?_ | refine bdN ?_ _ | refine bs ?_ (by first | exact Nat.le_refl _ | (dsimp only; omega) | (simp; done)) _ | refine bt ?_ (by assumption))), fun i h1 hi => ?_⟩
          by_cases e : i = k
          · subst e; exact Hy.out (by simpa using h)
          · exact Ha.out i h1 (by omega)
        case measure => simp [intOf]; omega
    · have hv := Lib.hid (okBody_yes ss (fun i h => Ha.out i h (by omega)))
      go_wp2_with fail
      go_ret
      refine ⟨ret_bool ?_, hbel⟩
      rw [hv.out]
      try simp
      try omega

end Go.Proofs.YtolhgklbkjdpiaaGreat
