/- Contracts of the functions that tell the size of a body. -/
import Derived.Test.YtomdmkhgkaalnaaHash
import Derived.Test.YtomdmkhgkaalnaaPlainC
set_option linter.unusedVariables false
set_option linter.unusedSimpArgs false
namespace Go.Proofs.Ytomdmkhgkaalnaa
open Go.RowKit Go.Proofs.Ytomdmkhgkaalnaa.Nm

theorem size_take {ss : List Stm} (hz : Short 8000000 ss) (h8 : ss.length ≤ 8) (k : Nat) (hk : k ≤ ss.length) : sizeSum (ss.take k) ≤ 128000024 := by
  have h := sizeSum_le (b := ss.take k) (B := 16000003) (fun s hs => by
    have := hz s (List.mem_of_mem_take hs)
    unfold stmSize; omega)
  rw [List.length_take, Nat.min_eq_left hk] at h
  have h2 : k * 16000003 ≤ 8 * 16000003 := Nat.mul_le_mul_right _ (by omega)
  omega
set_option maxRecDepth 100000 in
set_option maxHeartbeats 400000 in
theorem impl_SizeOf (v : Value) (ss : List Stm) (D : Nat → Prop) (w : World) (hr : StmsIn w D v ss) (hz : Short 8000000 ss) :
    Calls Try.prog 38 #[v] w fun e w' => e = .returned (.int .i64 (bodySize ss)) ∧ Below w.heap.size w w' := by
  obtain ⟨aa, ca, rfl, hl, hm⟩ := hr.len
  unfold maxLen at hm
  have Hr := Lib.hid hr
  have Hz := Lib.hid hz
  clear hr hz
  cases hb : okBody ss
  · have Hb := Lib.hid hb
    have Hv := Lib.hid (show bodySize ss = -1 by unfold bodySize; rw [hb]; rfl)
    clear hb
    go_enter Try.func38, Try.ntmps38
    go_wp2_with (go_at_call 97; refine (impl_ValidBody _ ss D w Hr.out Hz.out).mono ?_; (rintro _ _ ⟨rfl, hb⟩; obtain ⟨hc, hf, hs⟩ := bcell hb); rw [Hb.out])
    go_ret
    exact ⟨ret_i64 Hv.out.symm, by (repeat (with_reducible first | exact Below.refl _ _ | assumption | refine ba ?_ _ | refine bd ?_ | refine bdN ?_ _ | refine bs ?_ (by first | exact Nat.le_refl _ | (dsimp only; omega) | (simp; done)) _ | refine bt ?_ (by assumption)))⟩
  · have Hb := Lib.hid hb
    have hs8 := (okBody_all hb).2
    have Hv := Lib.hid (show bodySize ss = (sizeSum ss : Int) by unfold bodySize; rw [if_pos hb])
    clear hb
    go_enter Try.func38, Try.ntmps38
    go_wp2_with (go_at_call 97; refine (impl_ValidBody _ ss D w Hr.out Hz.out).mono ?_; rintro e w1 ⟨rfl, hb1⟩; rw [Hb.out])
    go_loopw [3, 11] (fun hv iv wr => ∃ i : Nat, i ≤ ss.length ∧ iv = .int .i64 i ∧ hv = .int .i64 (sizeSum (ss.take i) : Nat) ∧ Below w.heap.size w wr) (fun _ iv _ => ss.length - (intOf iv).toNat)
    case atStart => exact ⟨0, by omega, rfl, rfl, hb1⟩
    case round =>
      obtain ⟨k, hk, rfl, rfl, hbel⟩ := hrel
      have hN := size_take Hz.out hs8 k hk
      by_cases hlt : k < ss.length
      · obtain ⟨b, off, cap, e, hD, hb, c0, c1, c2, c3, c4⟩ := (Hr.out.below hbel).at_ hlt
        simp only [Value.slice.injEq] at e
        obtain ⟨rfl, _, rfl⟩ := e
        obtain ⟨hz1, hz2⟩ := Hz.out _ (List.getElem_mem hlt)
        have Hs := Lib.hid (sizeSum_snoc ss k hlt)
        generalize ss[k] = s at *
        obtain ⟨sk, sm, sl, sn, sv⟩ := s
        dsimp only at c0 c1 c2 c3 c4 hz1 hz2
        generalize sizeSum (ss.take k) = m at *
        have Hs2 := Lib.hid (show sizeSum (ss.take (k + 1)) = m + (3 + sm.length + sn.length) from Hs.out)
        clear hb1 Hs
        go_wp2_with fail
        go_roundw
        case rel => exact ⟨k + 1, by omega, by go_num, by rw [Hs2.out]; go_num, by (repeat (with_reducible first | exact Below.refl _ _ | assumption | refine ba ?_ _ | refine bd ?_ | refine bdN ?_ _ | refine bs ?_ (by first | exact Nat.le_refl _ | (dsimp only; omega) | (simp; done)) _ | refine bt ?_ (by assumption)))⟩
        case measure => simp [intOf]; omega
      · obtain rfl : k = ss.length := by omega
        have Hf := Lib.hid (show ((sizeSum (ss.take ss.length) : Nat) : Int) = bodySize ss by rw [List.take_length, Hv.out])
        go_wp2_with fail
        go_ret
        exact ⟨ret_i64 (by first | exact Hf.out | exact Hv.out.symm), hbel⟩
set_option maxRecDepth 100000 in
set_option maxHeartbeats 400000 in
theorem spec_sizeOf (v : Value) (ss : List Stm) (D : Nat → Prop) (w : World) (hr : StmsIn w D v ss) (hz : Short 8000000 ss) (hb : okBody ss = true) :
    Calls Try.prog 116 #[v] w fun e w' => e = .returned (.int .i64 (sizeSum ss : Nat)) ∧ Below w.heap.size w w' := by
  obtain ⟨aa, ca, rfl, hl, hm⟩ := hr.len
  unfold maxLen at hm
  have Hr := Lib.hid hr
  have Hz := Lib.hid hz
  clear hr hz
  have hs8 := (okBody_all hb).2
  clear hb
  go_enter Try.func116, Try.ntmps116
  go_wp2_with fail
  go_loopw [3, 4] (fun hv iv wr => ∃ i : Nat, i ≤ ss.length ∧ iv = .int .i64 i ∧ hv = .int .i64 (sizeSum (ss.take i) : Nat) ∧ Below w.heap.size w wr) (fun _ iv _ => ss.length - (intOf iv).toNat)
  case atStart => exact ⟨0, by omega, rfl, rfl, Below.refl _ _⟩
  case round =>
    obtain ⟨k, hk, rfl, rfl, hbel⟩ := hrel
    have hN := size_take Hz.out hs8 k hk
    by_cases hlt : k < ss.length
    · obtain ⟨b, off, cap, e, hD, hb, c0, c1, c2, c3, c4⟩ := (Hr.out.below hbel).at_ hlt
      simp only [Value.slice.injEq] at e
      obtain ⟨rfl, _, rfl⟩ := e
      obtain ⟨hz1, hz2⟩ := Hz.out _ (List.getElem_mem hlt)
      have Hs := Lib.hid (sizeSum_snoc ss k hlt)
      generalize ss[k] = s at *
      obtain ⟨sk, sm, sl, sn, sv⟩ := s
      dsimp only at c0 c1 c2 c3 c4 hz1 hz2
      generalize sizeSum (ss.take k) = m at *
      have Hs2 := Lib.hid (show sizeSum (ss.take (k + 1)) = m + (3 + sm.length + sn.length) from Hs.out)
      clear Hs
      go_wp2_with fail
      go_quiet (fail)
      go_wp2_with fail
      go_roundw
      case rel => exact ⟨k + 1, by omega, by go_num, by rw [Hs2.out]; go_num, by (repeat (with_reducible first | exact Below.refl _ _ | assumption | refine ba ?_ _ | refine bd ?_ | refine bdN ?_ _ | refine bs ?_ (by first | exact Nat.le_refl _ | (dsimp only; omega) | (simp; done)) _ | refine bt ?_ (by assumption)))⟩
      case measure => simp [intOf]; omega
    · obtain rfl : k = ss.length := by omega
      rw [List.take_length]
      go_wp2_with fail
      go_ret
      exact ⟨rfl, hbel⟩
end Go.Proofs.Ytomdmkhgkaalnaa
