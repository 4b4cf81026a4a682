/- Contracts of the functions that join parts with dots. -/
import Derived.Test.YtolhgklbkjdpiaaGreatValid
set_option linter.unusedVariables false
set_option linter.unusedSimpArgs false
namespace Go.Proofs.YtolhgklbkjdpiaaGreat
open Go.RowKit Go.Proofs.YtolhgklbkjdpiaaGreat.Nm

set_option maxRecDepth 100000 in
set_option maxHeartbeats 400000 in
theorem impl_joinWithDots (v : Value) (xs : List Bs) (w : World) (hr : Reads w v xs) (hn : xs.length ≤ 100) (hsz : ∀ p ∈ xs, p.length ≤ 1000) :
    Calls Tryz.prog 73 #[v] w fun e w' => e = .returned (.string (mk (jn xs))) ∧ w = w' := by
  rcases hr with ⟨rfl, rfl⟩ | ⟨b, off, cap, rfl, hl, hm, hb, hc⟩
  · go_enter Tryz.func73, Tryz.ntmps73
    go_wp2_with fail
    go_loop [3, 8] (fun tv kv => kv = .int .i64 0 ∧ tv = .string (mk [])) (fun _ _ => 0)
    case atStart => exact ⟨rfl, rfl⟩
    case round =>
      obtain ⟨rfl, rfl⟩ := hrel
      go_wp2_with fail
      go_ret
      exact ⟨rfl, rfl⟩
  · go_enter Tryz.func73, Tryz.ntmps73
    go_wp2_with fail
    go_loop [3, 8] (fun tv kv => ∃ k : Nat, k ≤ xs.length ∧ kv = .int .i64 k ∧ tv = .string (mk (jn (xs.take k)))) (fun _ kv => xs.length - (intOf kv).toNat)
    case atStart => exact ⟨0, by omega, rfl, rfl⟩
    case round =>
      obtain ⟨k, hk, rfl, rfl⟩ := hrel
      by_cases hlt : k < xs.length
      · have hcell := hc k hlt
        have hs1 := hsz _ (List.getElem_mem hlt)
        have hlen := jn_len (xs.take k) 1000 (fun p hp => hsz p (List.mem_of_mem_take hp))
        have hlk : (xs.take k).length * (1000 + 1) ≤ 100 * 1001 := Nat.mul_le_mul_right _ (by simp; omega)
        have hj := Lib.hid (jn_snoc xs k hlt)
        have Hc := Lib.hid hc
        have Hz := Lib.hid hsz
        clear hc hsz
        have hlen' := Nat.le_trans hlen hlk
        clear hlen hlk
        generalize jn (xs.take k) = t at *
        generalize xs[k] = p at *
        have fin : ∀ (q : Bs), q = jstep t p → Value.string (mk q) = Value.string (mk (jn (xs.take (k + 1)))) := fun q hq => by rw [hj.out, hq]
        have Fin := Lib.hid fin
        clear fin
        by_cases ht : t = []
        · subst ht
          go_wp2_with fail
          go_round
          case rel => exact ⟨k + 1, by omega, by go_num, Fin.out _ (by simp [jstep])⟩
          case measure => simp [intOf]; omega
        · have ht' : t.isEmpty = false := by simpa using ht
          by_cases hp : p = []
          · subst hp
            go_wp2_with fail
            go_round
            case rel => exact ⟨k + 1, by omega, by go_num, Fin.out _ (by simp [jstep])⟩
            case measure => simp [intOf]; omega
          · have hp' : p.isEmpty = false := by simpa using hp
            go_wp2_with fail
            go_round
            case rel => exact ⟨k + 1, by omega, by go_num, Fin.out _ (by rw [jstep, ht', hp']; simp)⟩
            case measure => simp [intOf]; omega
      · have E := Lib.hid (congrArg mk (congrArg jn (List.take_of_length_le (by omega : xs.length ≤ k))))
        clear hc hsz
        go_wp2_with fail
        go_ret
        exact ⟨ret_str E.out, rfl⟩

set_option maxRecDepth 100000 in
set_option maxHeartbeats 400000 in
theorem spec_join (v : Value) (xs : List Bs) (w : World) (hr : Reads w v xs) (hn : xs.length ≤ 9500000) (hz : (join xs).length ≤ 9500000) :
    Calls Tryz.prog 57 #[v] w fun e w' => e = .returned (.string (mk (join xs))) ∧ w = w' := by
  rcases hr with ⟨rfl, rfl⟩ | ⟨b, off, cap, rfl, hl, hm, hb, hc⟩
  · go_enter Tryz.func57, Tryz.ntmps57
    go_wp2_with fail
    go_loop [3, 4] (fun tv kv => kv = .int .i64 0 ∧ tv = .string (mk [])) (fun _ _ => 0)
    case atStart => exact ⟨rfl, rfl⟩
    case round =>
      obtain ⟨rfl, rfl⟩ := hrel
      go_wp2_with fail
      go_ret
      exact ⟨rfl, rfl⟩
  · go_enter Tryz.func57, Tryz.ntmps57
    go_wp2_with fail
    go_loop [3, 4] (fun tv kv => ∃ k : Nat, k ≤ xs.length ∧ kv = .int .i64 k ∧ tv = .string (mk (join (xs.take k)))) (fun _ kv => xs.length - (intOf kv).toNat)
    case atStart => exact ⟨0, by omega, rfl, rfl⟩
    case round =>
      obtain ⟨k, hk, rfl, rfl⟩ := hrel
      by_cases hlt : k < xs.length
      · have hcell := hc k hlt
        have hj := join_snoc xs k hlt
        have Hc := Lib.hid hc
        clear hc
        by_cases h0 : k = 0
        · subst h0
          have hcell0 : w.cell? ⟨b, off, none⟩ = some (.string (mk xs[0])) := by simpa using hcell
          have hb1 : (join (xs.take 1)).length ≤ 9500000 := Nat.le_trans (join_take_le xs 1) hz
          rw [hj] at hb1
          simp only [if_true, List.nil_append, Nat.zero_add] at hb1
          clear hcell
          have fin : ∀ (q : Bs), q = xs[0] → Value.string (mk q) = Value.string (mk (join (xs.take (0 + 1)))) := fun q hq => by rw [hj, hq]; rfl
          have Fin := Lib.hid fin
          clear fin hj
          rw [show join (xs.take 0) = [] from rfl]
          generalize xs[0] = p at *
          go_wp2_with fail
          go_round
          case rel => exact ⟨1, by omega, rfl, Fin.out _ (by simp [join])⟩
          case measure => simp [intOf]; omega
        · rw [if_neg h0] at hj
          have hk0 : (0 : Int) < (k : Int) := by omega
          have hb1 : (join (xs.take (k + 1))).length ≤ 9500000 := Nat.le_trans (join_take_le xs (k + 1)) hz
          rw [hj] at hb1
          simp only [List.length_append] at hb1
          have fin : ∀ (q : Bs), q = join (xs.take k) ++ [46] ++ xs[k] → Value.string (mk q) = Value.string (mk (join (xs.take (k + 1)))) := fun q hq => by rw [hj, hq]
          have Fin := Lib.hid fin
          clear fin hj h0
          generalize join (xs.take k) = t at *
          generalize xs[k] = p at *
          go_wp2_with fail
          go_round
          case rel => exact ⟨k + 1, by omega, by go_num, Fin.out _ (by simp)⟩
          case measure => simp [intOf]; omega
      · have E := Lib.hid (congrArg mk (congrArg join (List.take_of_length_le (by omega : xs.length ≤ k))))
        clear hc
        go_wp2_with fail
        go_ret
        exact ⟨ret_str E.out, rfl⟩
end Go.Proofs.YtolhgklbkjdpiaaGreat
