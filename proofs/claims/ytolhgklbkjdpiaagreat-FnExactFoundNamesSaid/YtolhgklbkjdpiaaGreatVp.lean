/- Contracts of the functions that ask for a part of a name: the program's and the model's both say whether a text is one to three letters from a to z. -/
import Derived.Test.YtolhgklbkjdpiaaGreatTools
set_option linter.unusedVariables false
set_option linter.unusedSimpArgs false
namespace Go.Proofs.YtolhgklbkjdpiaaGreat
open Go.RowKit Go.Proofs.YtolhgklbkjdpiaaGreat.Nm

set_option maxRecDepth 100000 in
set_option maxHeartbeats 400000 in
theorem impl_ValidPart (l : Bs) (w : World) (hs : l.length ≤ 9000000) :
    Calls Tryz.prog 114 #[.string (mk l)] w fun e w' => e = .returned (.bool (vp l)) ∧ Below w.heap.size w w' := by
  by_cases h0 : l = []
  · subst h0
    go_enter Tryz.func114, Tryz.ntmps114
    go_wp2_with fail
    go_ret
    exact ⟨rfl, Below.refl _ _⟩
  · have hd : l.isEmpty = false := by simpa using h0
    by_cases h3 : 3 < l.length
    · have hv := Lib.hid (vp_long l h3)
      have h3' : (3 : Int) < (l.length : Int) := by omega
      go_enter Tryz.func114, Tryz.ntmps114
      go_wp2_with fail
      go_ret
      rw [hv.out]
      exact ⟨rfl, Below.refl _ _⟩
    · have h3' : ¬ (3 : Int) < (l.length : Int) := by omega
      have hpos : 1 ≤ l.length := by cases l with
        | nil => exact absurd rfl h0
        | cons => simp
      go_enter Tryz.func114, Tryz.ntmps114
      go_wp2_with fail
      go_loopw [] (fun wr => ∃ pos, pos ≤ l.length ∧ wr = w.iter (mk l) pos ∧ (l.take pos).all lower = true) (fun wr => l.length - wr.iterPos w.heap.size)
      case atStart => exact ⟨0, by omega, rfl, by simp⟩
      case round =>
        obtain ⟨pos, hp, rfl, ha⟩ := hrel
        have Ha := Lib.hid ha
        clear ha
        by_cases hlt : pos < l.length
        · have hlt' : pos < (mk l).size := by rw [mk_size]; exact hlt
          have hnx : ∀ ty, (Instr.next (.pointer (some ⟨w.heap.size, 0, none⟩)) true ty).run Tryz.prog (w.iter (mk l) pos) = _ := fun ty => run_next_any w (mk l) pos ty hlt'
          have hbw : ∀ q, Below w.heap.size w (w.iter (mk l) q) := fun q => (Below.refl _ _).alloc (Nat.le_refl _) _
          by_cases hc : lower l[pos] = true
          · have hr := (lower_iff _).1 hc
            have hnx2 := Lib.hid (decode_ascii (mk l) pos hlt' (by rw [mk_get]; omega))
            rw [mk_get] at hnx2
            rw [hnx2.out] at hnx
            have Hn := Lib.hid (all_take_succ l pos hlt Ha.out hc)
            have Hb := Lib.hid hbw
            clear hc hnx2 hbw
            dsimp only at hnx
            generalize l[pos] = c at *
            go_wp2
            go_roundw
            case rel => exact ⟨pos + 1, by omega, rfl, Hn.out⟩
            case measure => simp; omega
          · have hv := Lib.hid (vp_false_at l pos hlt (Bool.eq_false_iff.2 hc))
            have hd : ¬ (97 ≤ ((Utf8.decode (mk l) pos).1 : Int) ∧ ((Utf8.decode (mk l) pos).1 : Int) ≤ 122) := by
              by_cases hasc : (l[pos]).toNat < 128
              · have := decode_ascii (mk l) pos hlt' (by rw [mk_get]; exact hasc)
                rw [mk_get] at this
                rw [this]
                exact fun h => hc ((lower_iff _).2 h)
              · have := decode_high (mk l) pos hlt' (by rw [mk_get]; omega)
                omega
            clear hc
            have Hb := Lib.hid hbw
            clear hbw
            generalize (Utf8.decode (mk l) pos).1 = r at *
            by_cases h97 : (r : Int) < 97
            · go_wp2
              go_ret
              rw [hv.out]
              exact ⟨rfl, Hb.out _⟩
            · have h122 : (122 : Int) < (r : Int) := by omega
              go_wp2
              go_ret
              rw [hv.out]
              exact ⟨rfl, Hb.out _⟩
        · have hnx : ∀ ty, (Instr.next (.pointer (some ⟨w.heap.size, 0, none⟩)) true ty).run Tryz.prog (w.iter (mk l) pos) = _ := fun ty => run_next_end w (mk l) pos ty (by rw [mk_size]; exact hlt)
          have hv := Lib.hid (vp_true_of l hpos (by omega) (by have := Ha.out; rwa [List.take_of_length_le (by omega)] at this))
          go_wp2
          go_ret
          rw [hv.out]
          exact ⟨rfl, (Below.refl _ _).alloc (Nat.le_refl _) _⟩

set_option maxHeartbeats 400000 in
theorem spec_inRange (n lo hi : Int) (w : World) :
    Calls Tryz.prog 50 #[.int .i64 n, .int .i64 lo, .int .i64 hi] w fun e w' => e = .returned (.bool (decide (lo ≤ n) && decide (n ≤ hi))) ∧ w = w' := by
  by_cases h1 : lo ≤ n
  · by_cases h2 : n ≤ hi
    · go_enter Tryz.func50, Tryz.ntmps50
      go_wp2
      go_ret
      exact ⟨ret_bool (by simp [h1, h2]), rfl⟩
    · go_enter Tryz.func50, Tryz.ntmps50
      go_wp2
      go_ret
      exact ⟨ret_bool (by simp [h1, h2]), rfl⟩
  · go_enter Tryz.func50, Tryz.ntmps50
    go_wp2
    go_ret
    exact ⟨ret_bool (by rw [decide_eq_false (Int.not_le.2 (by omega : n < lo))]; rfl), rfl⟩

set_option maxRecDepth 100000 in
set_option maxHeartbeats 400000 in
theorem spec_validPart (l : Bs) (w : World) (hs : l.length ≤ 9000000) :
    Calls Tryz.prog 80 #[.string (mk l)] w fun e w' => e = .returned (.bool (vp l)) ∧ w = w' := by
  by_cases h3 : 1 ≤ l.length ∧ l.length ≤ 3
  · have hr : (decide ((1 : Int) ≤ (l.length : Int)) && decide ((l.length : Int) ≤ 3)) = true := by simp; omega
    have Hr := Lib.hid hr
    clear hr
    go_enter Tryz.func80, Tryz.ntmps80
    go_wp2_with fail
    refine (spec_inRange _ _ _ _).mono ?_
    rintro e w' ⟨rfl, rfl⟩
    rw [Hr.out]
    go_wp2_with fail
    go_loop [3] (fun i => ∃ k : Nat, k ≤ l.length ∧ i = .int .i64 k ∧ (l.take k).all lower = true) (fun i => l.length - (intOf i).toNat)
    case atStart => exact ⟨0, by omega, rfl, by simp⟩
    case round =>
      obtain ⟨k, hk, rfl, ha⟩ := hrel
      have Ha := Lib.hid ha
      clear ha
      by_cases hlt : k < l.length
      · have hlt' : k < (mk l).size := by rw [mk_size]; exact hlt
        have hg := mk_get l k hlt'
        by_cases hc : lower l[k] = true
        · have hr := (lower_iff _).1 hc
          have Hn := Lib.hid (all_take_succ l k hlt Ha.out hc)
          clear hc
          generalize l[k] = c at *
          go_wp2_with fail
          go_round
          case rel => exact ⟨k + 1, by omega, by go_num, Hn.out⟩
          case measure => simp [intOf]; omega
        · have hv := Lib.hid (vp_false_at l k hlt (Bool.eq_false_iff.2 hc))
          have hr : ¬ (97 ≤ ((l[k]).toNat : Int) ∧ ((l[k]).toNat : Int) ≤ 122) := fun h => hc ((lower_iff _).2 h)
          clear hc
          generalize l[k] = c at *
          by_cases h97 : (c.toNat : Int) < 97
          · go_wp2_with fail
            go_ret
            rw [hv.out]
            exact ⟨rfl, rfl⟩
          · have h122 : (122 : Int) < (c.toNat : Int) := by omega
            go_wp2_with fail
            go_ret
            rw [hv.out]
            exact ⟨rfl, rfl⟩
      · have hv := Lib.hid (vp_true_of l (by omega) (by omega) (by have := Ha.out; rwa [List.take_of_length_le (by omega)] at this))
        go_wp2_with fail
        go_ret
        rw [hv.out]
        exact ⟨rfl, rfl⟩
  · have hr : (decide ((1 : Int) ≤ (l.length : Int)) && decide ((l.length : Int) ≤ 3)) = false := by
      rw [Bool.eq_false_iff]; simp; omega
    have Hr := Lib.hid hr
    have hv : vp l = false := by
      rw [Bool.eq_false_iff]; intro h; exact h3 (vp_len h)
    have Hv := Lib.hid hv
    clear hr hv
    go_enter Tryz.func80, Tryz.ntmps80
    go_wp2_with fail
    refine (spec_inRange _ _ _ _).mono ?_
    rintro e w' ⟨rfl, rfl⟩
    rw [Hr.out]
    go_wp2_with fail
    go_ret
    rw [Hv.out]
    exact ⟨rfl, rfl⟩

end Go.Proofs.YtolhgklbkjdpiaaGreat
