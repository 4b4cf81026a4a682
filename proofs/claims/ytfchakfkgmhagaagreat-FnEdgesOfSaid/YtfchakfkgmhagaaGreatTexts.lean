/- Contracts of the laws' own look at a list of texts. -/
import Derived.Test.YtfchakfkgmhagaaGreatTools
set_option linter.unusedVariables false
set_option linter.unusedSimpArgs false
namespace Go.Proofs.YtfchakfkgmhagaaGreat
open Go.RowKit Go.Proofs.YtfchakfkgmhagaaGreat.Nm

def TextAt (xs : List Bs) (s : Bs) (w : World) (e : Ending) (w' : World) : Prop :=
  ∃ j : Int, e = .returned (.int .i64 j) ∧ ((0 ≤ j ∧ s ∈ xs) ∨ (j < 0 ∧ s ∉ xs)) ∧ -1 ≤ j ∧ j ≤ 10000000 ∧ w = w'

set_option maxRecDepth 100000 in
set_option maxHeartbeats 400000 in
theorem laws_textAt (v : Value) (xs : List Bs) (s : Bs) (w : World) (hr : Reads w v xs) (hx : xs.length ≤ 9500000) :
    Calls Tryz.prog 51 #[v, .string (mk s)] w (TextAt xs s w) := by
  obtain ⟨aa, ca, rfl⟩ : ∃ a c, v = .slice a xs.length c := by
    rcases hr with ⟨rfl, rfl⟩ | ⟨b, off, cap, rfl, _⟩ <;> exact ⟨_, _, rfl⟩
  have Hr := Lib.hid hr
  clear hr
  go_enter Tryz.func51, Tryz.ntmps51
  go_wp2_with fail
  go_loop [5] (fun kv => ∃ k : Nat, k ≤ xs.length ∧ kv = .int .i64 k ∧ ∀ i (h : i < xs.length), i < k → xs[i] ≠ s) (fun kv => xs.length - (intOf kv).toNat)
  case atStart => exact ⟨0, by omega, rfl, fun i _ h => absurd h (by omega)⟩
  case round =>
    obtain ⟨k, hk, rfl, ha⟩ := hrel
    have Ha := Lib.hid ha
    clear ha
    by_cases hlt : k < xs.length
    · obtain ⟨b1, o1, c1, e1, hl1, hm1, hb1, hc1⟩ := Reads.some Hr.out (by omega)
      simp only [Value.slice.injEq] at e1
      obtain ⟨rfl, _, rfl⟩ := e1
      have hcell := hc1 k hlt
      clear hc1
      by_cases heq : xs[k] = s
      · have Hm := Lib.hid (show s ∈ xs by rw [← heq]; exact List.getElem_mem hlt)
        rw [heq] at hcell
        clear heq
        go_wp2_with fail
        go_ret
        exact ⟨k, rfl, .inl ⟨by omega, Hm.out⟩, by omega, by omega, rfl⟩
      · have hne : (xs[k] == s) = false := by simpa using heq
        have Heq := Lib.hid heq
        clear heq
        go_wp2_with fail
        go_round
        case rel =>
          refine ⟨k + 1, by omega, by go_num, fun i h hi => ?_⟩
          by_cases e : i = k
          · subst e; exact Heq.out
          · exact Ha.out i h (by omega)
        case measure => simp [intOf]; omega
    · have Hm := Lib.hid (show s ∉ xs from fun hm => by
        obtain ⟨i, hi, e⟩ := List.getElem_of_mem hm
        exact Ha.out i hi (by omega) e)
      go_wp2_with fail
      go_ret
      exact ⟨-1, rfl, .inr ⟨by omega, Hm.out⟩, by omega, by omega, rfl⟩

set_option maxRecDepth 100000 in
set_option maxHeartbeats 400000 in
theorem laws_hasText (v : Value) (xs : List Bs) (s : Bs) (w : World) (hr : Reads w v xs) (hx : xs.length ≤ 9500000) :
    Calls Tryz.prog 50 #[v, .string (mk s)] w fun e w' => e = .returned (.bool (decide (s ∈ xs))) ∧ w = w' := by
  go_enter Tryz.func50, Tryz.ntmps50
  go_wp2_with fail
  refine (laws_textAt v xs s w hr hx).mono ?_
  rintro e w1 ⟨j, rfl, hj, hj1, hj2, rfl⟩
  rcases hj with ⟨h1, h2⟩ | ⟨h1, h2⟩
  · have H2 := Lib.hid (decide_eq_true h2)
    clear h2
    go_wp2_with fail
    go_ret
    rw [H2.out]
    exact ⟨ret_bool (by simp; try omega), rfl⟩
  · have H2 := Lib.hid (decide_eq_false h2)
    clear h2
    go_wp2_with fail
    go_ret
    rw [H2.out]
    exact ⟨ret_bool (by simp; try omega), rfl⟩

def TextAtX (xs : List Bs) (s : Bs) (w : World) (e : Ending) (w' : World) : Prop :=
  ∃ j : Int, e = .returned (.int .i64 j) ∧ w = w' ∧ ((∃ k : Nat, j = (k : Int) ∧ xs[k]? = some s ∧ ∀ i, i < k → xs[i]? ≠ some s) ∨ (j = -1 ∧ s ∉ xs))
/-- In a list that has each text once. -/
theorem TextAtX.nodup {xs : List Bs} {w w' : World} {e : Ending} {i : Nat} (hi : i < xs.length) (hn : xs.Nodup) (h : TextAtX xs xs[i] w e w') : e = .returned (.int .i64 (i : Int)) ∧ w = w' := by
  obtain ⟨j, rfl, rfl, ⟨k, rfl, hk, _⟩ | ⟨_, h⟩⟩ := h
  · obtain ⟨hkl, e⟩ := List.getElem?_eq_some_iff.1 hk
    have hp := List.pairwise_iff_getElem.1 hn
    have : k = i := by
      rcases Nat.lt_trichotomy k i with h | h | h
      · exact absurd e (hp k i hkl hi h)
      · exact h
      · exact absurd e.symm (hp i k hi hkl h)
    rw [this]; exact ⟨rfl, rfl⟩
  · exact absurd (List.getElem_mem hi) h

set_option maxRecDepth 100000 in
set_option maxHeartbeats 400000 in
theorem laws_textAtX (v : Value) (xs : List Bs) (s : Bs) (w : World) (hr : Reads w v xs) (hx : xs.length ≤ 9500000) :
    Calls Tryz.prog 51 #[v, .string (mk s)] w (TextAtX xs s w) := by
  obtain ⟨aa, ca, rfl⟩ : ∃ a c, v = .slice a xs.length c := by
    rcases hr with ⟨rfl, rfl⟩ | ⟨b, off, cap, rfl, _⟩ <;> exact ⟨_, _, rfl⟩
  have Hr := Lib.hid hr
  clear hr
  go_enter Tryz.func51, Tryz.ntmps51
  go_wp2_with fail
  go_loop [5] (fun kv => ∃ k : Nat, k ≤ xs.length ∧ kv = .int .i64 k ∧ ∀ i (h : i < xs.length), i < k → xs[i] ≠ s) (fun kv => xs.length - (intOf kv).toNat)
  case atStart => exact ⟨0, by omega, rfl, fun i _ h => absurd h (by omega)⟩
  case round =>
    obtain ⟨k, hk, rfl, ha⟩ := hrel
    have Ha := Lib.hid ha
    clear ha
    by_cases hlt : k < xs.length
    · obtain ⟨b1, o1, c1, e1, hl1, hm1, hb1, hc1⟩ := Reads.some Hr.out (by omega)
      simp only [Value.slice.injEq] at e1
      obtain ⟨rfl, _, rfl⟩ := e1
      have hcell := hc1 k hlt
      clear hc1
      by_cases heq : xs[k] = s
      · have Hm := Lib.hid (show xs[k]? = some s ∧ True from ⟨by rw [List.getElem?_eq_getElem hlt, heq], trivial⟩)
        rw [heq] at hcell
        clear heq
        go_wp2_with fail
        go_ret
        exact ⟨k, rfl, rfl, .inl ⟨k, rfl, Hm.out.1, fun i hi e => by
          have hil : i < xs.length := by omega
          rw [List.getElem?_eq_getElem hil] at e
          exact Ha.out i hil hi (Option.some.inj e)⟩⟩
      · have hne : (xs[k] == s) = false := by simpa using heq
        have Heq := Lib.hid heq
        clear heq
        go_wp2_with fail
        go_round
        case rel =>
          refine ⟨k + 1, by omega, by go_num, fun i h hi => ?_⟩
          by_cases e : i = k
          · subst e; exact Heq.out
          · exact Ha.out i h (by omega)
        case measure => simp [intOf]; omega
    · have Hm := Lib.hid (show s ∉ xs from fun hm => by
        obtain ⟨i, hi, e⟩ := List.getElem_of_mem hm
        exact Ha.out i hi (by omega) e)
      go_wp2_with fail
      go_ret
      exact ⟨-1, rfl, rfl, .inr ⟨rfl, Hm.out⟩⟩

end Go.Proofs.YtfchakfkgmhagaaGreat
