/- Contracts of the laws' own look at a list of texts. -/
import Derived.Test.YtcmnldomcpjlcaaGreatTools
import Derived.Test.YtcmnldomcpjlcaaGreatSorts
import Derived.Lib.QuietBelow
import Derived.BigQuiet
set_option linter.unusedVariables false
set_option linter.unusedSimpArgs false
namespace Go.Proofs.YtcmnldomcpjlcaaGreat
open Go.RowKit Go.Proofs.YtcmnldomcpjlcaaGreat.Nm

def TextAt (xs : List Bs) (s : Bs) (w : World) (e : Ending) (w' : World) : Prop :=
  ∃ j : Int, e = .returned (.int .i64 j) ∧ ((0 ≤ j ∧ s ∈ xs) ∨ (j < 0 ∧ s ∉ xs)) ∧ -1 ≤ j ∧ j ≤ 10000000 ∧ w = w'

set_option maxRecDepth 100000 in
set_option maxHeartbeats 400000 in
theorem laws_textAt (v : Value) (xs : List Bs) (s : Bs) (w : World) (hr : Reads w v xs) (hx : xs.length ≤ 9500000) :
    Calls Tryz.prog 53 #[v, .string (mk s)] w (TextAt xs s w) := by
  obtain ⟨aa, ca, rfl⟩ : ∃ a c, v = .slice a xs.length c := by
    rcases hr with ⟨rfl, rfl⟩ | ⟨b, off, cap, rfl, _⟩ <;> exact ⟨_, _, rfl⟩
  have Hr := Lib.hid hr
  clear hr
  go_enter Tryz.func53, Tryz.ntmps53
  go_wp2_with fail
  go_loop [5] (fun kv => ∃ k : Nat, k ≤ xs.length ∧ kv = .int .i64 k ∧ ∀ i (h : i < xs.length), i < k → xs[i] ≠ s) (fun kv => xs.length - (intOf kv).toNat)
  case atStart => exact ⟨0, by omega, rfl, fun i _ h => absurd h (by omega)⟩
  case round =>
    obtain ⟨k, hk, rfl, ha⟩ := hrel
    have Ha := Lib.hid ha
    clear ha
    by_cases hlt : k < xs.length
    · obtain ⟨b1, o1, c1, e1, hl1, hm1, hb1, hc1⟩ := Reads.some Hr.out (by omega)
      simp only [Value.slice.injEq] at e1
      obtain ⟨rfl, _, rfl⟩ := e1
      have hcell := hc1 k hlt
      clear hc1
      by_cases heq : xs[k] = s
      · have Hm := Lib.hid (show s ∈ xs by rw [← heq]; exact List.getElem_mem hlt)
        rw [heq] at hcell
        clear heq
        go_wp2_with fail
        go_ret
        exact ⟨k, rfl, .inl ⟨by omega, Hm.out⟩, by omega, by omega, rfl⟩
      · have hne : (xs[k] == s) = false := by simpa using heq
        have Heq := Lib.hid heq
        clear heq
        go_wp2_with fail
        go_round
        case rel =>
          refine ⟨k + 1, by omega, by go_num, fun i h hi => ?_⟩
          by_cases e : i = k
          · subst e; exact Heq.out
          · exact Ha.out i h (by omega)
        case measure => simp [intOf]; omega
    · have Hm := Lib.hid (show s ∉ xs from fun hm => by
        obtain ⟨i, hi, e⟩ := List.getElem_of_mem hm
        exact Ha.out i hi (by omega) e)
      go_wp2_with fail
      go_ret
      exact ⟨-1, rfl, .inr ⟨by omega, Hm.out⟩, by omega, by omega, rfl⟩

set_option maxRecDepth 100000 in
set_option maxHeartbeats 400000 in
theorem laws_hasText (v : Value) (xs : List Bs) (s : Bs) (w : World) (hr : Reads w v xs) (hx : xs.length ≤ 9500000) :
    Calls Tryz.prog 50 #[v, .string (mk s)] w fun e w' => e = .returned (.bool (decide (s ∈ xs))) ∧ w = w' := by
  go_enter Tryz.func50, Tryz.ntmps50
  go_wp2_with fail
  refine (laws_textAt v xs s w hr hx).mono ?_
  rintro e w1 ⟨j, rfl, hj, hj1, hj2, rfl⟩
  rcases hj with ⟨h1, h2⟩ | ⟨h1, h2⟩
  · have H2 := Lib.hid (decide_eq_true h2)
    clear h2
    go_wp2_with fail
    go_ret
    rw [H2.out]
    exact ⟨ret_bool (by simp; try omega), rfl⟩
  · have H2 := Lib.hid (decide_eq_false h2)
    clear h2
    go_wp2_with fail
    go_ret
    rw [H2.out]
    exact ⟨ret_bool (by simp; try omega), rfl⟩

def TextAtX (xs : List Bs) (s : Bs) (w : World) (e : Ending) (w' : World) : Prop :=
  ∃ j : Int, e = .returned (.int .i64 j) ∧ w = w' ∧ ((∃ k : Nat, j = (k : Int) ∧ xs[k]? = some s ∧ ∀ i, i < k → xs[i]? ≠ some s) ∨ (j = -1 ∧ s ∉ xs))
/-- In a list that has each text once. -/
theorem TextAtX.nodup {xs : List Bs} {w w' : World} {e : Ending} {i : Nat} (hi : i < xs.length) (hn : xs.Nodup) (h : TextAtX xs xs[i] w e w') : e = .returned (.int .i64 (i : Int)) ∧ w = w' := by
  obtain ⟨j, rfl, rfl, ⟨k, rfl, hk, _⟩ | ⟨_, h⟩⟩ := h
  · obtain ⟨hkl, e⟩ := List.getElem?_eq_some_iff.1 hk
    have hp := List.pairwise_iff_getElem.1 hn
    have : k = i := by
      rcases Nat.lt_trichotomy k i with h | h | h
      · exact absurd e (hp k i hkl hi h)
      · exact h
      · exact absurd e.symm (hp i k hi hkl h)
    rw [this]; exact ⟨rfl, rfl⟩
  · exact absurd (List.getElem_mem hi) h

set_option maxRecDepth 100000 in
set_option maxHeartbeats 400000 in
theorem laws_textAtX (v : Value) (xs : List Bs) (s : Bs) (w : World) (hr : Reads w v xs) (hx : xs.length ≤ 9500000) :
    Calls Tryz.prog 53 #[v, .string (mk s)] w (TextAtX xs s w) := by
  obtain ⟨aa, ca, rfl⟩ : ∃ a c, v = .slice a xs.length c := by
    rcases hr with ⟨rfl, rfl⟩ | ⟨b, off, cap, rfl, _⟩ <;> exact ⟨_, _, rfl⟩
  have Hr := Lib.hid hr
  clear hr
  go_enter Tryz.func53, Tryz.ntmps53
  go_wp2_with fail
  go_loop [5] (fun kv => ∃ k : Nat, k ≤ xs.length ∧ kv = .int .i64 k ∧ ∀ i (h : i < xs.length), i < k → xs[i] ≠ s) (fun kv => xs.length - (intOf kv).toNat)
  case atStart => exact ⟨0, by omega, rfl, fun i _ h => absurd h (by omega)⟩
  case round =>
    obtain ⟨k, hk, rfl, ha⟩ := hrel
    have Ha := Lib.hid ha
    clear ha
    by_cases hlt : k < xs.length
    · obtain ⟨b1, o1, c1, e1, hl1, hm1, hb1, hc1⟩ := Reads.some Hr.out (by omega)
      simp only [Value.slice.injEq] at e1
      obtain ⟨rfl, _, rfl⟩ := e1
      have hcell := hc1 k hlt
      clear hc1
      by_cases heq : xs[k] = s
      · have Hm := Lib.hid (show xs[k]? = some s ∧ True from ⟨by rw [List.getElem?_eq_getElem hlt, heq], trivial⟩)
        rw [heq] at hcell
        clear heq
        go_wp2_with fail
        go_ret
        exact ⟨k, rfl, rfl, .inl ⟨k, rfl, Hm.out.1, fun i hi e => by
          have hil : i < xs.length := by omega
          rw [List.getElem?_eq_getElem hil] at e
          exact Ha.out i hil hi (Option.some.inj e)⟩⟩
      · have hne : (xs[k] == s) = false := by simpa using heq
        have Heq := Lib.hid heq
        clear heq
        go_wp2_with fail
        go_round
        case rel =>
          refine ⟨k + 1, by omega, by go_num, fun i h hi => ?_⟩
          by_cases e : i = k
          · subst e; exact Heq.out
          · exact Ha.out i h (by omega)
        case measure => simp [intOf]; omega
    · have Hm := Lib.hid (show s ∉ xs from fun hm => by
        obtain ⟨i, hi, e⟩ := List.getElem_of_mem hm
        exact Ha.out i hi (by omega) e)
      go_wp2_with fail
      go_ret
      exact ⟨-1, rfl, rfl, .inr ⟨rfl, Hm.out⟩⟩

/-! ### The contract of the laws' own look whether texts ascend. -/
set_option maxRecDepth 100000 in
set_option maxHeartbeats 1000000 in
theorem laws_rises (v : Value) (xs : List Bs) (w : World) (hr : Reads w v xs) (hx : xs.length ≤ 9500000) (hu : Up xs) :
    Calls Tryz.prog 45 #[v] w fun e w' => e = .returned (.bool true) ∧ Below w.heap.size w w' := by
  obtain ⟨aa, ca, rfl⟩ : ∃ a c, v = .slice a xs.length c := by
    rcases hr with ⟨rfl, rfl⟩ | ⟨b, off, cap, rfl, _⟩ <;> exact ⟨_, _, rfl⟩
  have Hr := Lib.hid hr
  have Hu := Lib.hid (List.pairwise_iff_getElem.1 hu)
  clear hr hu
  go_enter Tryz.func45, Tryz.ntmps45
  go_wp2_with fail
  go_loopw [3] (fun kv wr => ∃ k : Nat, 1 ≤ k ∧ k ≤ xs.length + 1 ∧ kv = .int .i64 k ∧ Below w.heap.size w wr) (fun kv _ => xs.length + 1 - (intOf kv).toNat)
  case atStart => exact ⟨1, by omega, by omega, rfl, Below.refl _ _⟩
  case round =>
    obtain ⟨k, hk1, hk, rfl, hbel⟩ := hrel
    by_cases hlt : k < xs.length
    · obtain ⟨b1, o1, c1, e1, _, _, hb1, hc1⟩ := Reads.some Hr.out (by omega)
      simp only [Value.slice.injEq] at e1
      obtain ⟨rfl, _, rfl⟩ := e1
      have hce1 := (hbel.cell (p := ⟨b1, o1 + k, none⟩) hb1).trans (hc1 k hlt)
      have hce2 := (hbel.cell (p := ⟨b1, o1 + (k - 1), none⟩) hb1).trans (hc1 (k - 1) (by omega))
      have hup := Hu.out (k - 1) k (by omega) hlt (by omega)
      have hki : (k : Int) < (xs.length : Int) := by omega
      have hk0 : (0 : Int) ≤ (k : Int) := by omega
      have hi2 : (0 : Int) ≤ (k : Int) - 1 := by omega
      have hi3 : (k : Int) - 1 < (xs.length : Int) := by omega
      have hi4 : ((k : Int) - 1).toNat = k - 1 := by omega
      have hi5 : IntKind.i64.wrap ((k : Int) - 1) = (k : Int) - 1 := IntWalk.i64_in _ (by omega)
      clear hc1
      generalize xs[k] = y at *
      generalize xs[k - 1] = x at *
      have hbl : Op.bytesLess y x = false := by
        rw [Nm.bytesLess_eq]
        cases h : ltB y x with
        | false => rfl
        | true => have := ltB_tr h hup; rw [ltB_irr] at this; cases this
      have hne : (y == x) = false := by
        rw [beq_eq_false_iff_ne]
        rintro rfl
        rw [ltB_irr] at hup; cases hup
      clear hup
      go_wp2_with fail
      go_quiet (fail)
      go_wp2_with fail
      go_roundw
      case rel => exact ⟨k + 1, by omega, by omega, by go_num, below_drewN hbel _⟩
      case measure => simp [intOf]; omega
    · go_wp2_with fail
      go_ret
      exact ⟨rfl, hbel⟩
set_option maxRecDepth 100000 in
set_option maxHeartbeats 1000000 in
theorem laws_withinTexts (va vb : Value) (xs ys : List Bs) (w : World) (ha : Reads w va xs) (hb : Reads w vb ys) (hx : xs.length ≤ 9000000) (hy : ys.length ≤ 9000000) (hw : ∀ x ∈ xs, x ∈ ys) :
    Calls Tryz.prog 42 #[va, vb] w fun e w' => e = .returned (.bool true) ∧ w = w' := by
  obtain ⟨aa, ca, rfl⟩ : ∃ a c, va = .slice a xs.length c := by
    rcases ha with ⟨rfl, rfl⟩ | ⟨b, off, cap, rfl, _⟩ <;> exact ⟨_, _, rfl⟩
  have Ha := Lib.hid ha
  have Hb := Lib.hid hb
  have Hw := Lib.hid hw
  clear ha hb hw
  go_enter Tryz.func42, Tryz.ntmps42
  go_wp2_with fail
  go_loop [5] (fun kv => ∃ k : Nat, k ≤ xs.length ∧ kv = .int .i64 k) (fun kv => xs.length - (intOf kv).toNat)
  case atStart => exact ⟨0, by omega, rfl⟩
  case round =>
    obtain ⟨k, hk, rfl⟩ := hrel
    by_cases hlt : k < xs.length
    · obtain ⟨b1, o1, c1, e1, hl1, hm1, hb1, hc1⟩ := Reads.some Ha.out (by omega)
      simp only [Value.slice.injEq] at e1
      obtain ⟨rfl, _, rfl⟩ := e1
      have hcell := hc1 k hlt
      have Hm := Lib.hid (decide_eq_true (Hw.out _ (List.getElem_mem hlt)))
      clear hc1
      generalize xs[k] = x at *
      go_wp2_with fail
      refine (laws_hasText vb ys x _ Hb.out (by omega)).mono ?_
      rintro _ _ ⟨rfl, rfl⟩
      rw [Hm.out]
      go_wp2_with fail
      go_round
      case rel => exact ⟨k + 1, by omega, by go_num⟩
      case measure => simp [intOf]; omega
    · go_wp2_with fail
      go_ret
      exact ⟨rfl, rfl⟩
end Go.Proofs.YtcmnldomcpjlcaaGreat
