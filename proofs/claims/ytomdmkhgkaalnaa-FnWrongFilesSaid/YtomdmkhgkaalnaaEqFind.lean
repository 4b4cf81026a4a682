/- Contracts of the laws' own looks at numbers and at what is found: whether they are equal, whether a list has a number. -/
import Derived.Test.YtomdmkhgkaalnaaInts
set_option linter.unusedVariables false
set_option linter.unusedSimpArgs false
namespace Go.Proofs.Ytomdmkhgkaalnaa
open Go.RowKit Go.Proofs.Ytomdmkhgkaalnaa.Nm

set_option maxRecDepth 100000 in
set_option maxHeartbeats 400000 in
theorem laws_equalInts (va vb : Value) (xs ys : List Int) (w : World) (ha : IntsIn w va xs) (hb : IntsIn w vb ys) :
    Calls Try.prog 49 #[va, vb] w fun e w' => e = .returned (.bool (decide (xs = ys))) ∧ Below w.heap.size w w' := by
  have Ha := Lib.hid ha
  have Hb := Lib.hid hb
  obtain ⟨aa, ca, rfl, hl1, hm1⟩ := ha.len
  obtain ⟨ab, cb, rfl, hl2, hm2⟩ := hb.len
  unfold maxLen at hm1 hm2
  clear ha hb
  by_cases hl : xs.length = ys.length
  · have Hl := Lib.hid hl
    rw [← hl] at hl2 ⊢
    clear hl
    go_enter Try.func49, Try.ntmps49
    go_wp2_with fail
    go_loopw [5] (fun kv wr => ∃ k : Nat, k ≤ xs.length ∧ kv = .int .i64 k ∧ Below w.heap.size w wr ∧ ∀ i (h1 : i < xs.length) (h2 : i < ys.length), i < k → xs[i] = ys[i]) (fun kv _ => xs.length - (intOf kv).toNat)
    case atStart => exact ⟨0, by omega, rfl, Below.refl _ _, fun i _ _ h => absurd h (by omega)⟩
    case round =>
      obtain ⟨k, hk, rfl, hbel, hp⟩ := hrel
      have Hp := Lib.hid hp
      clear hp
      by_cases hlt : k < xs.length
      · have hlt2 : k < ys.length := by rw [← Hl.out]; exact hlt
        obtain ⟨b1, o1, c1, e1, hb1, hc1⟩ := Ha.out.at_ hlt
        obtain ⟨b2, o2, c2, e2, hb2, hc2⟩ := Hb.out.at_ hlt2
        simp only [Value.slice.injEq] at e1 e2
        obtain ⟨rfl, _, rfl⟩ := e1
        obtain ⟨rfl, _, rfl⟩ := e2
        have hce1 := (hbel.cell (p := ⟨b1, o1 + k, none⟩) hb1).trans hc1
        have hce2 := (hbel.cell (p := ⟨b2, o2 + k, none⟩) hb2).trans hc2
        have hki : (k : Int) < (xs.length : Int) := by omega
        have hk0 : (0 : Int) ≤ (k : Int) := by omega
        clear hc1 hc2
        by_cases heq : xs[k] = ys[k]
        · have Heq := Lib.hid heq
          rw [← heq] at hce2
          clear heq
          go_wp2_with fail
          go_quiet (fail)
          go_wp2_with fail
          go_roundw
          case rel =>
            refine ⟨k + 1, by omega, by go_num, below_drewN' hbel _, fun i h1 h2 hi => ?_⟩
            by_cases e : i = k
            · subst e; exact Heq.out
            · exact Hp.out i h1 h2 (by omega)
          case measure => simp [intOf]; omega
        · have hne : (xs[k] == ys[k]) = false := by simpa using heq
          have hv : decide (xs = ys) = false := decide_eq_false (fun e => heq (by subst e; rfl))
          have Hv := Lib.hid hv
          clear hv heq
          generalize xs[k] = p at *
          generalize ys[k] = r at *
          go_wp2_with fail
          go_quiet (fail)
          go_wp2_with fail
          go_ret
          rw [Hv.out]
          exact ⟨rfl, below_drewN' hbel _⟩
      · have hv : decide (xs = ys) = true := decide_eq_true (List.ext_getElem Hl.out (fun i h1 h2 => Hp.out i h1 h2 (by omega)))
        have Hv := Lib.hid hv
        clear hv
        go_wp2_with fail
        go_ret
        rw [Hv.out]
        exact ⟨rfl, hbel⟩
  · have hv : decide (xs = ys) = false := decide_eq_false (fun e => hl (by rw [e]))
    have Hv := Lib.hid hv
    have hlb : ((xs.length : Int) == (ys.length : Int)) = false := by rw [beq_eq_false_iff_ne]; omega
    clear hv hl
    generalize xs.length = n at *
    generalize ys.length = m at *
    go_enter Try.func49, Try.ntmps49
    go_wp2_with fail
    go_ret
    rw [Hv.out]
    exact ⟨rfl, Below.refl _ _⟩


set_option maxRecDepth 100000 in
set_option maxHeartbeats 400000 in
theorem laws_isIn (v : Value) (xs : List Int) (s : Int) (w : World) (hr : IntsIn w v xs) :
    Calls Try.prog 52 #[v, .int .i64 s] w fun e w' => e = .returned (.bool (decide (s ∈ xs))) ∧ w = w' := by
  have Hr := Lib.hid hr
  obtain ⟨aa, ca, rfl, hl, hm⟩ := hr.len
  unfold maxLen at hm
  clear hr
  go_enter Try.func52, Try.ntmps52
  go_wp2_with fail
  go_loop [5] (fun kv => ∃ k : Nat, k ≤ xs.length ∧ kv = .int .i64 k ∧ ∀ i (h : i < xs.length), i < k → xs[i] ≠ s) (fun kv => xs.length - (intOf kv).toNat)
  case atStart => exact ⟨0, by omega, rfl, fun i _ h => absurd h (by omega)⟩
  case round =>
    obtain ⟨k, hk, rfl, ha⟩ := hrel
    have Ha := Lib.hid ha
    clear ha
    by_cases hlt : k < xs.length
    · obtain ⟨b1, o1, c1, e1, hb1, hcell⟩ := Hr.out.at_ hlt
      simp only [Value.slice.injEq] at e1
      obtain ⟨rfl, _, rfl⟩ := e1
      by_cases heq : xs[k] = s
      · have Hm := Lib.hid (show s ∈ xs by rw [← heq]; exact List.getElem_mem hlt)
        rw [heq] at hcell
        clear heq
        go_wp2_with fail
        go_ret
        exact ⟨ret_bool (by simp [Hm.out]), rfl⟩
      · have hne : (xs[k] == s) = false := by simpa using heq
        have Heq := Lib.hid heq
        clear heq
        go_wp2_with fail
        go_round
        case rel =>
          refine ⟨k + 1, by omega, by go_num, fun i h hi => ?_⟩
          by_cases e : i = k
          · subst e; exact Heq.out
          · exact Ha.out i h (by omega)
        case measure => simp [intOf]; omega
    · have Hm := Lib.hid (show s ∉ xs from fun hm => by
        obtain ⟨i, hi, e⟩ := List.getElem_of_mem hm
        exact Ha.out i hi (by omega) e)
      go_wp2_with fail
      go_ret
      exact ⟨ret_bool (by simp [Hm.out]), rfl⟩
end Go.Proofs.Ytomdmkhgkaalnaa
