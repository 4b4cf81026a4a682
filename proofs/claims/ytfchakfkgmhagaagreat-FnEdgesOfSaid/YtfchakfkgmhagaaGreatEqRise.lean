/- The contract of the laws' own look whether texts ascend. -/
import Derived.Test.YtfchakfkgmhagaaGreatTexts
import Derived.Test.YtfchakfkgmhagaaGreatSorts
import Derived.Lib.QuietBelow
import Derived.BigQuiet
set_option linter.unusedVariables false
set_option linter.unusedSimpArgs false
namespace Go.Proofs.YtfchakfkgmhagaaGreat
open Go.RowKit Go.Proofs.YtfchakfkgmhagaaGreat.Nm

set_option maxRecDepth 100000 in
set_option maxHeartbeats 1000000 in
theorem laws_rises (v : Value) (xs : List Bs) (w : World) (hr : Reads w v xs) (hx : xs.length ≤ 9500000) (hu : Up xs) :
    Calls Tryz.prog 58 #[v] w fun e w' => e = .returned (.bool true) ∧ Below w.heap.size w w' := by
  obtain ⟨aa, ca, rfl⟩ : ∃ a c, v = .slice a xs.length c := by
    rcases hr with ⟨rfl, rfl⟩ | ⟨b, off, cap, rfl, _⟩ <;> exact ⟨_, _, rfl⟩
  have Hr := Lib.hid hr
  have Hu := Lib.hid (List.pairwise_iff_getElem.1 hu)
  clear hr hu
  go_enter Tryz.func58, Tryz.ntmps58
  go_wp2_with fail
  go_loopw [3] (fun kv wr => ∃ k : Nat, 1 ≤ k ∧ k ≤ xs.length + 1 ∧ kv = .int .i64 k ∧ Below w.heap.size w wr) (fun kv _ => xs.length + 1 - (intOf kv).toNat)
  case atStart => exact ⟨1, by omega, by omega, rfl, Below.refl _ _⟩
  case round =>
    obtain ⟨k, hk1, hk, rfl, hbel⟩ := hrel
    by_cases hlt : k < xs.length
    · obtain ⟨b1, o1, c1, e1, _, _, hb1, hc1⟩ := Reads.some Hr.out (by omega)
      simp only [Value.slice.injEq] at e1
      obtain ⟨rfl, _, rfl⟩ := e1
      have hce1 := (hbel.cell (p := ⟨b1, o1 + k, none⟩) hb1).trans (hc1 k hlt)
      have hce2 := (hbel.cell (p := ⟨b1, o1 + (k - 1), none⟩) hb1).trans (hc1 (k - 1) (by omega))
      have hup := Hu.out (k - 1) k (by omega) hlt (by omega)
      have hki : (k : Int) < (xs.length : Int) := by omega
      have hk0 : (0 : Int) ≤ (k : Int) := by omega
      have hi2 : (0 : Int) ≤ (k : Int) - 1 := by omega
      have hi3 : (k : Int) - 1 < (xs.length : Int) := by omega
      have hi4 : ((k : Int) - 1).toNat = k - 1 := by omega
      have hi5 : IntKind.i64.wrap ((k : Int) - 1) = (k : Int) - 1 := IntWalk.i64_in _ (by omega)
      clear hc1
      generalize xs[k] = y at *
      generalize xs[k - 1] = x at *
      have hbl : Op.bytesLess y x = false := by
        rw [Nm.bytesLess_eq]
        cases h : ltB y x with
        | false => rfl
        | true => have := ltB_tr h hup; rw [ltB_irr] at this; cases this
      have hne : (y == x) = false := by
        rw [beq_eq_false_iff_ne]
        rintro rfl
        rw [ltB_irr] at hup; cases hup
      clear hup
      go_wp2_with fail
      go_quiet (fail)
      go_wp2_with fail
      go_roundw
      case rel => exact ⟨k + 1, by omega, by omega, by go_num, below_drewN hbel _⟩
      case measure => simp [intOf]; omega
    · go_wp2_with fail
      go_ret
      exact ⟨rfl, hbel⟩
set_option maxRecDepth 100000 in
set_option maxHeartbeats 1000000 in
theorem laws_withinTexts (va vb : Value) (xs ys : List Bs) (w : World) (ha : Reads w va xs) (hb : Reads w vb ys) (hx : xs.length ≤ 9000000) (hy : ys.length ≤ 9000000) (hw : ∀ x ∈ xs, x ∈ ys) :
    Calls Tryz.prog 55 #[va, vb] w fun e w' => e = .returned (.bool true) ∧ w = w' := by
  obtain ⟨aa, ca, rfl⟩ : ∃ a c, va = .slice a xs.length c := by
    rcases ha with ⟨rfl, rfl⟩ | ⟨b, off, cap, rfl, _⟩ <;> exact ⟨_, _, rfl⟩
  have Ha := Lib.hid ha
  have Hb := Lib.hid hb
  have Hw := Lib.hid hw
  clear ha hb hw
  go_enter Tryz.func55, Tryz.ntmps55
  go_wp2_with fail
  go_loop [5] (fun kv => ∃ k : Nat, k ≤ xs.length ∧ kv = .int .i64 k) (fun kv => xs.length - (intOf kv).toNat)
  case atStart => exact ⟨0, by omega, rfl⟩
  case round =>
    obtain ⟨k, hk, rfl⟩ := hrel
    by_cases hlt : k < xs.length
    · obtain ⟨b1, o1, c1, e1, hl1, hm1, hb1, hc1⟩ := Reads.some Ha.out (by omega)
      simp only [Value.slice.injEq] at e1
      obtain ⟨rfl, _, rfl⟩ := e1
      have hcell := hc1 k hlt
      have Hm := Lib.hid (decide_eq_true (Hw.out _ (List.getElem_mem hlt)))
      clear hc1
      generalize xs[k] = x at *
      go_wp2_with fail
      refine (laws_hasText vb ys x _ Hb.out (by omega)).mono ?_
      rintro _ _ ⟨rfl, rfl⟩
      rw [Hm.out]
      go_wp2_with fail
      go_round
      case rel => exact ⟨k + 1, by omega, by go_num⟩
      case measure => simp [intOf]; omega
    · go_wp2_with fail
      go_ret
      exact ⟨rfl, rfl⟩
end Go.Proofs.YtfchakfkgmhagaaGreat
