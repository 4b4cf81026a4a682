/- The contract of the laws' own look whether numbers ascend. -/
import Derived.Test.YtomdmkhgkaalnaaEqFind
set_option linter.unusedVariables false
set_option linter.unusedSimpArgs false
namespace Go.Proofs.Ytomdmkhgkaalnaa
open Go.RowKit Go.Proofs.Ytomdmkhgkaalnaa.Nm

set_option maxRecDepth 100000 in
set_option maxHeartbeats 1000000 in
theorem laws_ascends (v : Value) (xs : List Int) (w : World) (hr : IntsIn w v xs) (hu : xs.Pairwise (fun a b => a < b)) :
    Calls Try.prog 53 #[v] w fun e w' => e = .returned (.bool true) ∧ Below w.heap.size w w' := by
  have Hr := Lib.hid hr
  have Hu := Lib.hid (List.pairwise_iff_getElem.1 hu)
  obtain ⟨aa, ca, rfl, hl, hm⟩ := hr.len
  unfold maxLen at hm
  clear hr hu
  go_enter Try.func53, Try.ntmps53
  go_wp2_with fail
  go_loopw [3] (fun kv wr => ∃ k : Nat, 1 ≤ k ∧ k ≤ xs.length + 1 ∧ kv = .int .i64 k ∧ Below w.heap.size w wr) (fun kv _ => xs.length + 1 - (intOf kv).toNat)
  case atStart => exact ⟨1, by omega, by omega, rfl, Below.refl _ _⟩
  case round =>
    obtain ⟨k, hk1, hk, rfl, hbel⟩ := hrel
    by_cases hlt : k < xs.length
    · obtain ⟨b1, o1, c1, e1, hb1, hc1⟩ := Hr.out.at_ hlt
      obtain ⟨b2, o2, c2, e2, hb2, hc2⟩ := Hr.out.at_ (show k - 1 < xs.length by omega)
      simp only [Value.slice.injEq] at e1 e2
      obtain ⟨rfl, _, rfl⟩ := e1
      obtain ⟨e2, _, rfl⟩ := e2
      simp only [Option.some.injEq, Addr.mk.injEq] at e2
      obtain ⟨rfl, rfl, _⟩ := e2
      have hce1 := (hbel.cell (p := ⟨b1, o1 + k, none⟩) hb1).trans hc1
      have hce2 := (hbel.cell (p := ⟨b1, o1 + (k - 1), none⟩) hb1).trans hc2
      have hup := Hu.out (k - 1) k (by omega) hlt (by omega)
      have hki : (k : Int) < (xs.length : Int) := by omega
      have hk0 : (0 : Int) ≤ (k : Int) := by omega
      have hi2 : (0 : Int) ≤ (k : Int) - 1 := by omega
      have hi3 : (k : Int) - 1 < (xs.length : Int) := by omega
      have hi4 : ((k : Int) - 1).toNat = k - 1 := by omega
      have hi5 : IntKind.i64.wrap ((k : Int) - 1) = (k : Int) - 1 := IntWalk.i64_in _ (by omega)
      clear hc1 hc2
      generalize xs[k] = y at *
      generalize xs[k - 1] = x at *
      have hbl : ¬ y ≤ x := by omega
      have hbd : decide (y ≤ x) = false := decide_eq_false hbl
      go_wp2_with fail
      go_quiet (fail)
      go_wp2_with fail
      go_roundw
      case rel => exact ⟨k + 1, by omega, by omega, by go_num, below_drewN' hbel _⟩
      case measure => simp [intOf]; omega
    · go_wp2_with fail
      go_ret
      exact ⟨rfl, hbel⟩
end Go.Proofs.Ytomdmkhgkaalnaa
