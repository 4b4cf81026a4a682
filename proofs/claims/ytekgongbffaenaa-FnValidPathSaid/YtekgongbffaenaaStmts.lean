/- Contracts of the functions that say whether a statement and a body are valid. -/
import Derived.Test.YtekgongbffaenaaKin
import Derived.Test.YtekgongbffaenaaTreeMem
import Derived.Laws.StructEq
import Derived.Test.YtekgongbffaenaaPlainT
set_option linter.unusedVariables false
set_option linter.unusedSimpArgs false
namespace Go.Proofs.Ytekgongbffaenaa
open Go.RowKit Go.Proofs.Ytekgongbffaenaa.Nm

set_option maxHeartbeats 400000 in
theorem impl_inRange (n most : Int) (w : World) :
    Calls Try.prog 9 #[.int .i64 n, .int .i64 most] w fun e w' => e = .returned (.bool (inr n 0 most)) ∧ w = w' := by
  by_cases h0 : 0 ≤ n
  · go_enter Try.func9, Try.ntmps9
    go_wp2_with fail
    all_goals (go_ret; exact ⟨ret_bool (by simp [inr, *]), rfl⟩)
  · have h0' : n < 0 := by omega
    have Hv := Lib.hid (show inr n 0 most = false by simp [inr]; omega)
    go_enter Try.func9, Try.ntmps9
    go_wp2_with fail
    all_goals (go_ret; rw [Hv.out]; exact ⟨rfl, rfl⟩)

theorem spec_inRange' (n lo hi : Int) (w : World) :
    Calls Try.prog 15 #[.int .i64 n, .int .i64 lo, .int .i64 hi] w fun e w' => e = .returned (.bool (inr n lo hi)) ∧ w = w' := spec_inRange n lo hi w




/-! ### Contracts of the functions that say whether a body is valid. -/
theorem okBody_no (ss : List Stm) (k : Nat) (h : k < ss.length) (hv : okStm ss[k] = false) : okBody ss = false := by
  have : ss.all okStm = false := by rw [List.all_eq_false]; exact ⟨_, List.getElem_mem h, by simp [hv]⟩
  simp [okBody, this]
theorem okBody_yes (ss : List Stm) (ha : ∀ i (h : i < ss.length), okStm ss[i] = true) : okBody ss = decide (ss.length ≤ 8) := by
  have : ss.all okStm = true := by
    rw [List.all_eq_true]; intro s hs
    obtain ⟨i, hi, rfl⟩ := List.getElem_of_mem hs
    exact ha i hi
  simp [okBody, this]




/-! ### Contracts of the functions that say whether a file is valid, and that tell its module. -/





end Go.Proofs.Ytekgongbffaenaa
