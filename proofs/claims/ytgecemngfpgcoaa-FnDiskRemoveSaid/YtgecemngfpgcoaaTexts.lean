/- Contracts of the laws' own look at a list of texts. -/
import Derived.Test.YtgecemngfpgcoaaTools
import Derived.Test.YtgecemngfpgcoaaSorts
import Derived.Lib.QuietBelow
import Derived.BigQuiet
set_option linter.unusedVariables false
set_option linter.unusedSimpArgs false
namespace Go.Proofs.Ytgecemngfpgcoaa
open Go.RowKit Go.Proofs.Ytgecemngfpgcoaa.Nm

def TextAt (xs : List Bs) (s : Bs) (w : World) (e : Ending) (w' : World) : Prop :=
  ∃ j : Int, e = .returned (.int .i64 j) ∧ ((0 ≤ j ∧ s ∈ xs) ∨ (j < 0 ∧ s ∉ xs)) ∧ -1 ≤ j ∧ j ≤ 10000000 ∧ w = w'



def TextAtX (xs : List Bs) (s : Bs) (w : World) (e : Ending) (w' : World) : Prop :=
  ∃ j : Int, e = .returned (.int .i64 j) ∧ w = w' ∧ ((∃ k : Nat, j = (k : Int) ∧ xs[k]? = some s ∧ ∀ i, i < k → xs[i]? ≠ some s) ∨ (j = -1 ∧ s ∉ xs))
/-- In a list that has each text once. -/
theorem TextAtX.nodup {xs : List Bs} {w w' : World} {e : Ending} {i : Nat} (hi : i < xs.length) (hn : xs.Nodup) (h : TextAtX xs xs[i] w e w') : e = .returned (.int .i64 (i : Int)) ∧ w = w' := by
  obtain ⟨j, rfl, rfl, ⟨k, rfl, hk, _⟩ | ⟨_, h⟩⟩ := h
  · obtain ⟨hkl, e⟩ := List.getElem?_eq_some_iff.1 hk
    have hp := List.pairwise_iff_getElem.1 hn
    have : k = i := by
      rcases Nat.lt_trichotomy k i with h | h | h
      · exact absurd e (hp k i hkl hi h)
      · exact h
      · exact absurd e.symm (hp i k hi hkl h)
    rw [this]; exact ⟨rfl, rfl⟩
  · exact absurd (List.getElem_mem hi) h


/-! ### The contract of the laws' own look whether texts ascend. -/
end Go.Proofs.Ytgecemngfpgcoaa
