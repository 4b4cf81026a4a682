/- The functions that draw a tree, a path and a name. Written by mkdraws.py. -/
import Derived.Test.YtggkkehmhapomaaGreatDrawZ
import Derived.Test.YtggkkehmhapomaaGreatDrawG
import Derived.Test.YtggkkehmhapomaaGreatDrawP
import Derived.Deep.RegionLaw
set_option linter.unusedVariables false
set_option linter.unusedSimpArgs false
namespace Go.Proofs.YtggkkehmhapomaaGreat
open Go.RowKit Go.Proofs.YtggkkehmhapomaaGreat.Nm


/-- What nameOf comes to: a tree, a path and a text. -/
def DrawName (R q c : Nat) (w : World) (e : Ending) (w' : World) : Prop :=
  ∃ v ps pv xs s, e = .returned (.tuple #[.agg #[v], pv, .string (mk s)]) ∧ RowsB w' w.heap.size v ps ∧ ShortT 8 (ps.map (·.1)) ∧ ps.length ≤ 11 ∧ (∀ p ∈ ps, p.1.body.length ≤ 5) ∧ PathIn w' pv xs ∧ xs.length ≤ 3 ∧ s.length ≤ 17 ∧ ∃ q', q' ≤ q + c ∧ Rd w' R q' ∧ w.grownBy w' (some R)
theorem PathIn.drew {w : World} {v : Value} {xs : List Int} (h : PathIn w v xs) : PathIn w.drew v xs := h.below ⟨rfl, rfl, rfl, Nat.le_refl _, fun _ _ => rfl⟩
theorem RowsB.drew {w : World} {B : Nat} {v : Value} {ps : List (Fil × Value)} (h : RowsB w B v ps) : RowsB w.drew B v ps := h.below ⟨rfl, rfl, rfl, Nat.le_refl _, fun _ _ => rfl⟩
end Go.Proofs.YtggkkehmhapomaaGreat
