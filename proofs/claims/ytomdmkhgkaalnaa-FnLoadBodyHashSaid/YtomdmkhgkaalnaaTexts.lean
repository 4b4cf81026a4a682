/- Contracts of the laws' own look at a list of texts. -/
import Derived.Test.YtomdmkhgkaalnaaTools
set_option linter.unusedVariables false
set_option linter.unusedSimpArgs false
namespace Go.Proofs.Ytomdmkhgkaalnaa
open Go.RowKit Go.Proofs.Ytomdmkhgkaalnaa.Nm

def TextAt (xs : List Bs) (s : Bs) (w : World) (e : Ending) (w' : World) : Prop :=
  ∃ j : Int, e = .returned (.int .i64 j) ∧ ((0 ≤ j ∧ s ∈ xs) ∨ (j < 0 ∧ s ∉ xs)) ∧ -1 ≤ j ∧ j ≤ 10000000 ∧ w = w'


end Go.Proofs.Ytomdmkhgkaalnaa
