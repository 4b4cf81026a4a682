/- Contracts of the functions that tell the parent, the last part and a child of a name, and what is under a package. -/
import Derived.Test.YtekgongbffaenaaVp
import Derived.Test.YtekgongbffaenaaPlain
set_option linter.unusedVariables false
set_option linter.unusedSimpArgs false
namespace Go.Proofs.Ytekgongbffaenaa
open Go.RowKit Go.Proofs.Ytekgongbffaenaa.Nm













/-! ### Contracts of the functions that tell what is under a package. -/




/-! ### Contracts of the functions that tell the names above a name. -/
def abv (ps : List Bs) (k : Nat) : List Bs := (List.range k).map (fun i => join (ps.take (i + 1)))
theorem abv_len (ps : List Bs) (k : Nat) : (abv ps k).length = k := by simp [abv]
theorem abv_succ (ps : List Bs) (k : Nat) : abv ps k ++ [join (ps.take (k + 1))] = abv ps (k + 1) := by simp [abv, List.range_succ]
theorem above_abv (l : Bs) : above l = abv (split l) (split l).length := rfl



end Go.Proofs.Ytekgongbffaenaa
