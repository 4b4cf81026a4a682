/- The exact laws' looks for their marks in statements, files and trees. -/
import Derived.Test.YtfchakfkgmhagaaGreatMarks2
import Derived.Deep.RegionHeld3
set_option linter.unusedVariables false
set_option linter.unusedSimpArgs false
namespace Go.Proofs.YtfchakfkgmhagaaGreat
open Go.RowKit Go.Proofs.YtfchakfkgmhagaaGreat.Nm



end Go.Proofs.YtfchakfkgmhagaaGreat
