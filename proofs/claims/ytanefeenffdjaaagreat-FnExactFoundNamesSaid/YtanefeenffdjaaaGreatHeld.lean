/- The exact laws' looks for their marks in statements, files and trees. -/
import Derived.Test.YtanefeenffdjaaaGreatMarks2
import Derived.Deep.RegionHeld3
set_option linter.unusedVariables false
set_option linter.unusedSimpArgs false
namespace Go.Proofs.YtanefeenffdjaaaGreat
open Go.RowKit Go.Proofs.YtanefeenffdjaaaGreat.Nm



end Go.Proofs.YtanefeenffdjaaaGreat
