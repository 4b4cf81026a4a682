/- The exact laws' looks for their marks in statements, files and trees. -/
import Derived.Test.YtllopbfgiflokaaGreatMarks2
import Derived.Deep.RegionHeld3
set_option linter.unusedVariables false
set_option linter.unusedSimpArgs false
namespace Go.Proofs.YtllopbfgiflokaaGreat
open Go.RowKit Go.Proofs.YtllopbfgiflokaaGreat.Nm



end Go.Proofs.YtllopbfgiflokaaGreat
