/- The exact laws' looks for their marks in statements, files and trees. -/
import Derived.Test.YtcmnldomcpjlcaaGreatMarks2
import Derived.Deep.RegionHeld3
set_option linter.unusedVariables false
set_option linter.unusedSimpArgs false
namespace Go.Proofs.YtcmnldomcpjlcaaGreat
open Go.RowKit Go.Proofs.YtcmnldomcpjlcaaGreat.Nm



end Go.Proofs.YtcmnldomcpjlcaaGreat
