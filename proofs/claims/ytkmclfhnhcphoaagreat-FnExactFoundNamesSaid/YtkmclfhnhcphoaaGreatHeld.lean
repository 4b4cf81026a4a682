/- The exact laws' looks for their marks in statements, files and trees. -/
import Derived.Test.YtkmclfhnhcphoaaGreatMarks2
import Derived.Deep.RegionHeld3
set_option linter.unusedVariables false
set_option linter.unusedSimpArgs false
namespace Go.Proofs.YtkmclfhnhcphoaaGreat
open Go.RowKit Go.Proofs.YtkmclfhnhcphoaaGreat.Nm



end Go.Proofs.YtkmclfhnhcphoaaGreat
