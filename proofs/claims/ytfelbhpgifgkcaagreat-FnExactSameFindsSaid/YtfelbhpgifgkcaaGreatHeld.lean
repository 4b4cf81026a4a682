/- The exact laws' looks for their marks in statements, files and trees. -/
import Derived.Test.YtfelbhpgifgkcaaGreatMarks2
import Derived.Deep.RegionHeld3
set_option linter.unusedVariables false
set_option linter.unusedSimpArgs false
namespace Go.Proofs.YtfelbhpgifgkcaaGreat
open Go.RowKit Go.Proofs.YtfelbhpgifgkcaaGreat.Nm



end Go.Proofs.YtfelbhpgifgkcaaGreat
