/- Contracts of the functions that join parts, and that tell the parent and the last part of a name. -/
import Derived.Test.YthpegpakdofhfaaNames
import Derived.Test.YthpegpakdofhfaaJoin
set_option linter.unusedVariables false
set_option linter.unusedSimpArgs false
namespace Go.Proofs.Ythpegpakdofhfaa
open Go.RowKit Go.Proofs.Ythpegpakdofhfaa.Nm





end Go.Proofs.Ythpegpakdofhfaa
