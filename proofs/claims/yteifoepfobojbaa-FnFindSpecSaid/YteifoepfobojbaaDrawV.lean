/- The function that draws a body that may not be valid: whatever the code, it answers a short one, in memory of its own. -/
import Derived.Test.YteifoepfobojbaaDrawU
import Derived.Deep.AppendLies
set_option linter.unusedVariables false
set_option linter.unusedSimpArgs false
namespace Go.Proofs.Yteifoepfobojbaa
open Go.RowKit Go.Proofs.Yteifoepfobojbaa.Nm

end Go.Proofs.Yteifoepfobojbaa
