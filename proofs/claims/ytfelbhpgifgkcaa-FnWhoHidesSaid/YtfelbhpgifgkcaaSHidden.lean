/- Contracts of the model's functions that tell which files are hidden, and why. -/
import Derived.Test.YtfelbhpgifgkcaaHidden
set_option linter.unusedVariables false
set_option linter.unusedSimpArgs false
namespace Go.Proofs.Ytfelbhpgifgkcaa
open Go.RowKit Go.Proofs.Ytfelbhpgifgkcaa.Nm


end Go.Proofs.Ytfelbhpgifgkcaa
