/- Contracts of the functions that tell what lies below a package, and whether a directory is there. -/
import Derived.Test.YtebfafefeajemaaTrees
import Derived.Test.YtebfafefeajemaaPlainT
import Derived.Test.YtebfafefeajemaaTreeMem
import Derived.Deep.AppendLies
set_option linter.unusedVariables false
set_option linter.unusedSimpArgs false
namespace Go.Proofs.Ytebfafefeajemaa
open Go.RowKit Go.Proofs.Ytebfafefeajemaa.Nm

end Go.Proofs.Ytebfafefeajemaa
