/- Contract of the program's function that says whether a valid tree has a file with an index. -/
import Derived.Test.YtebfafefeajemaaTrees
set_option linter.unusedVariables false
set_option linter.unusedSimpArgs false
namespace Go.Proofs.Ytebfafefeajemaa
open Go.RowKit Go.Proofs.Ytebfafefeajemaa.Nm

end Go.Proofs.Ytebfafefeajemaa
