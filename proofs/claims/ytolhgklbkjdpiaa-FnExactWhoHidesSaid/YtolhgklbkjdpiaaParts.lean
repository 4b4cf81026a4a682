/- Contracts of the functions that join parts, and that tell the parent and the last part of a name. -/
import Derived.Test.YtolhgklbkjdpiaaNames
import Derived.Test.YtolhgklbkjdpiaaJoin
set_option linter.unusedVariables false
set_option linter.unusedSimpArgs false
namespace Go.Proofs.Ytolhgklbkjdpiaa
open Go.RowKit Go.Proofs.Ytolhgklbkjdpiaa.Nm





end Go.Proofs.Ytolhgklbkjdpiaa
