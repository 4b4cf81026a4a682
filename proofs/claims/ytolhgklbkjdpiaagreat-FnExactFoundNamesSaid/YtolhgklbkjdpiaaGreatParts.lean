/- Contracts of the functions that join parts, and that tell the parent and the last part of a name. -/
import Derived.Test.YtolhgklbkjdpiaaGreatNames
import Derived.Test.YtolhgklbkjdpiaaGreatJoin
set_option linter.unusedVariables false
set_option linter.unusedSimpArgs false
namespace Go.Proofs.YtolhgklbkjdpiaaGreat
open Go.RowKit Go.Proofs.YtolhgklbkjdpiaaGreat.Nm





end Go.Proofs.YtolhgklbkjdpiaaGreat
