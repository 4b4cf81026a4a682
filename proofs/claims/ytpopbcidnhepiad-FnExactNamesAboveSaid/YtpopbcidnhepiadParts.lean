/- Contracts of the functions that join parts, and that tell the parent and the last part of a name. -/
import Derived.Test.YtpopbcidnhepiadNames
import Derived.Test.YtpopbcidnhepiadJoin
set_option linter.unusedVariables false
set_option linter.unusedSimpArgs false
namespace Go.Proofs.Ytpopbcidnhepiad
open Go.RowKit Go.Proofs.Ytpopbcidnhepiad.Nm





end Go.Proofs.Ytpopbcidnhepiad
