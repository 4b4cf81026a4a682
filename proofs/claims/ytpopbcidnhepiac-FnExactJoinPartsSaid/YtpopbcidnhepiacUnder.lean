/- Contracts of the functions that tell what is under a package. -/
import Derived.Test.YtpopbcidnhepiacKin
set_option linter.unusedVariables false
set_option linter.unusedSimpArgs false
namespace Go.Proofs.Ytpopbcidnhepiac
open Go.RowKit Go.Proofs.Ytpopbcidnhepiac.Nm




end Go.Proofs.Ytpopbcidnhepiac
