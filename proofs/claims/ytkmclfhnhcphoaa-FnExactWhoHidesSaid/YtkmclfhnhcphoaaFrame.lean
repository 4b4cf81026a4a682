/- What the steps from a walk to a given row share: the code that came in, as bytes below the heap. -/
import Derived.Test.YtkmclfhnhcphoaaRows
import Derived.Test.YtkmclfhnhcphoaaTools
import Derived.ProofKit
import Derived.OpenShut
import Derived.ShutString
import Derived.ChangeOld
set_option linter.unusedVariables false
set_option linter.unusedSimpArgs false
namespace Go.Proofs.Ytkmclfhnhcphoaa
open Go.ChangeShapes Go.WideShapes Go.ChangeAt Go.RowKit

theorem own : ownKnob Try.prog.godebug = none := by kernel_rfl
theorem laidOut : laidOutB Try.prog = true := by kernel_rfl

end Go.Proofs.Ytkmclfhnhcphoaa
