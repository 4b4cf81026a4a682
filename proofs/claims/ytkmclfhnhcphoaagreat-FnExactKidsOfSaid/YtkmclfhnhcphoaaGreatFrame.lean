/- What the steps from a walk to a given row share: the code that came in, as bytes below the heap. -/
import Derived.Test.YtkmclfhnhcphoaaGreatRows
import Derived.Test.YtkmclfhnhcphoaaGreatTools
import Derived.ProofKit
import Derived.OpenShut
import Derived.ShutString
import Derived.ChangeOld
set_option linter.unusedVariables false
set_option linter.unusedSimpArgs false
namespace Go.Proofs.YtkmclfhnhcphoaaGreat
open Go.ChangeShapes Go.WideShapes Go.ChangeAt Go.RowKit

theorem own : ownKnob Tryz.prog.godebug = none := by kernel_rfl
theorem laidOut : laidOutB Tryz.prog = true := by kernel_rfl

end Go.Proofs.YtkmclfhnhcphoaaGreat
