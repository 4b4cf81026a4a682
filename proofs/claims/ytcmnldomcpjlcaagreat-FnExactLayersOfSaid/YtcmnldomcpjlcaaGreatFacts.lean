/- Three facts of the whole program that the step to a row wants, checked once for all laws of a seat (each takes the kernel 7 GB where the program is large). -/
import Derived.Test.YtcmnldomcpjlcaaGreatRows
import Derived.JoinedOf
set_option linter.unusedVariables false
namespace Go.Proofs.YtcmnldomcpjlcaaGreat.Facts
set_option maxRecDepth 100000 in
theorem three : (Tryz.pinned.checked.prog.mayEnter && (false == Tryz.pinned.checked.prog.liftsFinal) && (Tryz.pinned.checked.prog.make == some .cut)) = true := of_decide_eq_true (by kernel_rfl)
theorem enter : Tryz.pinned.checked.prog.mayEnter = true := by have h := three; simp only [Bool.and_eq_true] at h; exact h.1.1
theorem lifts : (false == Tryz.pinned.checked.prog.liftsFinal) = true := by have h := three; simp only [Bool.and_eq_true] at h; exact h.1.2
theorem make : (Tryz.pinned.checked.prog.make == some .cut) = true := by have h := three; simp only [Bool.and_eq_true] at h; exact h.2
end Go.Proofs.YtcmnldomcpjlcaaGreat.Facts
