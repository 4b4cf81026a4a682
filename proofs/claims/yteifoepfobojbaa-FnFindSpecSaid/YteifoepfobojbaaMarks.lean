/- The laws' marks: texts that are written into what a call returned, and looked for again. -/
import Derived.Test.YteifoepfobojbaaKin
set_option linter.unusedVariables false
set_option linter.unusedSimpArgs false
namespace Go.Proofs.Yteifoepfobojbaa.Nm
open Go.RowKit

/-- The digits of a number, none for 0. -/
def dgs (k : Nat) : Bs := if k = 0 then [] else dgs (k / 10) ++ [UInt8.ofNat (48 + k % 10)]
termination_by k
decreasing_by omega
/-- The mark of the number k. -/
def mt (k : Nat) : Bs := 109 :: dgs k

theorem dgs_step {j k : Nat} {t : Bs} (h : dgs j ++ t = dgs k) (h0 : j ≠ 0) : dgs (j / 10) ++ (UInt8.ofNat (48 + j % 10) :: t) = dgs k := by
  have e : dgs j = dgs (j / 10) ++ [UInt8.ofNat (48 + j % 10)] := by rw [dgs, if_neg h0]
  rw [← h, e]; simp
theorem dgs_end {k : Nat} {t : Bs} (h : dgs 0 ++ t = dgs k) : t = dgs k := by
  rw [dgs, if_pos rfl] at h; exact h

end Go.Proofs.Yteifoepfobojbaa.Nm
