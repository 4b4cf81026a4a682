/- The functions that draw a body for a law. -/
import Derived.Test.YtkecjifejbhdpaaDrawV
set_option linter.unusedVariables false
set_option linter.unusedSimpArgs false
namespace Go.Proofs.Ytkecjifejbhdpaa
open Go.RowKit Go.Proofs.Ytkecjifejbhdpaa.Nm

/-- A drawn body, in memory of its own. -/
def DrawnBody (w : World) (e : Ending) (w' : World) : Prop :=
  ∃ (v : Value) (ss : List Stm), e = .returned v ∧ w'.ownsRow w.heap.size 32 5 v ss.length (ss.flatMap stmCells) ∧ Short 8 ss ∧ ss.length ≤ 4 ∧ Below w.heap.size w w'
set_option maxRecDepth 100000 in
set_option maxHeartbeats 400000 in
theorem spec_DrawSizeOf (a : Option Addr) (n cap : Nat) (w : World) (hc : Code w w.heap.size a n cap) :
    Calls Try.prog 4 #[.slice a n cap] w (DrawnBody w) := by
  go_enter Try.func4, Try.ntmps4
  go_wp2_with fail
  refine (spec_newReader a n cap w hc).mono ?_
  rintro e w1 ⟨rfl, hr, hb⟩
  have hz := hb.size
  go_wp2_with fail
  refine (spec_anyBody _ 0 _ hr (by omega)).mono ?_
  rintro e w2 ⟨v, ss, rfl, hown, hsh, hl, q', hq', hr2, hg⟩
  have Hg := Lib.hid (below_gb hb hz (Nat.le_refl _) hg)
  have Hown := Lib.hid hown
  have Hsh := Lib.hid hsh
  clear hg hown hsh
  go_wp2_with fail
  go_ret
  exact ⟨v, ss, rfl, owns_mono Hown.out hz, Hsh.out, hl, Hg.out⟩
end Go.Proofs.Ytkecjifejbhdpaa
