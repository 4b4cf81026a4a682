/- Contracts of the functions that draw the arguments of the laws on names. -/
import Derived.Test.YtpopbcidnhepiaaDraw
set_option linter.unusedVariables false
set_option linter.unusedSimpArgs false
namespace Go.Proofs.Ytpopbcidnhepiaa
open Go.RowKit Go.Proofs.Ytpopbcidnhepiaa.Nm

/-- A drawn text. -/
def Drawn (B : Nat) (w : World) (e : Ending) (w' : World) : Prop := ∃ p : Bs, e = .returned (.string (mk p)) ∧ p.length ≤ B ∧ Below w.heap.size w w'
/-- Two drawn texts. -/
def Drawn2 (B : Nat) (w : World) (e : Ending) (w' : World) : Prop := ∃ p s : Bs, e = .returned (.tuple #[.string (mk p), .string (mk s)]) ∧ p.length ≤ B ∧ s.length ≤ B ∧ Below w.heap.size w w'

set_option maxRecDepth 100000 in
set_option maxHeartbeats 400000 in
theorem spec_DrawValidName (a : Option Addr) (n cap : Nat) (w : World) (hc : Code w w.heap.size a n cap) :
    Calls Try.prog 14 #[.slice a n cap] w (Drawn 20 w) := by
  go_enter Try.func14, Try.ntmps14
  go_wp2_with fail
  refine (spec_newReader a n cap w hc).mono ?_
  rintro e w1 ⟨rfl, hr, hb⟩
  have hz := hb.size
  go_wp2_with fail
  refine (spec_anyName _ 0 _ hr (by omega)).mono ?_
  rintro e w2 ⟨p, rfl, hp, q', hq', hr2, hg⟩
  have Hg := Lib.hid (below_gb hb hz (Nat.le_refl _) hg)
  clear hg
  go_wp2_with fail
  go_ret
  exact ⟨p, rfl, by omega, Hg.out⟩

set_option maxRecDepth 100000 in
set_option maxHeartbeats 400000 in
theorem spec_DrawPartsOf (a : Option Addr) (n cap : Nat) (w : World) (hc : Code w w.heap.size a n cap) :
    Calls Try.prog 19 #[.slice a n cap] w (Drawn 20 w) := by
  go_enter Try.func19, Try.ntmps19
  go_wp2_with fail
  refine (spec_newReader a n cap w hc).mono ?_
  rintro e w1 ⟨rfl, hr, hb⟩
  have hz := hb.size
  go_wp2_with fail
  refine (spec_anyName _ 0 _ hr (by omega)).mono ?_
  rintro e w2 ⟨p, rfl, hp, q', hq', hr2, hg⟩
  have Hg := Lib.hid (below_gb hb hz (Nat.le_refl _) hg)
  clear hg
  go_wp2_with fail
  go_ret
  exact ⟨p, rfl, by omega, Hg.out⟩

set_option maxRecDepth 100000 in
set_option maxHeartbeats 400000 in
theorem spec_DrawParentOf (a : Option Addr) (n cap : Nat) (w : World) (hc : Code w w.heap.size a n cap) :
    Calls Try.prog 25 #[.slice a n cap] w (Drawn 20 w) := by
  go_enter Try.func25, Try.ntmps25
  go_wp2_with fail
  refine (spec_newReader a n cap w hc).mono ?_
  rintro e w1 ⟨rfl, hr, hb⟩
  have hz := hb.size
  go_wp2_with fail
  refine (spec_anyName _ 0 _ hr (by omega)).mono ?_
  rintro e w2 ⟨p, rfl, hp, q', hq', hr2, hg⟩
  have Hg := Lib.hid (below_gb hb hz (Nat.le_refl _) hg)
  clear hg
  go_wp2_with fail
  go_ret
  exact ⟨p, rfl, by omega, Hg.out⟩

set_option maxRecDepth 100000 in
set_option maxHeartbeats 400000 in
theorem spec_DrawLastOf (a : Option Addr) (n cap : Nat) (w : World) (hc : Code w w.heap.size a n cap) :
    Calls Try.prog 28 #[.slice a n cap] w (Drawn 20 w) := by
  go_enter Try.func28, Try.ntmps28
  go_wp2_with fail
  refine (spec_newReader a n cap w hc).mono ?_
  rintro e w1 ⟨rfl, hr, hb⟩
  have hz := hb.size
  go_wp2_with fail
  refine (spec_anyName _ 0 _ hr (by omega)).mono ?_
  rintro e w2 ⟨p, rfl, hp, q', hq', hr2, hg⟩
  have Hg := Lib.hid (below_gb hb hz (Nat.le_refl _) hg)
  clear hg
  go_wp2_with fail
  go_ret
  exact ⟨p, rfl, by omega, Hg.out⟩


set_option maxRecDepth 100000 in
set_option maxHeartbeats 400000 in
theorem spec_DrawValidPart (a : Option Addr) (n cap : Nat) (w : World) (hc : Code w w.heap.size a n cap) :
    Calls Try.prog 9 #[.slice a n cap] w (Drawn 20 w) := by
  go_enter Try.func9, Try.ntmps9
  go_wp2_with fail
  refine (spec_newReader a n cap w hc).mono ?_
  rintro e w1 ⟨rfl, hr, hb⟩
  have hz := hb.size
  go_wp2_with fail
  refine (spec_anyPart _ 0 _ hr (by omega)).mono ?_
  rintro e w2 ⟨p, rfl, hp, q', hq', hr2, hg⟩
  have Hg := Lib.hid (below_gb hb hz (Nat.le_refl _) hg)
  have hz2 := hg.size
  clear hg
  go_wp2_with fail
  refine (reader_of _ q' _ [[97], [97, 98, 99], [122], [], [97, 98, 99, 100], [65], [97, 49], p] _ (hr2.alloc _) (reads_lit w2 [[97], [97, 98, 99], [122], [], [97, 98, 99, 100], [65], [97, 49], p] 9 (by unfold maxLen; simp)) (by simp) (by simp) (by omega)).mono ?_
  rintro e w3 ⟨p3, hp3, rfl, hr3, hg3⟩
  have Hp := Lib.hid hp3
  have Hb := Lib.hid (below_gb (Hg.out.alloc (by omega) _) (by simp; omega) (Nat.le_refl _) hg3)
  clear hp3 hr3 hg3
  go_wp2_with fail
  go_ret
  exact ⟨p3, rfl, mem_len 20 (by simp; omega) Hp.out, Hb.out⟩


end Go.Proofs.Ytpopbcidnhepiaa
