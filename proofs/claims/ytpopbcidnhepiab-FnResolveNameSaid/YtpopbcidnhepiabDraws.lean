/- Contracts of the functions that draw the arguments of the laws on names. -/
import Derived.Test.YtpopbcidnhepiabDraw
set_option linter.unusedVariables false
set_option linter.unusedSimpArgs false
namespace Go.Proofs.Ytpopbcidnhepiab
open Go.RowKit Go.Proofs.Ytpopbcidnhepiab.Nm

/-- A drawn text. -/
def Drawn (B : Nat) (w : World) (e : Ending) (w' : World) : Prop := ∃ p : Bs, e = .returned (.string (mk p)) ∧ p.length ≤ B ∧ Below w.heap.size w w'
/-- Two drawn texts. -/
def Drawn2 (B : Nat) (w : World) (e : Ending) (w' : World) : Prop := ∃ p s : Bs, e = .returned (.tuple #[.string (mk p), .string (mk s)]) ∧ p.length ≤ B ∧ s.length ≤ B ∧ Below w.heap.size w w'





set_option maxRecDepth 100000 in
set_option maxHeartbeats 400000 in
theorem spec_DrawNamesAbove (a : Option Addr) (n cap : Nat) (w : World) (hc : Code w w.heap.size a n cap) :
    Calls Try.prog 15 #[.slice a n cap] w (Drawn 20 w) := by
  go_enter Try.func15, Try.ntmps15
  go_wp2_with fail
  refine (spec_newReader a n cap w hc).mono ?_
  rintro e w1 ⟨rfl, hr, hb⟩
  have hz := hb.size
  go_wp2_with fail
  refine (spec_anyName _ 0 _ hr (by omega)).mono ?_
  rintro e w2 ⟨p, rfl, hp, q', hq', hr2, hg⟩
  have Hg := Lib.hid (below_gb hb hz (Nat.le_refl _) hg)
  clear hg
  go_wp2_with fail
  go_ret
  exact ⟨p, rfl, by omega, Hg.out⟩


set_option maxRecDepth 100000 in
set_option maxHeartbeats 400000 in
theorem spec_DrawChildOf (a : Option Addr) (n cap : Nat) (w : World) (hc : Code w w.heap.size a n cap) :
    Calls Try.prog 9 #[.slice a n cap] w (Drawn2 20 w) := by
  go_enter Try.func9, Try.ntmps9
  go_wp2_with fail
  refine (spec_newReader a n cap w hc).mono ?_
  rintro e w1 ⟨rfl, hr, hb⟩
  have hz := hb.size
  go_wp2_with fail
  refine (spec_anyPackage _ 0 _ hr (by omega)).mono ?_
  rintro e w2 ⟨p, rfl, hp, q', hq', hr2, hg⟩
  have Hg := Lib.hid (below_gb hb hz (Nat.le_refl _) hg)
  have hz2 := hg.size
  clear hg
  go_wp2_with fail
  refine (spec_anyPart _ q' _ hr2 (by omega)).mono ?_
  rintro e w3 ⟨s, rfl, hs, q2, hq2, hr3, hg3⟩
  have Hb := Lib.hid (below_gb Hg.out (by omega) (Nat.le_refl _) hg3)
  clear hg3
  go_wp2_with fail
  go_ret2
  exact ⟨p, s, rfl, by omega, by omega, Hb.out⟩

set_option maxRecDepth 100000 in
set_option maxHeartbeats 400000 in
theorem spec_DrawIsUnder (a : Option Addr) (n cap : Nat) (w : World) (hc : Code w w.heap.size a n cap) :
    Calls Try.prog 20 #[.slice a n cap] w (Drawn2 20 w) := by
  go_enter Try.func20, Try.ntmps20
  go_wp2_with fail
  refine (spec_newReader a n cap w hc).mono ?_
  rintro e w1 ⟨rfl, hr, hb⟩
  have hz := hb.size
  go_wp2_with fail
  refine (spec_anyName _ 0 _ hr (by omega)).mono ?_
  rintro e w2 ⟨p, rfl, hp, q', hq', hr2, hg⟩
  have Hg := Lib.hid (below_gb hb hz (Nat.le_refl _) hg)
  have hz2 := hg.size
  clear hg
  go_wp2_with fail
  refine (spec_anyPackage _ q' _ hr2 (by omega)).mono ?_
  rintro e w3 ⟨s, rfl, hs, q2, hq2, hr3, hg3⟩
  have Hb := Lib.hid (below_gb Hg.out (by omega) (Nat.le_refl _) hg3)
  clear hg3
  go_wp2_with fail
  go_ret2
  exact ⟨p, s, rfl, by omega, by omega, Hb.out⟩

set_option maxRecDepth 100000 in
set_option maxHeartbeats 400000 in
theorem spec_DrawRelativeName (a : Option Addr) (n cap : Nat) (w : World) (hc : Code w w.heap.size a n cap) :
    Calls Try.prog 26 #[.slice a n cap] w (Drawn2 20 w) := by
  go_enter Try.func26, Try.ntmps26
  go_wp2_with fail
  refine (spec_newReader a n cap w hc).mono ?_
  rintro e w1 ⟨rfl, hr, hb⟩
  have hz := hb.size
  go_wp2_with fail
  refine (spec_anyName _ 0 _ hr (by omega)).mono ?_
  rintro e w2 ⟨p, rfl, hp, q', hq', hr2, hg⟩
  have Hg := Lib.hid (below_gb hb hz (Nat.le_refl _) hg)
  have hz2 := hg.size
  clear hg
  go_wp2_with fail
  refine (spec_anyName _ q' _ hr2 (by omega)).mono ?_
  rintro e w3 ⟨s, rfl, hs, q2, hq2, hr3, hg3⟩
  have Hb := Lib.hid (below_gb Hg.out (by omega) (Nat.le_refl _) hg3)
  clear hg3
  go_wp2_with fail
  go_ret2
  exact ⟨p, s, rfl, by omega, by omega, Hb.out⟩

set_option maxRecDepth 100000 in
set_option maxHeartbeats 400000 in
theorem spec_DrawCommonPackage (a : Option Addr) (n cap : Nat) (w : World) (hc : Code w w.heap.size a n cap) :
    Calls Try.prog 29 #[.slice a n cap] w (Drawn2 20 w) := by
  go_enter Try.func29, Try.ntmps29
  go_wp2_with fail
  refine (spec_DrawRelativeName a n cap w hc).mono ?_
  rintro e w1 ⟨p, s, rfl, hp, hs, hb⟩
  go_wp2_with fail
  go_ret2
  exact ⟨p, s, rfl, hp, hs, hb⟩

/-- A drawn package, a level and a rest. -/
def Drawn3 (w : World) (e : Ending) (w' : World) : Prop := ∃ (p s : Bs) (lv : Int), e = .returned (.tuple #[.string (mk p), .int .i64 lv, .string (mk s)]) ∧ p.length ≤ 20 ∧ s.length ≤ 20 ∧ -1 ≤ lv ∧ lv ≤ 5 ∧ Below w.heap.size w w'

set_option maxRecDepth 100000 in
set_option maxHeartbeats 400000 in
theorem spec_DrawResolveName (a : Option Addr) (n cap : Nat) (w : World) (hc : Code w w.heap.size a n cap) :
    Calls Try.prog 23 #[.slice a n cap] w (Drawn3 w) := by
  go_enter Try.func23, Try.ntmps23
  go_wp2_with fail
  refine (spec_newReader a n cap w hc).mono ?_
  rintro e w1 ⟨rfl, hr, hb⟩
  have hz := hb.size
  go_wp2_with fail
  refine (spec_anyPackage _ 0 _ hr (by omega)).mono ?_
  rintro e w2 ⟨p, rfl, hp, q', hq', hr2, hg⟩
  have Hg := Lib.hid (below_gb hb hz (Nat.le_refl _) hg)
  have hz2 := hg.size
  have hlt := hr2.lt
  clear hg
  go_wp2_with fail
  refine (reader_one w.heap.size q' w2.heap.size 3 [1, 0, 2, 3, 4, 5, -1] _ (hr2.alloc _) (heap_new w2 _ _) (by omega) (by decide) (by decide) (by omega)).mono ?_
  rintro e w3 ⟨lv, hlv, rfl, hr3, hg3⟩
  have hlv' := mem_int (-1) 5 (by decide) hlv
  have Hg3 := Lib.hid (below_gb (Hg.out.alloc (by omega) _) (by simp; omega) (Nat.le_refl _) hg3)
  have hz3 := hg3.size
  simp only [World.size_alloc] at hz3
  clear hg3 hlv
  go_wp2_with fail
  refine (spec_anyPackage _ (q' + 1) _ hr3 (by omega)).mono ?_
  rintro e w4 ⟨s, rfl, hs, q2, hq2, hr4, hg4⟩
  have Hb := Lib.hid (below_gb Hg3.out (by omega) (Nat.le_refl _) hg4)
  clear hg4
  go_wp2_with fail
  go_ret3
  exact ⟨p, s, lv, rfl, by omega, by omega, hlv'.1, hlv'.2, Hb.out⟩

end Go.Proofs.Ytpopbcidnhepiab
