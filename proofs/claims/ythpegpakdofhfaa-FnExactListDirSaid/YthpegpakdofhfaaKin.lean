/- Contracts of the functions that tell the parent, the last part and a child of a name, and what is under a package. -/
import Derived.Test.YthpegpakdofhfaaParts
set_option linter.unusedVariables false
set_option linter.unusedSimpArgs false
namespace Go.Proofs.Ythpegpakdofhfaa
open Go.RowKit Go.Proofs.Ythpegpakdofhfaa.Nm

set_option maxRecDepth 100000 in
set_option maxHeartbeats 400000 in
theorem impl_validPackage (l : Bs) (w : World) (hs : l.length ≤ 8000000) :
    Calls Try.prog 104 #[.string (mk l)] w fun e w' => e = .returned (.bool (vpk l)) ∧ Below w.heap.size w w' := by
  by_cases h0 : l = []
  · subst h0
    go_enter Try.func104, Try.ntmps104
    go_wp2_with fail
    go_ret
    exact ⟨rfl, Below.refl _ _⟩
  · have hd : l.isEmpty = false := by simpa using h0
    have Hv := Lib.hid (show vpk l = vn l by rw [vpk, hd]; rfl)
    go_enter Try.func104, Try.ntmps104
    go_wp2_with fail
    refine (impl_ValidName l w hs).mono ?_
    rintro e w1 ⟨rfl, hb⟩
    go_wp2_with fail
    go_ret
    rw [Hv.out]
    exact ⟨rfl, hb⟩

set_option maxRecDepth 100000 in
set_option maxHeartbeats 400000 in
theorem spec_validPackage (l : Bs) (w : World) (hs : l.length ≤ 8000000) :
    Calls Try.prog 77 #[.string (mk l)] w fun e w' => e = .returned (.bool (vpk l)) ∧ Below w.heap.size w w' := by
  by_cases h0 : l = []
  · subst h0
    go_enter Try.func77, Try.ntmps77
    go_wp2_with fail
    go_ret
    exact ⟨rfl, Below.refl _ _⟩
  · have hd : l.isEmpty = false := by simpa using h0
    have Hv := Lib.hid (show vpk l = vn l by rw [vpk, hd]; rfl)
    go_enter Try.func77, Try.ntmps77
    go_wp2_with fail
    refine (spec_validName l w hs).mono ?_
    rintro e w1 ⟨rfl, hb⟩
    go_wp2_with fail
    go_ret
    rw [Hv.out]
    exact ⟨rfl, hb⟩







set_option maxRecDepth 100000 in
set_option maxHeartbeats 400000 in
theorem impl_nameOrNothing (l : Bs) (w : World) (hs : l.length ≤ 8000000) :
    Calls Try.prog 101 #[.string (mk l)] w fun e w' => e = .returned (.string (mk (nameOr l))) ∧ Below w.heap.size w w' := by
  cases hv : vn l
  · have Hn := Lib.hid (nameOr_no hv)
    have Hv := Lib.hid hv
    clear hv
    go_enter Try.func101, Try.ntmps101
    go_wp2_with fail
    refine (impl_ValidName l w hs).mono ?_
    rintro e w1 ⟨rfl, hb⟩
    rw [Hv.out]
    go_wp2_with fail
    go_ret
    rw [Hn.out]
    exact ⟨rfl, hb⟩
  · have Hn := Lib.hid (nameOr_yes hv)
    have Hv := Lib.hid hv
    clear hv
    go_enter Try.func101, Try.ntmps101
    go_wp2_with fail
    refine (impl_ValidName l w hs).mono ?_
    rintro e w1 ⟨rfl, hb⟩
    rw [Hv.out]
    go_wp2_with fail
    go_ret
    rw [Hn.out]
    exact ⟨rfl, hb⟩

set_option maxRecDepth 100000 in
set_option maxHeartbeats 400000 in
theorem impl_ChildOf (p s : Bs) (w : World) (hp : p.length ≤ 8000000) (hs : s.length ≤ 8000000) :
    Calls Try.prog 100 #[.string (mk p), .string (mk s)] w fun e w' => e = .returned (.string (mk (childOf p s))) ∧ Below w.heap.size w w' := by
  cases hv : vpk p
  · have Hf := Lib.hid (show childOf p s = [] by simp [childOf, hv])
    have Hv := Lib.hid hv
    clear hv
    go_enter Try.func100, Try.ntmps100
    go_wp2_with fail
    refine (impl_validPackage p w hp).mono ?_
    rintro e w1 ⟨rfl, hb⟩
    rw [Hv.out]
    go_wp2_with fail
    go_ret
    rw [Hf.out]
    exact ⟨rfl, hb⟩
  · cases hv2 : vp s
    · have Hf := Lib.hid (show childOf p s = [] by simp [childOf, hv2])
      have Hv := Lib.hid hv
      have Hv2 := Lib.hid hv2
      clear hv hv2
      go_enter Try.func100, Try.ntmps100
      go_wp2_with fail
      refine (impl_validPackage p w hp).mono ?_
      rintro e w1 ⟨rfl, hb⟩
      rw [Hv.out]
      go_wp2_with fail
      refine (impl_ValidPart s w1 (by omega)).mono ?_
      rintro e w2 ⟨rfl, hb2⟩
      rw [Hv2.out]
      go_wp2_with fail
      go_ret
      rw [Hf.out]
      exact ⟨rfl, bt hb hb2⟩
    · have Hf := Lib.hid (show childOf p s = nameOr (jn [p, s]) by rw [child_jn (vp_ne hv2)]; simp [childOf, nameOr, hv, hv2])
      have hl1 := vpk_len hv
      have hl2 := (vp_len hv2).2
      have Hv := Lib.hid hv
      have Hv2 := Lib.hid hv2
      have Hj := Lib.hid (jn_len [p, s] 100 (fun q hq => by simp at hq; rcases hq with rfl | rfl <;> omega))
      clear hv hv2
      go_enter Try.func100, Try.ntmps100
      go_wp2_with fail
      refine (impl_validPackage p w hp).mono ?_
      rintro e w1 ⟨rfl, hb⟩
      rw [Hv.out]
      go_wp2_with fail
      refine (impl_ValidPart s w1 (by omega)).mono ?_
      rintro e w2 ⟨rfl, hb2⟩
      rw [Hv2.out]
      go_wp2_with fail
      refine (impl_joinWithDots _ [p, s] _ (reads_lit w2 [p, s] 9 (by unfold maxLen; simp)) (by simp) (fun q hq => by simp at hq; rcases hq with rfl | rfl <;> omega)).mono ?_
      rintro e w3 ⟨rfl, rfl⟩
      have hb3 := Lib.hid (Below.alloc (bt hb hb2) (by have := hb.size; have := hb2.size; omega) (.cells #[.string (mk p), .string (mk s)] 9))
      go_wp2_with fail
      refine (impl_nameOrNothing _ _ (by have := Hj.out; simp at this; omega)).mono ?_
      rintro e w4 ⟨rfl, hb4⟩
      have hb5 := Lib.hid (bt hb3.out hb4)
      go_wp2_with fail
      go_ret
      rw [Hf.out]
      exact ⟨rfl, hb5.out⟩

set_option maxRecDepth 100000 in
set_option maxHeartbeats 400000 in
theorem spec_child (p s : Bs) (w : World) (hp : p.length ≤ 8000000) (hs : s.length ≤ 8000000) :
    Calls Try.prog 99 #[.string (mk p), .string (mk s)] w fun e w' => e = .returned (.string (mk (child p s))) ∧ w = w' := by
  by_cases h0 : p = []
  · subst h0
    go_enter Try.func99, Try.ntmps99
    go_wp2_with fail
    go_ret
    exact ⟨rfl, rfl⟩
  · have hd : p.isEmpty = false := by simpa using h0
    have Hf := Lib.hid (show child p s = p ++ 46 :: s by rw [child, if_neg h0])
    go_enter Try.func99, Try.ntmps99
    go_wp2_with fail
    go_ret
    rw [Hf.out]
    exact ⟨ret_str (by simp), rfl⟩

end Go.Proofs.Ythpegpakdofhfaa
