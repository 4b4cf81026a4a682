/- Contracts of the functions that tell what is under a package. -/
import Derived.Test.YtolhgklbkjdpiaaGreatKin
set_option linter.unusedVariables false
set_option linter.unusedSimpArgs false
namespace Go.Proofs.YtolhgklbkjdpiaaGreat
open Go.RowKit Go.Proofs.YtolhgklbkjdpiaaGreat.Nm

set_option maxRecDepth 100000 in
set_option maxHeartbeats 400000 in
theorem strings_HasPrefix (l q : Bs) (w : World) (hl : l.length ≤ 9000000) (hq : q.length ≤ 9000000) :
    Calls Tryz.prog 151 #[.string (mk l), .string (mk q)] w fun e w' => e = .returned (.bool (pre q l)) ∧ w = w' := by
  by_cases h : q.length ≤ l.length
  · have h' : ¬ (l.length : Int) < (q.length : Int) := by omega
    have hf : pre q l = (l.take q.length == q) := by rw [pre, decide_eq_true h]; rfl
    have Hf := Lib.hid hf
    clear hf
    go_enter Tryz.func151, Tryz.ntmps151
    go_wp2
    go_ret
    rw [Hf.out]
    exact ⟨rfl, rfl⟩
  · have Hf := Lib.hid (show pre q l = false by rw [pre, decide_eq_false h]; rfl)
    have h' : (l.length : Int) < (q.length : Int) := by omega
    go_enter Tryz.func151, Tryz.ntmps151
    go_wp2
    go_ret
    rw [Hf.out]
    exact ⟨rfl, rfl⟩

set_option maxRecDepth 100000 in
set_option maxHeartbeats 400000 in
theorem impl_IsUnder (s p : Bs) (w : World) (hs : s.length ≤ 2000000) (hp : p.length ≤ 2000000) :
    Calls Tryz.prog 150 #[.string (mk s), .string (mk p)] w fun e w' => e = .returned (.bool (isUnder s p)) ∧ Below w.heap.size w w' := by
  have Hf := Lib.hid (show isUnder s p = (vn s && vpk p && under s p) from rfl)
  cases hv : vn s
  · have Hv := Lib.hid hv
    clear hv
    go_enter Tryz.func150, Tryz.ntmps150
    go_wp2_with fail
    refine (impl_ValidName s w (by omega)).mono ?_
    rintro e w1 ⟨rfl, hb⟩
    rw [Hv.out]
    go_wp2_with fail
    go_ret
    rw [Hf.out, Hv.out]
    exact ⟨rfl, hb⟩
  · cases hv2 : vpk p
    · have Hv := Lib.hid hv
      have Hv2 := Lib.hid hv2
      clear hv hv2
      go_enter Tryz.func150, Tryz.ntmps150
      go_wp2_with fail
      refine (impl_ValidName s w (by omega)).mono ?_
      rintro e w1 ⟨rfl, hb⟩
      rw [Hv.out]
      go_wp2_with fail
      refine (impl_validPackage p w1 (by omega)).mono ?_
      rintro e w2 ⟨rfl, hb2⟩
      rw [Hv2.out]
      go_wp2_with fail
      go_ret
      rw [Hf.out, Hv.out, Hv2.out]
      exact ⟨rfl, bt hb hb2⟩
    · have Hv := Lib.hid hv
      have Hv2 := Lib.hid hv2
      clear hv hv2
      by_cases h0 : p = []
      · have Hu := Lib.hid (show isUnder s p = true by rw [Hf.out, Hv.out, Hv2.out, h0]; rfl)
        subst h0
        go_enter Tryz.func150, Tryz.ntmps150
        go_wp2_with fail
        refine (impl_ValidName s w (by omega)).mono ?_
        rintro e w1 ⟨rfl, hb⟩
        rw [Hv.out]
        go_wp2_with fail
        refine (impl_validPackage [] w1 (by simp)).mono ?_
        rintro e w2 ⟨rfl, hb2⟩
        rw [Hv2.out]
        go_wp2_with fail
        go_ret
        rw [Hu.out]
        exact ⟨rfl, bt hb hb2⟩
      · have hd : p.isEmpty = false := by simpa using h0
        by_cases h1 : s = p
        · have Hu := Lib.hid (show isUnder s p = true by rw [Hf.out, Hv.out, Hv2.out, under, h1]; simp)
          subst h1
          go_enter Tryz.func150, Tryz.ntmps150
          go_wp2_with fail
          refine (impl_ValidName s w (by omega)).mono ?_
          rintro e w1 ⟨rfl, hb⟩
          rw [Hv.out]
          go_wp2_with fail
          refine (impl_validPackage s w1 (by omega)).mono ?_
          rintro e w2 ⟨rfl, hb2⟩
          rw [Hv2.out]
          go_wp2_with fail
          go_ret
          rw [Hu.out]
          exact ⟨rfl, bt hb hb2⟩
        · have hd1 : (s == p) = false := by simpa using h1
          have Hu := Lib.hid (show isUnder s p = pre (p ++ [46]) s by rw [Hf.out, Hv.out, Hv2.out, under, hd, hd1]; rfl)
          go_enter Tryz.func150, Tryz.ntmps150
          go_wp2_with fail
          refine (impl_ValidName s w (by omega)).mono ?_
          rintro e w1 ⟨rfl, hb⟩
          rw [Hv.out]
          go_wp2_with fail
          refine (impl_validPackage p w1 (by omega)).mono ?_
          rintro e w2 ⟨rfl, hb2⟩
          rw [Hv2.out]
          go_wp2_with fail
          refine (strings_HasPrefix s (p ++ [46]) w2 (by omega) (by simp; omega)).mono ?_
          rintro e w3 ⟨rfl, rfl⟩
          go_wp2_with fail
          go_ret
          rw [Hu.out]
          exact ⟨rfl, bt hb hb2⟩

set_option maxRecDepth 100000 in
set_option maxHeartbeats 400000 in
theorem spec_under (s p : Bs) (w : World) (hs : s.length ≤ 2000000) (hp : p.length ≤ 2000000) :
    Calls Tryz.prog 98 #[.string (mk s), .string (mk p)] w fun e w' => e = .returned (.bool (under s p)) ∧ w = w' := by
  by_cases h0 : p = []
  · subst h0
    go_enter Tryz.func98, Tryz.ntmps98
    go_wp2_with fail
    go_ret
    exact ⟨rfl, rfl⟩
  · have hd : p.isEmpty = false := by simpa using h0
    by_cases h1 : s = p
    · have Hu := Lib.hid (show under s p = true by rw [under, h1]; simp)
      subst h1
      go_enter Tryz.func98, Tryz.ntmps98
      go_wp2_with fail
      go_ret
      rw [Hu.out]
      exact ⟨rfl, rfl⟩
    · have hd1 : (s == p) = false := by simpa using h1
      by_cases hl : p.length < s.length
      · have Hu := Lib.hid (show under s p = (s.take (p.length + 1) == p ++ [46]) by
          have e : (p ++ [46]).length = p.length + 1 := by simp
          rw [under, hd, hd1, pre, e, decide_eq_true (by omega : p.length + 1 ≤ s.length)]; rfl)
        have hl' : (p.length : Int) < (s.length : Int) := by omega
        go_enter Tryz.func98, Tryz.ntmps98
        go_wp2_with fail
        go_ret
        rw [Hu.out]
        exact ⟨rfl, rfl⟩
      · have Hu := Lib.hid (show under s p = false by
          have e : (p ++ [46]).length = p.length + 1 := by simp
          rw [under, hd, hd1, pre, e, decide_eq_false (by omega : ¬ p.length + 1 ≤ s.length)]; rfl)
        have hl' : ¬ (p.length : Int) < (s.length : Int) := by omega
        go_enter Tryz.func98, Tryz.ntmps98
        go_wp2_with fail
        go_ret
        rw [Hu.out]
        exact ⟨rfl, rfl⟩

end Go.Proofs.YtolhgklbkjdpiaaGreat
