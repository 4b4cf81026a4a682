/- FnExactNamesAbove returns true for every argument. -/
import Derived.Test.YtpopbcidnhepiadStrs
import Derived.Test.YtpopbcidnhepiadAbove
import Derived.Test.YtpopbcidnhepiadPlain4
import Derived.Test.YtpopbcidnhepiadFrame
set_option linter.unusedVariables false
set_option linter.unusedSimpArgs false
namespace Go.Proofs.Ytpopbcidnhepiad.FnExactNamesAbove
open Go.ChangeShapes Go.WideShapes Go.ChangeAt Go.RowKit Go.Proofs.Ytpopbcidnhepiad.Nm
open Go.ChangeMaps (open_string shut_string)

set_option maxRecDepth 100000 in
set_option maxHeartbeats 1000000 in
theorem walk (a : Bs) (w : World) (w0 : a.length ≤ maxLen) :
    Calls Try.prog 4 #[.string (mk a)] w fun e w' => e = .returned (.bool true) ∧ Below w.heap.size w w' := by
  unfold maxLen at w0
  by_cases hn0 : (1048576 : Int) < (a.length : Int)
  · go_enter Try.func4, Try.ntmps4
    go_wp2_with fail
    go_ret
    exact ⟨rfl, Below.refl _ _⟩
  have hpl : (namesAbove a).length ≤ 3 := by
    unfold namesAbove
    split
    · rename_i h
      rw [above_len]; exact (vps_iff.1 (show vps (split a) = true from h)).1.2
    · simp
  go_enter Try.func4, Try.ntmps4
  go_wp2_with fail
  refine (spec_NamesAbove a w (by omega)).mono ?_
  rintro e w1 ⟨v0, rfl, hown0, hb1⟩
  have Hr0 := Lib.hid (Reads.of_owns hown0)
  clear hown0
  go_wp2_with fail
  refine (impl_NamesAbove a w1 (by omega)).mono ?_
  rintro e w2 ⟨v1, rfl, hown1, hb2⟩
  obtain ⟨xs, hxs⟩ : ∃ xs, xs = namesAbove a := ⟨_, rfl⟩
  rw [← hxs] at hpl hown1 Hr0
  have Hxs := Lib.hid hxs
  clear hxs
  have hB1 := hb2.size
  have Hown1 := Lib.hid hown1
  clear hown1
  go_wp2_with fail
  refine (laws_eqStringS v1 v0 xs xs w2 (Reads.of_owns Hown1.out) (Hr0.out.below hb2) (by omega) (by omega)).mono ?_
  rintro e w3 ⟨rfl, hb3⟩
  rw [decide_eq_true (rfl : xs = xs)]
  go_wp2_with fail
  refine (laws_markStringS w1.heap.size v1 xs 1 w3 (owns_below Hown1.out hb3) (Nat.le_trans hB1 hb3.size) (by omega) (by omega)).mono ?_
  rintro e w4 ⟨rfl, hown4, hb4⟩
  have hml := marks_len 1 xs.length
  have Hr4 := Lib.hid (Reads.of_owns (xs := marks 1 xs.length) (by rw [hml]; exact hown4))
  clear hml hown4
  have Hc4 := Lib.hid ((hb2.trans (hb3.mono hB1)).trans hb4)
  have Hb1 := Lib.hid hb1
  clear hb1 hb2 hb3 hb4 hB1
  go_wp2_with fail
  refine (laws_heldStringS v1 xs.length 1 w4 Hr4.out (by omega) (by omega)).mono ?_
  rintro e w5 ⟨rfl, hb5⟩
  have Hb5 := Lib.hid hb5
  clear hb5
  go_wp2_with fail
  refine (impl_NamesAbove a w5 (by omega)).mono ?_
  rintro e w6 ⟨v2, rfl, hown6, hb6⟩
  rw [← Hxs.out] at hown6
  have Hr6 := Lib.hid (Reads.of_owns hown6)
  have Hb6 := Lib.hid (bt Hb5.out hb6)
  clear hown6 hb6
  have Hc6 := Lib.hid (Hc4.out.trans (Hb6.out.mono Hc4.out.size))
  go_wp2_with fail
  refine (laws_eqStringS v2 v0 xs xs w6 Hr6.out (Hr0.out.below Hc6.out) (by omega) (by omega)).mono ?_
  rintro e w7 ⟨rfl, hb7⟩
  rw [decide_eq_true (rfl : xs = xs)]
  have Hb7 := Lib.hid (bt Hb6.out hb7)
  clear hb7
  go_wp2_with fail
  refine (laws_heldStringS v1 xs.length 1 w7 (Hr4.out.below Hb7.out) (by omega) (by omega)).mono ?_
  rintro e w8 ⟨rfl, hb8⟩
  have Hend := Lib.hid (bt Hb1.out (Hc4.out.trans ((bt Hb7.out hb8).mono Hc4.out.size)))
  clear hb8
  go_wp2_with fail
  go_ret
  exact ⟨rfl, Hend.out⟩

/-! ### THE STEP TO THE ROW -/
set_option maxRecDepth 100000 in
theorem lifted (os : Os) (started : os.Started) (H : Type) (enc : TypeId × Value → H) :
    ReturnsInHanded {} Try.checked os 4 .any (Rows.fnExactNamesAboveSpec.pre6 enc Try.prog Try.f4 Rows.fnExactNamesAboveRow.domain false) (Rows.fnExactNamesAboveSpec.post enc Try.prog Try.f4 false true false false) := by
  refine returnsInHanded_of_change (C := Try.checked) own started (by kernel_rfl) Try.func4
    (ChangeSpec.witness6 (enc := enc) (C := Try.checked) false ⟨#[], #[.string ByteArray.empty], []⟩ 8 (by kernel_rfl) (by kernel_rfl) (by kernel_rfl) (by kernel_rfl)) ?_
  intro W base args ds gs before hval0 hW hcnd _
  have hval : ∀ (j : Nat) t v, Try.f4.params[j]? = some t → args[j]? = some v → Value.okWide Try.prog W .any base t v := hval0
  have hW' := hW
  obtain ⟨p, q, hA0, hV, rfl, hfz, hnd⟩ := hW
  have hA : DataW.TrodAll enc Try.prog W 0 (fun _ => true) true Try.f4.params.toList args.toList ds p := hA0
  rw [Try.params4] at hA hval
  obtain ⟨v0, vs0, d0, ds0, p0, q0, hargs, rfl, rfl, h0, r0⟩ := trodAll_cons hA
  obtain ⟨rfl, rfl, rfl⟩ := trodAll_nil r0
  obtain rfl : args = #[v0] := by cases args; simp_all
  obtain ⟨rfl, rfl⟩ := trodVars_none hV
  obtain ⟨s0, rfl, rfl, rfl, ws0⟩ := open_string Try.underlying9 (hval 0 9 v0 rfl rfl) h0
  obtain ⟨l0, hl0⟩ := mk_of s0
  have w0 : l0.length ≤ maxLen := by rw [← mk_size, ← hl0]; exact ws0
  clear hA0 hval0
  rw [hl0]
  refine (walk l0 W w0).mono fun e W' ⟨he, bel⟩ => ?_
  subst he
  rw [← hl0]
  exact ⟨_, rfl, _, _, _, [], _, [], hW', trodAll_mk1 (shut_bool Try.underlying4 _), (trodAll_cons_mk (shut_string Try.underlying9 ws0) trodAll_mk0), rfl, bel.frame _, fun h => by cases h⟩

theorem over : Rows.fnExactNamesAboveRow.holds Try.pinned (OpenSpec.ofChange Rows.fnExactNamesAboveSpec) :=
  OpenClaim.holds_of_wide 4 Try.f4 rfl rfl rfl rfl rfl rfl rfl ⟨rfl, rfl, rfl, rfl, rfl⟩ rfl rfl rfl rfl rfl (by kernel_rfl) Try.func4 (by kernel_rfl)
    (of_decide_eq_true (by kernel_rfl)) (by unfold Func.isWrapper; first | (rw [if_pos (by decide +kernel)]; kernel_rfl) | (rw [if_neg (by decide +kernel)]; exact ⟨rfl, rfl⟩))
    (fun os started H enc _ => lifted os started H enc)

/-- THE STATEMENT -/
theorem proved : Rows.FnExactNamesAboveSaid := over
end Go.Proofs.Ytpopbcidnhepiad.FnExactNamesAbove
