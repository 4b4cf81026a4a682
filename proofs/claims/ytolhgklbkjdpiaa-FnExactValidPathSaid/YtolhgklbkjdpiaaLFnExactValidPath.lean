/- FnExactValidPath returns true for every argument. -/
import Derived.Test.YtolhgklbkjdpiaaPaths
import Derived.Test.YtolhgklbkjdpiaaFrame
set_option linter.unusedVariables false
set_option linter.unusedSimpArgs false
namespace Go.Proofs.Ytolhgklbkjdpiaa.FnExactValidPath
open Go.ChangeShapes Go.WideShapes Go.ChangeAt Go.RowKit Go.Proofs.Ytolhgklbkjdpiaa.Nm

set_option maxRecDepth 100000 in
set_option maxHeartbeats 1000000 in
theorem walk (v : Value) (xs : List Int) (w : World) (hr : IntsIn w v xs) :
    Calls Try.prog 6 #[v] w fun e w' => e = .returned (.bool true) ∧ Below w.heap.size w w' := by
  have Hr := Lib.hid hr
  obtain ⟨aa, ca, rfl, hlc, hm⟩ := hr.len
  clear hr hm
  by_cases hn0 : (1048576 : Int) < (xs.length : Int)
  · go_enter Try.func6, Try.ntmps6
    go_wp2_with fail
    go_ret
    exact ⟨rfl, by (repeat (with_reducible first | exact Below.refl _ _ | assumption | refine ba ?_ _ | refine bd ?_ | refine bdN ?_ _ | refine bs ?_ (by first | exact Nat.le_refl _ | (dsimp only; omega) | (simp; done)) _ | refine bt ?_ (by assumption)))⟩
  have hn1 : xs.length ≤ 1048576 := by omega
  go_enter Try.func6, Try.ntmps6
  go_wp2_with (go_at_call 33; refine (laws_toIntS _ xs _ Hr.out hn1).mono ?_; rintro _ w1 ⟨v1, rfl, hown1, hb1⟩; have H1 := Lib.hid (IntsIn.of_owns hown1); have Hb1 := Lib.hid hb1; clear hown1 hb1)
  go_wp2_with (go_at_call 32; refine (spec_ValidPath _ xs _ H1.out).mono ?_; rintro _ w2 ⟨rfl, hb2⟩; have Hb2 := Lib.hid (bt Hb1.out hb2); clear hb2)
  go_wp2_with (go_at_call 33; refine (laws_toIntS _ xs _ (Hr.out.below Hb2.out) hn1).mono ?_; rintro _ w3 ⟨v3, rfl, hown3, hb3⟩; have H3 := Lib.hid (IntsIn.of_owns hown3); have Hb3 := Lib.hid (bt Hb2.out hb3); clear hown3 hb3)
  go_wp2_with (go_at_call 34; refine (impl_ValidPath _ xs _ H3.out).mono ?_; rintro _ _ ⟨rfl, rfl⟩)
  go_wp2_with (go_at_call 33; refine (laws_toIntS _ xs _ (Hr.out.below Hb3.out) hn1).mono ?_; rintro _ w4 ⟨v4, rfl, hown4, hb4⟩; have H4 := Lib.hid (IntsIn.of_owns hown4); have H34 := Lib.hid (H3.out.below hb4); have Hb4 := Lib.hid (bt Hb3.out hb4); clear hown4 hb4)
  go_wp2_with (go_at_call 35; refine (laws_eqIntS _ _ xs xs _ H34.out H4.out).mono ?_; rintro _ w5 ⟨rfl, hb5⟩; rw [decide_eq_true (rfl : xs = xs)]; have Hb5 := Lib.hid (bt Hb4.out hb5); clear hb5)
  go_ret
  exact ⟨rfl, Hb5.out⟩

/-! ### THE STEP TO THE ROW -/
set_option maxRecDepth 100000 in
theorem lifted (os : Os) (started : os.Started) (H : Type) (enc : TypeId × Value → H) :
    ReturnsInHanded {} Try.checked os 6 .any (Rows.fnExactValidPathSpec.pre6 enc Try.prog Try.f6 Rows.fnExactValidPathRow.domain false) (Rows.fnExactValidPathSpec.post enc Try.prog Try.f6 false true false false) := by
  refine returnsInHanded_of_change (C := Try.checked) own started (by kernel_rfl) Try.func6
    (ChangeSpec.witness6 (enc := enc) (C := Try.checked) false ⟨#[], #[.slice none 0 0], []⟩ 8 (by kernel_rfl) (by kernel_rfl) (by kernel_rfl) (by kernel_rfl)) ?_
  intro W base args ds gs before hval0 hW hcnd _
  have hval : ∀ (j : Nat) t v, Try.f6.params[j]? = some t → args[j]? = some v → Value.okWide Try.prog W .any base t v := hval0
  have hW' := hW
  obtain ⟨p, q, hA0, hV, rfl, hfz, hnd⟩ := hW
  have hA : DataW.TrodAll enc Try.prog W 0 (fun _ => true) true Try.f6.params.toList args.toList ds p := hA0
  rw [Try.params6] at hA hval
  obtain ⟨v0, vs0, d0, ds0, p0, q0, hargs, rfl, rfl, h0, r0⟩ := trodAll_cons hA
  obtain ⟨rfl, rfl, rfl⟩ := trodAll_nil r0
  obtain rfl : args = #[v0] := by cases args; simp_all
  obtain ⟨rfl, rfl⟩ := trodVars_none hV
  obtain ⟨a0, len0, cap0, rfl⟩ := okWide_slice Try.underlying53 (hval 0 53 v0 rfl rfl)
  have k0 := h0
  have lt0 : ∀ x ∈ p0, x.block < W.heap.size := by obtain ⟨m, hm⟩ := k0; exact DataW.trod_lt m _ _ _ hm
  obtain ⟨xs0, w0⟩ : ∃ xs, IntsIn W (.slice a0 len0 cap0) xs := by
    obtain ⟨fuel, hf⟩ := h0
    exact ints_row Try.underlying53 Try.underlying3 (by kernel_rfl) hf
  clear hA0 hval0
  refine (walk _ xs0 W w0).mono fun e W' ⟨he, bel⟩ => ?_
  subst he
  exact ⟨_, rfl, _, _, _, [], _, [], hW', trodAll_mk1 (shut_bool Try.underlying4 _), (trodAll_cons_mk (Below.trod laidOut (by kernel_rfl) (of_decide_eq_true (by kernel_rfl)) k0 bel lt0) trodAll_mk0), rfl, bel.frame _, fun h => by cases h⟩

theorem over : Rows.fnExactValidPathRow.holds Try.pinned (OpenSpec.ofChange Rows.fnExactValidPathSpec) :=
  OpenClaim.holds_of_wide 6 Try.f6 rfl rfl rfl rfl rfl rfl rfl ⟨rfl, rfl, rfl, rfl, rfl⟩ rfl rfl rfl rfl rfl (by kernel_rfl) Try.func6 (by kernel_rfl)
    (of_decide_eq_true (by kernel_rfl)) (by unfold Func.isWrapper; first | (rw [if_pos (by decide +kernel)]; kernel_rfl) | (rw [if_neg (by decide +kernel)]; exact ⟨rfl, rfl⟩))
    (fun os started H enc _ => lifted os started H enc)

/-- THE STATEMENT -/
theorem proved : Rows.FnExactValidPathSaid := over
end Go.Proofs.Ytolhgklbkjdpiaa.FnExactValidPath
