/- FnExactValidBody returns true for every argument. -/
import Derived.Test.YthpegpakdofhfaaBodies
import Derived.Test.YthpegpakdofhfaaEqTree
import Derived.Test.YthpegpakdofhfaaSzTree
import Derived.Test.YthpegpakdofhfaaToTree
import Derived.Test.YthpegpakdofhfaaReadIn
import Derived.Test.YthpegpakdofhfaaFrame
set_option linter.unusedVariables false
set_option linter.unusedSimpArgs false
namespace Go.Proofs.Ythpegpakdofhfaa.FnExactValidBody
open Go.ChangeShapes Go.WideShapes Go.ChangeAt Go.RowKit Go.Proofs.Ythpegpakdofhfaa.Nm

set_option maxRecDepth 100000 in
set_option maxHeartbeats 1000000 in
theorem walk (v : Value) (ss : List Stm) (w : World) (h : StmsIn w (fun _ => True) v ss ∧ Short maxLen ss) :
    Calls Try.prog 3 #[v] w fun e w' => e = .returned (.bool true) ∧ Below w.heap.size w w' := by
  obtain ⟨hr, hz⟩ := h
  have Hr := Lib.hid hr
  have Hz := Lib.hid hz
  obtain ⟨aa, ca, rfl, hlc, hm⟩ := hr.len
  clear hr hz hm
  go_enter Try.func3, Try.ntmps3
  go_wp2_with (go_at_call 14; refine (laws_szStmtS _ ss _ 1048576 _ Hr.out Hz.out (by omega)).mono ?_; rintro _ w1 ⟨r, rfl, hr, hb1⟩)
  · go_ret
    exact ⟨rfl, by (repeat (with_reducible first | exact Below.refl _ _ | assumption | refine ba ?_ _ | refine bd ?_ | refine bdN ?_ _ | refine bs ?_ (by first | exact Nat.le_refl _ | (dsimp only; omega) | (simp; done)) _ | refine bt ?_ (by assumption)))⟩
  · have hc : stmsCost ss ≤ 1048576 := by omega
    have hsh := Lib.hid (short_of hc)
    have hl : ss.length ≤ 1048576 := by unfold stmsCost at hc; omega
    have Hs8 := Lib.hid (short_mono (B := 8000000) (by omega) hsh.out)
    clear hr hc
    go_wp2_with (go_at_call 16; refine (laws_toStmtS _ ss _ _ (Hr.out.below hb1) hl).mono ?_; rintro _ w2 ⟨v2, rfl, ho2, hb2⟩)
    have Ho2 := Lib.hid ho2
    clear ho2
    go_wp2_with (go_at_call 15; refine (spec_ValidBody _ ss (fun _ => True) _ (StmsIn.of_owns Ho2.out (fun _ _ => trivial)) Hs8.out).mono ?_; rintro _ w3 ⟨rfl, hb3⟩)
    have Hb3 := Lib.hid (show Below w.heap.size w w3 by (repeat (with_reducible first | exact Below.refl _ _ | assumption | refine ba ?_ _ | refine bd ?_ | refine bdN ?_ _ | refine bs ?_ (by first | exact Nat.le_refl _ | (dsimp only; omega) | (simp; done)) _ | refine bt ?_ (by assumption))))
    clear hb1 hb2 hb3
    go_wp2_with (go_at_call 16; refine (laws_toStmtS _ ss _ _ (Hr.out.below Hb3.out) hl).mono ?_; rintro _ w4 ⟨v4, rfl, ho4, hb4⟩)
    have Ho4 := Lib.hid ho4
    obtain ⟨a4, c4, rfl⟩ := owns_shape ho4
    clear ho4
    go_wp2_with (go_at_call 17; refine (impl_ValidBody _ ss (fun _ => True) _ (StmsIn.of_owns Ho4.out (fun _ _ => trivial)) Hs8.out).mono ?_; rintro _ w5 ⟨rfl, hb5⟩)
    have Hb5 := Lib.hid (show Below w.heap.size w w5 by have := Hb3.out; (repeat (with_reducible first | exact Below.refl _ _ | assumption | refine ba ?_ _ | refine bd ?_ | refine bdN ?_ _ | refine bs ?_ (by first | exact Nat.le_refl _ | (dsimp only; omega) | (simp; done)) _ | refine bt ?_ (by assumption))))
    have Ho5 := Lib.hid (owns_below Ho4.out hb5)
    clear hb4 hb5
    generalize okBody ss = ok at *
    go_wp2_with (go_at_call 16; refine (laws_toStmtS _ ss _ _ (Hr.out.below Hb5.out) hl).mono ?_; rintro _ w6 ⟨v6, rfl, ho6, hb6⟩)
    have Ho6 := Lib.hid ho6
    have Ho7 := Lib.hid (owns_below Ho5.out hb6)
    clear ho6
    have hse : sameStms ss ss = true := decide_eq_true rfl
    go_wp2_with (go_at_call 18; refine (laws_eqStmtS _ _ ss ss (fun _ => True) (fun _ => True) _ (StmsIn.of_owns Ho7.out (fun _ _ => trivial)) (StmsIn.of_owns Ho6.out (fun _ _ => trivial))).mono ?_; rintro _ w7 ⟨rfl, hb7⟩; rw [hse])
    have Hb7 := Lib.hid (show Below w.heap.size w w7 by have := Hb5.out; (repeat (with_reducible first | exact Below.refl _ _ | assumption | refine ba ?_ _ | refine bd ?_ | refine bdN ?_ _ | refine bs ?_ (by first | exact Nat.le_refl _ | (dsimp only; omega) | (simp; done)) _ | refine bt ?_ (by assumption))))
    go_ret
    exact ⟨rfl, Hb7.out⟩

/-! ### THE STEP TO THE ROW -/
set_option maxRecDepth 100000 in
theorem lifted (os : Os) (started : os.Started) (H : Type) (enc : TypeId × Value → H) :
    ReturnsInHanded {} Try.checked os 3 .any (Rows.fnExactValidBodySpec.pre6 enc Try.prog Try.f3 Rows.fnExactValidBodyRow.domain false) (Rows.fnExactValidBodySpec.post enc Try.prog Try.f3 false true false false) := by
  refine returnsInHanded_of_change (C := Try.checked) own started (by kernel_rfl) Try.func3
    (ChangeSpec.witness6 (enc := enc) (C := Try.checked) false ⟨#[], #[.slice none 0 0], []⟩ 8 (by kernel_rfl) (by kernel_rfl) (by kernel_rfl) (by kernel_rfl)) ?_
  intro W base args ds gs before hval0 hW hcnd _
  have hval : ∀ (j : Nat) t v, Try.f3.params[j]? = some t → args[j]? = some v → Value.okWide Try.prog W .any base t v := hval0
  have hW' := hW
  obtain ⟨p, q, hA0, hV, rfl, hfz, hnd⟩ := hW
  have hA : DataW.TrodAll enc Try.prog W 0 (fun _ => true) true Try.f3.params.toList args.toList ds p := hA0
  rw [Try.params3] at hA hval
  obtain ⟨v0, vs0, d0, ds0, p0, q0, hargs, rfl, rfl, h0, r0⟩ := trodAll_cons hA
  obtain ⟨rfl, rfl, rfl⟩ := trodAll_nil r0
  obtain rfl : args = #[v0] := by cases args; simp_all
  obtain ⟨rfl, rfl⟩ := trodVars_none hV
  obtain ⟨a0, len0, cap0, rfl⟩ := okWide_slice Try.underlying22 (hval 0 22 v0 rfl rfl)
  have k0 := h0
  have lt0 : ∀ x ∈ p0, x.block < W.heap.size := by obtain ⟨m, hm⟩ := k0; exact DataW.trod_lt m _ _ _ hm
  obtain ⟨xs0, w0⟩ : ∃ ss, StmsIn W (fun _ => True) (.slice a0 len0 cap0) ss ∧ Short maxLen ss := by
    obtain ⟨fuel, hf⟩ := h0
    obtain ⟨a', len', cap', ss, e0, _, e1, e2⟩ := read_stms hf
    simp [Value.cells] at e0
    obtain ⟨rfl, rfl, rfl⟩ := e0
    exact ⟨ss, e1, e2⟩
  clear hA0 hval0
  refine (walk _ xs0 W w0).mono fun e W' ⟨he, bel⟩ => ?_
  subst he
  exact ⟨_, rfl, _, _, _, [], _, [], hW', trodAll_mk1 (shut_bool Try.underlying4 _), (trodAll_cons_mk (Below.trod laidOut (by kernel_rfl) (of_decide_eq_true (by kernel_rfl)) k0 bel lt0) trodAll_mk0), rfl, bel.frame _, fun h => by cases h⟩

theorem over : Rows.fnExactValidBodyRow.holds Try.pinned (OpenSpec.ofChange Rows.fnExactValidBodySpec) :=
  OpenClaim.holds_of_wide 3 Try.f3 rfl rfl rfl rfl rfl rfl rfl ⟨rfl, rfl, rfl, rfl, rfl⟩ rfl rfl rfl rfl rfl (by kernel_rfl) Try.func3 (by kernel_rfl)
    (of_decide_eq_true (by kernel_rfl)) (by unfold Func.isWrapper; first | (rw [if_pos (by decide +kernel)]; kernel_rfl) | (rw [if_neg (by decide +kernel)]; exact ⟨rfl, rfl⟩))
    (fun os started H enc _ => lifted os started H enc)

/-- THE STATEMENT -/
theorem proved : Rows.FnExactValidBodySaid := over
end Go.Proofs.Ythpegpakdofhfaa.FnExactValidBody
