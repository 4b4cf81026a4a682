/- FnHashOf returns true for every code. -/
import Derived.Test.YtgfnledbbnekhacDrawX
import Derived.Test.YtgfnledbbnekhacBothG
import Derived.Test.YtgfnledbbnekhacHash
import Derived.Test.YtgfnledbbnekhacFrame
set_option linter.unusedVariables false
set_option linter.unusedSimpArgs false
namespace Go.Proofs.Ytgfnledbbnekhac.Nm
theorem StmsIn.nil0 (w : World) : StmsIn w (fun _ => True) (.slice none 0 0) [] := ⟨none, 0, rfl, by simp, by unfold Go.maxLen; omega, fun hx => absurd hx (by simp)⟩
end Go.Proofs.Ytgfnledbbnekhac.Nm
namespace Go.Proofs.Ytgfnledbbnekhac.FnHashOf
open Go.ChangeShapes Go.WideShapes Go.ChangeAt Go.RowKit Go.Proofs.Ytgfnledbbnekhac.Nm

set_option maxRecDepth 100000 in
set_option maxHeartbeats 2000000 in
theorem walk (a : Option Addr) (n cap : Nat) (w : World) (hc : Code w w.heap.size a n cap) :
    Calls Try.prog 3 #[.slice a n cap] w fun e w' => e = .returned (.bool true) ∧ Below w.heap.size w w' := by
  by_cases hn : (1048576 : Int) < (n : Int)
  · go_enter Try.func3, Try.ntmps3
    go_wp2_with fail
    go_ret
    exact ⟨rfl, Below.refl _ _⟩
  · have Hc := Lib.hid hc
    clear hc
    obtain ⟨i1, hi1, hy0, hy1, hy2⟩ := info_parts infoStm
    have Hi1 := Lib.hid hi1
    have Hy0 := Lib.hid hy0
    have Hy1 := Lib.hid hy1
    have Hy2 := Lib.hid hy2
    clear hi1 hy0 hy1 hy2
    go_enter Try.func3, Try.ntmps3
    go_wp2_with fail
    refine (spec_DrawHashOf a n cap w Hc.out).mono ?_
    rintro e w1 ⟨v, ss, rfl, hown, hsh, hl4, hb1⟩
    obtain ⟨aa, ca, rfl⟩ := owns_shape hown
    have Hs8 := Lib.hid (short_mono (B := 8000000) (by omega) hsh)
    have Hown := Lib.hid hown
    have Hr := Lib.hid (show StmsIn w1 (fun _ => True) (.slice aa ss.length ca) ss from StmsIn.of_owns hown (fun _ _ => trivial))
    have Hb1 := Lib.hid hb1
    clear hown hsh hb1
    have hrange := Lib.hid (fun (h : okBody ss = true) => hashOf_range h)
    cases hok : okBody ss
    · have Hh := Lib.hid (show hashOf ss = -1 by unfold hashOf; rw [hok]; rfl)
      clear hok hrange
      go_wp2_with fail
      refine (impl_HashOf _ ss (fun _ => True) _ Hr.out Hs8.out).mono ?_
      rintro _ w2 ⟨rfl, hb2⟩
      rw [Hh.out]
      go_wp2_with fail
      refine (spec_HashOf _ ss (fun _ => True) _ (Hr.out.below hb2) Hs8.out).mono ?_
      rintro _ w3 ⟨rfl, hb3⟩
      rw [Hh.out]
      have Hb3 := Lib.hid (bt hb2 hb3)
      clear hb2 hb3
      go_wp2_with fail
      refine (spec_HashOf _ ss (fun _ => True) _ (Hr.out.below Hb3.out) Hs8.out).mono ?_
      rintro _ w4 ⟨rfl, hb4⟩
      rw [Hh.out]
      have Hb4 := Lib.hid (bt Hb1.out (bt Hb3.out hb4))
      clear hb4
      go_wp2_with fail
      go_ret
      exact ⟨rfl, Hb4.out⟩
    · obtain ⟨hk0, hk1⟩ := hrange.out hok
      have Hnil := Lib.hid (show hashOf [] = 1 by decide)
      clear hrange hok
      go_wp2_with fail
      refine (impl_HashOf _ ss (fun _ => True) _ Hr.out Hs8.out).mono ?_
      rintro _ w2 ⟨rfl, hb2⟩
      go_wp2_with fail
      refine (spec_HashOf _ ss (fun _ => True) _ (Hr.out.below hb2) Hs8.out).mono ?_
      rintro _ w3 ⟨rfl, hb3⟩
      have Hb3 := Lib.hid (bt hb2 hb3)
      have Hw3 := Lib.hid (bt Hb1.out Hb3.out)
      have Hown3 := Lib.hid (owns_below Hown.out Hb3.out)
      have Hh := Lib.hid (rfl : hashOf ss = hashOf ss)
      obtain ⟨hv, hhv⟩ : ∃ hv, hv = hashOf ss := ⟨_, rfl⟩
      have HV := Lib.hid hhv
      rw [← hhv] at hk0 hk1 ⊢
      clear hb2 hb3 hhv Hh
      go_wp2_with (at_builtin; refine wpList_append_bothG rfl _ _ 23 rfl w3.heap.size 47 i1 _ 5 56 Try.underlying23 Hi1.out Hy0.out Hy1.out Hy2.out rfl (by decide) _ 0 [] rfl (World.ownsRow_made w3 #[] 0 (Nat.le_refl _) (by omega) rfl) 0 _ ss.length _ rfl ((owns_mono Hown3.out (Nat.zero_le _)).alloc _) (stm_oneD ss) (by unfold maxLen; omega) (by omega) (by simp) ?_; intro v6 w6 hown6 hgrow6)
      rw [Nat.zero_add, List.nil_append] at hown6
      have Hr6 := Lib.hid (show StmsIn w6 (fun _ => True) v6 ss from StmsIn.of_owns hown6 (fun _ _ => trivial))
      obtain ⟨a6, c6, rfl⟩ := owns_shape hown6
      have Hb6 := Lib.hid (show Below w.heap.size w w6 from (ba Hw3.out _).grown hgrow6 (by have := Hw3.out.size; simp; omega) (fun g hg => by have := Hw3.out.size; cases hg; omega))
      clear hown6 hgrow6
      go_wp2_with fail
      refine (impl_HashOf _ ss (fun _ => True) _ Hr6.out Hs8.out).mono ?_
      rintro _ w7 ⟨rfl, hb7⟩
      rw [← HV.out]
      have Hb7 := Lib.hid (bt Hb6.out hb7)
      clear hb7
      go_wp2_with fail
      refine (impl_HashOf _ [] (fun _ => True) _ (StmsIn.nil0 _) (fun s hs => by cases hs)).mono ?_
      rintro _ w8 ⟨rfl, hb8⟩
      rw [Hnil.out]
      have Hb8 := Lib.hid (bt Hb7.out hb8)
      clear hb8
      go_wp2_with fail
      go_ret
      exact ⟨rfl, Hb8.out⟩

/-! ### THE STEP TO THE ROW -/
set_option maxRecDepth 100000 in
theorem lifted (os : Os) (started : os.Started) (H : Type) (enc : TypeId × Value → H) :
    ReturnsInHanded {} Try.checked os 3 .any (Rows.fnHashOfSpec.pre6 enc Try.prog Try.f3 Rows.fnHashOfRow.domain false) (Rows.fnHashOfSpec.post enc Try.prog Try.f3 false true false false) := by
  refine returnsInHanded_of_change (C := Try.checked) own started (by kernel_rfl) Try.func3
    (ChangeSpec.witness6 (enc := enc) (C := Try.checked) false ⟨#[], #[.slice none 0 0], []⟩ 8 (by kernel_rfl) (by kernel_rfl) (by kernel_rfl) (by kernel_rfl)) ?_
  intro W base args ds gs before hval0 hW hcnd _
  have hval : ∀ (j : Nat) t v, Try.f3.params[j]? = some t → args[j]? = some v → Value.okWide Try.prog W .any base t v := hval0
  have hW' := hW
  obtain ⟨p, q, hA0, hV, rfl, hfz, hnd⟩ := hW
  have hA : DataW.TrodAll enc Try.prog W 0 (fun _ => true) true Try.f3.params.toList args.toList ds p := hA0
  rw [Try.params3] at hA hval
  obtain ⟨v0, vs0, d0, ds0, p0, q0, hargs, rfl, rfl, h0, r0⟩ := trodAll_cons hA
  obtain ⟨rfl, rfl, rfl⟩ := trodAll_nil r0
  obtain rfl : args = #[v0] := by cases args; simp_all
  obtain ⟨rfl, rfl⟩ := trodVars_none hV
  obtain ⟨a0, len0, cap0, rfl⟩ := okWide_slice Try.underlying22 (hval 0 22 v0 rfl rfl)
  have k0 := h0
  have lt0 : ∀ x ∈ p0, x.block < W.heap.size := by obtain ⟨m, hm⟩ := k0; exact DataW.trod_lt m _ _ _ hm
  have w0 : Code W W.heap.size a0 len0 cap0 := by
    obtain ⟨fuel, hf⟩ := h0
    rcases open_ints Try.underlying22 Try.underlying5 (by kernel_rfl) hf with ⟨hcs, _⟩ | ⟨x, l, c, zs, hcs, _, hl, hm, hz, _, hcell, hwz⟩
    · simp [Value.cells] at hcs
      obtain ⟨rfl, rfl, rfl⟩ := hcs
      exact .inl ⟨rfl, by unfold maxLen; omega⟩
    · simp [Value.cells] at hcs
      obtain ⟨rfl, rfl, rfl⟩ := hcs
      exact code_row W _ _ _ zs hl hm (by simpa using hz) hcell hwz
  clear hA0 hval0
  refine (walk a0 len0 cap0 W w0).mono fun e W' ⟨he, bel⟩ => ?_
  subst he
  exact ⟨_, rfl, _, _, _, [], _, [], hW', trodAll_mk1 (shut_bool Try.underlying4 _), (trodAll_cons_mk (Below.trod laidOut (by kernel_rfl) (of_decide_eq_true (by kernel_rfl)) k0 bel lt0) trodAll_mk0), rfl, bel.frame _, fun h => by cases h⟩

theorem over : Rows.fnHashOfRow.holds Try.pinned (OpenSpec.ofChange Rows.fnHashOfSpec) :=
  OpenClaim.holds_of_wide 3 Try.f3 rfl rfl rfl rfl rfl rfl rfl ⟨rfl, rfl, rfl, rfl, rfl⟩ rfl rfl rfl rfl rfl (by kernel_rfl) Try.func3 (by kernel_rfl)
    (of_decide_eq_true (by kernel_rfl)) (by unfold Func.isWrapper; first | (rw [if_pos (by decide +kernel)]; kernel_rfl) | (rw [if_neg (by decide +kernel)]; exact ⟨rfl, rfl⟩))
    (fun os started H enc _ => lifted os started H enc)

/-- THE STATEMENT -/
theorem proved : Rows.FnHashOfSaid := over
end Go.Proofs.Ytgfnledbbnekhac.FnHashOf
