/- FnValidPart returns true for every code. -/
import Derived.Test.YtpopbcidnhepiaaNames
import Derived.Test.YtpopbcidnhepiaaDraws
import Derived.Test.YtpopbcidnhepiaaFrame
set_option linter.unusedVariables false
set_option linter.unusedSimpArgs false
namespace Go.Proofs.Ytpopbcidnhepiaa.FnValidPart
open Go.ChangeShapes Go.WideShapes Go.ChangeAt Go.RowKit Go.Proofs.Ytpopbcidnhepiaa.Nm

theorem one_part (l : Bs) (h : vp l = true) : vn l = true ∧ vp (l ++ [46]) = false ∧ (parts l).length = 1 := by
  have e : split l = [l] := split_nodot (vp_nodot h)
  have hv : vn l = true := by unfold vn; rw [e]; exact vps_iff.2 ⟨⟨by simp, by simp⟩, by simpa using h⟩
  refine ⟨hv, ?_, by rw [parts_of hv, e]; rfl⟩
  rw [Bool.eq_false_iff]; intro h'; exact vp_nodot h' (by simp)

set_option maxRecDepth 100000 in
set_option maxHeartbeats 1000000 in
theorem walk (a : Option Addr) (n cap : Nat) (w : World) (hc : Code w w.heap.size a n cap) :
    Calls Try.prog 3 #[.slice a n cap] w fun e w' => e = .returned (.bool true) ∧ Below w.heap.size w w' := by
  by_cases hn : (1048576 : Int) < (n : Int)
  · go_enter Try.func3, Try.ntmps3
    go_wp2_with fail
    go_ret
    exact ⟨rfl, Below.refl _ _⟩
  · have Hc := Lib.hid hc
    clear hc
    go_enter Try.func3, Try.ntmps3
    go_wp2_with fail
    refine (spec_DrawValidPart a n cap w Hc.out).mono ?_
    rintro e w1 ⟨l, rfl, hl, hb⟩
    go_wp2_with fail
    refine (impl_ValidPart l w1 (by omega)).mono ?_
    rintro e w2 ⟨rfl, hb2⟩
    cases hv : vp l
    · have Hv := Lib.hid hv
      clear hv
      go_wp2_with fail
      refine (spec_ValidPart l w2 (by omega)).mono ?_
      rintro e w3 ⟨rfl, rfl⟩
      rw [Hv.out]
      go_wp2_with fail
      refine (spec_ValidPart l w2 (by omega)).mono ?_
      rintro e w3 ⟨rfl, rfl⟩
      rw [Hv.out]
      go_wp2_with fail
      go_ret
      exact ⟨rfl, hb.trans (hb2.mono hb.size)⟩
    · obtain ⟨h1, h2, h3⟩ := one_part l hv
      have Hv := Lib.hid hv
      have H1 := Lib.hid h1
      have H2 := Lib.hid h2
      have H3 := Lib.hid h3
      clear hv h1 h2 h3
      go_wp2_with fail
      refine (spec_ValidPart l w2 (by omega)).mono ?_
      rintro e w3 ⟨rfl, rfl⟩
      rw [Hv.out]
      go_wp2_with fail
      refine (impl_ValidName l w2 (by omega)).mono ?_
      rintro e w3 ⟨rfl, hb3⟩
      rw [H1.out]
      go_wp2_with fail
      refine (impl_ValidPart (l ++ [46]) w3 (by simp; omega)).mono ?_
      rintro e w4 ⟨rfl, hb4⟩
      rw [H2.out]
      go_wp2_with fail
      refine (impl_PartsOf l w4 (by omega)).mono ?_
      rintro e w5 ⟨v, rfl, hown, hb5⟩
      rw [H3.out] at hown
      obtain ⟨a', cap', rfl⟩ := owns_shape hown
      have hbe := Lib.hid ((((hb.trans (hb2.mono hb.size)).trans (hb3.mono (by have := hb.size; have := hb2.size; omega))).trans (hb4.mono (by have := hb.size; have := hb2.size; have := hb3.size; omega))).trans (hb5.mono (by have := hb.size; have := hb2.size; have := hb3.size; have := hb4.size; omega)))
      clear hown
      go_wp2_with fail
      go_ret
      exact ⟨rfl, hbe.out⟩

/-! ### THE STEP TO THE ROW -/
set_option maxRecDepth 100000 in
theorem lifted (os : Os) (started : os.Started) (H : Type) (enc : TypeId × Value → H) :
    ReturnsInHanded {} Try.checked os 3 .any (Rows.fnValidPartSpec.pre6 enc Try.prog Try.f3 Rows.fnValidPartRow.domain false) (Rows.fnValidPartSpec.post enc Try.prog Try.f3 false true false false) := by
  refine returnsInHanded_of_change (C := Try.checked) own started (by kernel_rfl) Try.func3
    (ChangeSpec.witness6 (enc := enc) (C := Try.checked) false ⟨#[], #[.slice none 0 0], []⟩ 8 (by kernel_rfl) (by kernel_rfl) (by kernel_rfl) (by kernel_rfl)) ?_
  intro W base args ds gs before hval0 hW hcnd _
  have hval : ∀ (j : Nat) t v, Try.f3.params[j]? = some t → args[j]? = some v → Value.okWide Try.prog W .any base t v := hval0
  have hW' := hW
  obtain ⟨p, q, hA0, hV, rfl, hfz, hnd⟩ := hW
  have hA : DataW.TrodAll enc Try.prog W 0 (fun _ => true) true Try.f3.params.toList args.toList ds p := hA0
  rw [Try.params3] at hA hval
  obtain ⟨v0, vs0, d0, ds0, p0, q0, hargs, rfl, rfl, h0, r0⟩ := trodAll_cons hA
  obtain ⟨rfl, rfl, rfl⟩ := trodAll_nil r0
  obtain rfl : args = #[v0] := by cases args; simp_all
  obtain ⟨rfl, rfl⟩ := trodVars_none hV
  obtain ⟨a0, len0, cap0, rfl⟩ := okWide_slice Try.underlying22 (hval 0 22 v0 rfl rfl)
  have k0 := h0
  have lt0 : ∀ x ∈ p0, x.block < W.heap.size := by obtain ⟨m, hm⟩ := k0; exact DataW.trod_lt m _ _ _ hm
  have w0 : Code W W.heap.size a0 len0 cap0 := by
    obtain ⟨fuel, hf⟩ := h0
    rcases open_ints Try.underlying22 Try.underlying5 (by kernel_rfl) hf with ⟨hcs, _⟩ | ⟨x, l, c, zs, hcs, _, hl, hm, hz, _, hcell, hwz⟩
    · simp [Value.cells] at hcs
      obtain ⟨rfl, rfl, rfl⟩ := hcs
      exact .inl ⟨rfl, by unfold maxLen; omega⟩
    · simp [Value.cells] at hcs
      obtain ⟨rfl, rfl, rfl⟩ := hcs
      exact code_row W _ _ _ zs hl hm (by simpa using hz) hcell hwz
  clear hA0 hval0
  refine (walk a0 len0 cap0 W w0).mono fun e W' ⟨he, bel⟩ => ?_
  subst he
  exact ⟨_, rfl, _, _, _, [], _, [], hW', trodAll_mk1 (shut_bool Try.underlying4 _), (trodAll_cons_mk (Below.trod laidOut (by kernel_rfl) (of_decide_eq_true (by kernel_rfl)) k0 bel lt0) trodAll_mk0), rfl, bel.frame _, fun h => by cases h⟩

theorem over : Rows.fnValidPartRow.holds Try.pinned (OpenSpec.ofChange Rows.fnValidPartSpec) :=
  OpenClaim.holds_of_wide 3 Try.f3 rfl rfl rfl rfl rfl rfl rfl ⟨rfl, rfl, rfl, rfl, rfl⟩ rfl rfl rfl rfl rfl (by kernel_rfl) Try.func3 (by kernel_rfl)
    (of_decide_eq_true (by kernel_rfl)) (by unfold Func.isWrapper; first | (rw [if_pos (by decide +kernel)]; kernel_rfl) | (rw [if_neg (by decide +kernel)]; exact ⟨rfl, rfl⟩))
    (fun os started H enc _ => lifted os started H enc)

/-- THE STATEMENT -/
theorem proved : Rows.FnValidPartSaid := over
end Go.Proofs.Ytpopbcidnhepiaa.FnValidPart
