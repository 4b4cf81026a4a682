/- FnParentOf returns true for every code. -/
import Derived.Test.YtpopbcidnhepiaaUnder
import Derived.Test.YtpopbcidnhepiaaPlain2
import Derived.Test.YtpopbcidnhepiaaDraws
import Derived.Test.YtpopbcidnhepiaaFrame
set_option linter.unusedVariables false
set_option linter.unusedSimpArgs false
namespace Go.Proofs.Ytpopbcidnhepiaa.FnParentOf
open Go.ChangeShapes Go.WideShapes Go.ChangeAt Go.RowKit Go.Proofs.Ytpopbcidnhepiaa.Nm

set_option maxRecDepth 100000 in
set_option maxHeartbeats 1000000 in
theorem walk (a : Option Addr) (n cap : Nat) (w : World) (hc : Code w w.heap.size a n cap) :
    Calls Try.prog 7 #[.slice a n cap] w fun e w' => e = .returned (.bool true) ∧ Below w.heap.size w w' := by
  by_cases hn : (1048576 : Int) < (n : Int)
  · go_enter Try.func7, Try.ntmps7
    go_wp2_with fail
    go_ret
    exact ⟨rfl, Below.refl _ _⟩
  · have Hc := Lib.hid hc
    clear hc
    go_enter Try.func7, Try.ntmps7
    go_wp2_with fail
    refine (spec_DrawParentOf a n cap w Hc.out).mono ?_
    rintro e w1 ⟨l, rfl, hl, hb⟩
    go_wp2_with fail
    have hpl : (parentOf l).length ≤ l.length := by
      unfold parentOf; split
      · exact parent_len l
      · simp
    refine (impl_ParentOf l w1 (by omega)).mono ?_
    rintro e w2 ⟨rfl, hb2⟩
    generalize hq : parentOf l = q at *
    have Hq := Lib.hid hq
    clear hq
    go_wp2_with fail
    refine (spec_ParentOf l w2 (by omega)).mono ?_
    rintro e w3 ⟨rfl, hb3⟩
    rw [Hq.out]
    go_wp2_with fail
    refine (impl_ValidName l w3 (by omega)).mono ?_
    rintro e w4 ⟨rfl, hb4⟩
    cases hv : vn l
    · have Hv := Lib.hid hv
      clear hv
      go_wp2_with fail
      refine (spec_ParentOf l w4 (by omega)).mono ?_
      rintro e w5 ⟨rfl, hb5⟩
      rw [Hq.out]
      go_wp2_with fail
      go_ret
      exact ⟨rfl, bt (bt (bt (bt hb hb2) hb3) hb4) hb5⟩
    · have Hp := Lib.hid (show q = parent l by rw [← Hq.out]; simp [parentOf, hv])
      have Hu := Lib.hid (show isUnder l q = true by rw [Hp.out]; exact under_parent hv)
      have hpp := parts_parent hv
      rw [← Hp.out] at hpp
      have hpos := split_pos l
      have hcnt := split_count l
      rw [← parts_of hv] at hpos hcnt
      have Hv := Lib.hid hv
      have Hpp := Lib.hid hpp
      clear hv hpp
      go_wp2_with fail
      refine (impl_IsUnder l q w4 (by omega) (by omega)).mono ?_
      rintro e w5 ⟨rfl, hb5⟩
      rw [Hu.out]
      go_wp2_with fail
      refine (impl_PartsOf q w5 (by omega)).mono ?_
      rintro e w6 ⟨v6, rfl, hown6, hb6⟩
      obtain ⟨a6, c6, rfl⟩ := owns_shape hown6
      clear hown6
      rw [Hpp.out]
      go_wp2_with fail
      refine (impl_PartsOf l w6 (by omega)).mono ?_
      rintro e w7 ⟨v7, rfl, hown7, hb7⟩
      obtain ⟨a7, c7, rfl⟩ := owns_shape hown7
      have hbe := Lib.hid (bt (bt (bt (bt (bt (bt hb hb2) hb3) hb4) hb5) hb6) hb7)
      clear hown7
      have hcast : (((parts l).length - 1 : Nat) : Int) = ((parts l).length : Int) - 1 := by omega
      rw [hcast]
      clear hcast
      generalize (parts l).length = N at *
      go_wp2_with fail
      go_ret
      exact ⟨rfl, hbe.out⟩

/-! ### THE STEP TO THE ROW -/
set_option maxRecDepth 100000 in
theorem lifted (os : Os) (started : os.Started) (H : Type) (enc : TypeId × Value → H) :
    ReturnsInHanded {} Try.checked os 7 .any (Rows.fnParentOfSpec.pre6 enc Try.prog Try.f7 Rows.fnParentOfRow.domain false) (Rows.fnParentOfSpec.post enc Try.prog Try.f7 false true false false) := by
  refine returnsInHanded_of_change (C := Try.checked) own started (by kernel_rfl) Try.func7
    (ChangeSpec.witness6 (enc := enc) (C := Try.checked) false ⟨#[], #[.slice none 0 0], []⟩ 8 (by kernel_rfl) (by kernel_rfl) (by kernel_rfl) (by kernel_rfl)) ?_
  intro W base args ds gs before hval0 hW hcnd _
  have hval : ∀ (j : Nat) t v, Try.f7.params[j]? = some t → args[j]? = some v → Value.okWide Try.prog W .any base t v := hval0
  have hW' := hW
  obtain ⟨p, q, hA0, hV, rfl, hfz, hnd⟩ := hW
  have hA : DataW.TrodAll enc Try.prog W 0 (fun _ => true) true Try.f7.params.toList args.toList ds p := hA0
  rw [Try.params7] at hA hval
  obtain ⟨v0, vs0, d0, ds0, p0, q0, hargs, rfl, rfl, h0, r0⟩ := trodAll_cons hA
  obtain ⟨rfl, rfl, rfl⟩ := trodAll_nil r0
  obtain rfl : args = #[v0] := by cases args; simp_all
  obtain ⟨rfl, rfl⟩ := trodVars_none hV
  obtain ⟨a0, len0, cap0, rfl⟩ := okWide_slice Try.underlying22 (hval 0 22 v0 rfl rfl)
  have k0 := h0
  have lt0 : ∀ x ∈ p0, x.block < W.heap.size := by obtain ⟨m, hm⟩ := k0; exact DataW.trod_lt m _ _ _ hm
  have w0 : Code W W.heap.size a0 len0 cap0 := by
    obtain ⟨fuel, hf⟩ := h0
    rcases open_ints Try.underlying22 Try.underlying5 (by kernel_rfl) hf with ⟨hcs, _⟩ | ⟨x, l, c, zs, hcs, _, hl, hm, hz, _, hcell, hwz⟩
    · simp [Value.cells] at hcs
      obtain ⟨rfl, rfl, rfl⟩ := hcs
      exact .inl ⟨rfl, by unfold maxLen; omega⟩
    · simp [Value.cells] at hcs
      obtain ⟨rfl, rfl, rfl⟩ := hcs
      exact code_row W _ _ _ zs hl hm (by simpa using hz) hcell hwz
  clear hA0 hval0
  refine (walk a0 len0 cap0 W w0).mono fun e W' ⟨he, bel⟩ => ?_
  subst he
  exact ⟨_, rfl, _, _, _, [], _, [], hW', trodAll_mk1 (shut_bool Try.underlying4 _), (trodAll_cons_mk (Below.trod laidOut (by kernel_rfl) (of_decide_eq_true (by kernel_rfl)) k0 bel lt0) trodAll_mk0), rfl, bel.frame _, fun h => by cases h⟩

theorem over : Rows.fnParentOfRow.holds Try.pinned (OpenSpec.ofChange Rows.fnParentOfSpec) :=
  OpenClaim.holds_of_wide 7 Try.f7 rfl rfl rfl rfl rfl rfl rfl ⟨rfl, rfl, rfl, rfl, rfl⟩ rfl rfl rfl rfl rfl (by kernel_rfl) Try.func7 (by kernel_rfl)
    (of_decide_eq_true (by kernel_rfl)) (by unfold Func.isWrapper; first | (rw [if_pos (by decide +kernel)]; kernel_rfl) | (rw [if_neg (by decide +kernel)]; exact ⟨rfl, rfl⟩))
    (fun os started H enc _ => lifted os started H enc)

/-- THE STATEMENT -/
theorem proved : Rows.FnParentOfSaid := over
end Go.Proofs.Ytpopbcidnhepiaa.FnParentOf
