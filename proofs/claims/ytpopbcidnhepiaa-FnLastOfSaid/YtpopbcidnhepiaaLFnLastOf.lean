/- FnLastOf returns true for every code. -/
import Derived.Test.YtpopbcidnhepiaaUnder
import Derived.Test.YtpopbcidnhepiaaPlain2
import Derived.Test.YtpopbcidnhepiaaDraws
import Derived.Test.YtpopbcidnhepiaaFrame
set_option linter.unusedVariables false
set_option linter.unusedSimpArgs false
namespace Go.Proofs.Ytpopbcidnhepiaa.FnLastOf
open Go.ChangeShapes Go.WideShapes Go.ChangeAt Go.RowKit Go.Proofs.Ytpopbcidnhepiaa.Nm

set_option maxRecDepth 100000 in
set_option maxHeartbeats 1000000 in
theorem walk (a : Option Addr) (n cap : Nat) (w : World) (hc : Code w w.heap.size a n cap) :
    Calls Try.prog 8 #[.slice a n cap] w fun e w' => e = .returned (.bool true) ∧ Below w.heap.size w w' := by
  by_cases hn : (1048576 : Int) < (n : Int)
  · go_enter Try.func8, Try.ntmps8
    go_wp2_with fail
    go_ret
    exact ⟨rfl, Below.refl _ _⟩
  · have Hc := Lib.hid hc
    clear hc
    go_enter Try.func8, Try.ntmps8
    go_wp2_with fail
    refine (spec_DrawLastOf a n cap w Hc.out).mono ?_
    rintro e w1 ⟨l, rfl, hl, hb⟩
    go_wp2_with fail
    refine (impl_LastOf l w1 (by omega)).mono ?_
    rintro e w2 ⟨rfl, hb2⟩
    cases hv : vn l
    · have Hq := Lib.hid (show lastOf l = [] by simp [lastOf, hv])
      rw [Hq.out]
      clear hv
      go_wp2_with fail
      refine (spec_LastOf l w2 (by omega)).mono ?_
      rintro e w3 ⟨rfl, hb3⟩
      rw [Hq.out]
      go_wp2_with fail
      refine (spec_LastOf l w3 (by omega)).mono ?_
      rintro e w4 ⟨rfl, hb4⟩
      rw [Hq.out]
      go_wp2_with fail
      go_ret
      exact ⟨rfl, bt (bt (bt hb hb2) hb3) hb4⟩
    · have Hq := Lib.hid (show lastOf l = last l by simp [lastOf, hv])
      have hvp := getLast_vp hv
      have hne : (last l).isEmpty = false := by simpa using vp_ne hvp
      have hle := last_eq l
      have hll := split_len (last_mem l)
      have hpos := split_pos l
      have hcnt := split_count l
      have hpe := Lib.hid (parts_of hv)
      have Hvp := Lib.hid hvp
      have Hle := Lib.hid hle
      clear hv hvp hle
      rw [Hq.out]
      obtain ⟨q, hq⟩ : ∃ q, q = last l := ⟨_, rfl⟩
      rw [← hq] at Hq Hvp Hle hne hll
      rw [← hq]
      clear hq
      go_wp2_with fail
      refine (spec_LastOf l w2 (by omega)).mono ?_
      rintro e w3 ⟨rfl, hb3⟩
      rw [Hq.out]
      go_wp2_with fail
      refine (impl_PartsOf l w3 (by omega)).mono ?_
      rintro e w4 ⟨v4, rfl, hown4, hb4⟩
      rw [hpe.out] at hown4
      obtain ⟨b, off, cap, rfl, hl4, hm4, hbl, hc4⟩ := Reads.some (Reads.of_owns hown4) hpos
      clear hown4
      have Hc4 := Lib.hid hc4
      clear hc4 hm4
      go_wp2_with fail
      refine (impl_ValidPart q w4 (by omega)).mono ?_
      rintro e w5 ⟨rfl, hb5⟩
      rw [Hvp.out]
      have hcell : w5.cell? ⟨b, off + ((split l).length - 1), none⟩ = some (.string (mk q)) := by
        rw [hb5.cell (p := ⟨b, off + ((split l).length - 1), none⟩) hbl, Hc4.out _ (by omega), Hle.out (by omega)]
      have hbe := Lib.hid (bt (bt (bt (bt hb hb2) hb3) hb4) hb5)
      clear Hc4 Hle
      generalize (split l).length = N at *
      go_wp2_with fail
      go_ret
      exact ⟨rfl, hbe.out⟩

/-! ### THE STEP TO THE ROW -/
set_option maxRecDepth 100000 in
theorem lifted (os : Os) (started : os.Started) (H : Type) (enc : TypeId × Value → H) :
    ReturnsInHanded {} Try.checked os 8 .any (Rows.fnLastOfSpec.pre6 enc Try.prog Try.f8 Rows.fnLastOfRow.domain false) (Rows.fnLastOfSpec.post enc Try.prog Try.f8 false true false false) := by
  refine returnsInHanded_of_change (C := Try.checked) own started (by kernel_rfl) Try.func8
    (ChangeSpec.witness6 (enc := enc) (C := Try.checked) false ⟨#[], #[.slice none 0 0], []⟩ 8 (by kernel_rfl) (by kernel_rfl) (by kernel_rfl) (by kernel_rfl)) ?_
  intro W base args ds gs before hval0 hW hcnd _
  have hval : ∀ (j : Nat) t v, Try.f8.params[j]? = some t → args[j]? = some v → Value.okWide Try.prog W .any base t v := hval0
  have hW' := hW
  obtain ⟨p, q, hA0, hV, rfl, hfz, hnd⟩ := hW
  have hA : DataW.TrodAll enc Try.prog W 0 (fun _ => true) true Try.f8.params.toList args.toList ds p := hA0
  rw [Try.params8] at hA hval
  obtain ⟨v0, vs0, d0, ds0, p0, q0, hargs, rfl, rfl, h0, r0⟩ := trodAll_cons hA
  obtain ⟨rfl, rfl, rfl⟩ := trodAll_nil r0
  obtain rfl : args = #[v0] := by cases args; simp_all
  obtain ⟨rfl, rfl⟩ := trodVars_none hV
  obtain ⟨a0, len0, cap0, rfl⟩ := okWide_slice Try.underlying22 (hval 0 22 v0 rfl rfl)
  have k0 := h0
  have lt0 : ∀ x ∈ p0, x.block < W.heap.size := by obtain ⟨m, hm⟩ := k0; exact DataW.trod_lt m _ _ _ hm
  have w0 : Code W W.heap.size a0 len0 cap0 := by
    obtain ⟨fuel, hf⟩ := h0
    rcases open_ints Try.underlying22 Try.underlying5 (by kernel_rfl) hf with ⟨hcs, _⟩ | ⟨x, l, c, zs, hcs, _, hl, hm, hz, _, hcell, hwz⟩
    · simp [Value.cells] at hcs
      obtain ⟨rfl, rfl, rfl⟩ := hcs
      exact .inl ⟨rfl, by unfold maxLen; omega⟩
    · simp [Value.cells] at hcs
      obtain ⟨rfl, rfl, rfl⟩ := hcs
      exact code_row W _ _ _ zs hl hm (by simpa using hz) hcell hwz
  clear hA0 hval0
  refine (walk a0 len0 cap0 W w0).mono fun e W' ⟨he, bel⟩ => ?_
  subst he
  exact ⟨_, rfl, _, _, _, [], _, [], hW', trodAll_mk1 (shut_bool Try.underlying4 _), (trodAll_cons_mk (Below.trod laidOut (by kernel_rfl) (of_decide_eq_true (by kernel_rfl)) k0 bel lt0) trodAll_mk0), rfl, bel.frame _, fun h => by cases h⟩

theorem over : Rows.fnLastOfRow.holds Try.pinned (OpenSpec.ofChange Rows.fnLastOfSpec) :=
  OpenClaim.holds_of_wide 8 Try.f8 rfl rfl rfl rfl rfl rfl rfl ⟨rfl, rfl, rfl, rfl, rfl⟩ rfl rfl rfl rfl rfl (by kernel_rfl) Try.func8 (by kernel_rfl)
    (of_decide_eq_true (by kernel_rfl)) (by unfold Func.isWrapper; first | (rw [if_pos (by decide +kernel)]; kernel_rfl) | (rw [if_neg (by decide +kernel)]; exact ⟨rfl, rfl⟩))
    (fun os started H enc _ => lifted os started H enc)

/-- THE STATEMENT -/
theorem proved : Rows.FnLastOfSaid := over
end Go.Proofs.Ytpopbcidnhepiaa.FnLastOf
