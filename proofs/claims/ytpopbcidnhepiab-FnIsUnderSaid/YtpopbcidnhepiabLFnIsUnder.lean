/- FnIsUnder returns true for every code. -/
import Derived.Test.YtpopbcidnhepiabUnder
import Derived.Test.YtpopbcidnhepiabPlain2
import Derived.Test.YtpopbcidnhepiabDraws
import Derived.Test.YtpopbcidnhepiabFrame
import Derived.Test.YtpopbcidnhepiabAbove
import Derived.Test.YtpopbcidnhepiabPlain4
import Derived.Test.YtpopbcidnhepiabTexts
set_option linter.unusedVariables false
set_option linter.unusedSimpArgs false
namespace Go.Proofs.Ytpopbcidnhepiab.FnIsUnder
open Go.ChangeShapes Go.WideShapes Go.ChangeAt Go.RowKit Go.Proofs.Ytpopbcidnhepiab.Nm

set_option maxRecDepth 100000 in
set_option maxHeartbeats 1000000 in
theorem walk (a : Option Addr) (n cap : Nat) (w : World) (hc : Code w w.heap.size a n cap) :
    Calls Try.prog 5 #[.slice a n cap] w fun e w' => e = .returned (.bool true) ∧ Below w.heap.size w w' := by
  by_cases hn : (1048576 : Int) < (n : Int)
  · go_enter Try.func5, Try.ntmps5
    go_wp2_with fail
    go_ret
    exact ⟨rfl, Below.refl _ _⟩
  · have Hc := Lib.hid hc
    clear hc
    go_enter Try.func5, Try.ntmps5
    go_wp2_with fail
    refine (spec_DrawIsUnder a n cap w Hc.out).mono ?_
    rintro e w1 ⟨s, p, rfl, hs, hp, hb⟩
    go_wp2_with fail
    refine (impl_IsUnder s p w1 (by omega) (by omega)).mono ?_
    rintro e w2 ⟨rfl, hb2⟩
    obtain ⟨r, hr⟩ : ∃ r, r = isUnder s p := ⟨_, rfl⟩
    rw [← hr]
    have Hr := Lib.hid hr.symm
    clear hr
    go_wp2_with fail
    refine (spec_IsUnder s p w2 (by omega) (by omega)).mono ?_
    rintro e w3 ⟨rfl, hb3⟩
    rw [Hr.out]
    go_wp2_with fail
    refine (impl_ValidName s w3 (by omega)).mono ?_
    rintro e w4 ⟨rfl, hb4⟩
    cases hv : vn s
    · clear hv
      go_wp2_with fail
      refine (spec_IsUnder s p w4 (by omega) (by omega)).mono ?_
      rintro e w5 ⟨rfl, hb5⟩
      rw [Hr.out]
      go_wp2_with fail
      go_ret
      exact ⟨rfl, bt (bt (bt (bt hb hb2) hb3) hb4) hb5⟩
    · by_cases h0 : p = []
      · have hrt : r = true := by rw [← Hr.out, h0]; unfold isUnder; rw [hv]; rfl
        subst hrt
        subst h0
        clear hv
        go_wp2_with fail
        go_ret
        exact ⟨rfl, bt (bt (bt hb hb2) hb3) hb4⟩
      · have hpe : p.isEmpty = false := by simpa using h0
        cases hv2 : vn p
        · have Hv2 := Lib.hid hv2
          clear hv hv2 h0
          go_wp2_with fail
          refine (impl_ValidName p w4 (by omega)).mono ?_
          rintro e w5 ⟨rfl, hb5⟩
          rw [Hv2.out]
          go_wp2_with fail
          refine (spec_IsUnder s p w5 (by omega) (by omega)).mono ?_
          rintro e w6 ⟨rfl, hb6⟩
          rw [Hr.out]
          go_wp2_with fail
          go_ret
          exact ⟨rfl, bt (bt (bt (bt (bt hb hb2) hb3) hb4) hb5) hb6⟩
        · have Hv2 := Lib.hid hv2
          have hna : namesAbove s = above s := by simp [namesAbove, hv]
          have Hmem := Lib.hid (show decide (p ∈ namesAbove s) = r by
            rw [← Hr.out, isUnder_of hv hv2, hna, Bool.eq_iff_iff, decide_eq_true_iff]; exact mem_above hv hv2)
          have Hps := Lib.hid (isUnder_of (s := p) (p := s) hv2 hv)
          have Has := Lib.hid (fun (h1 : r = true) (h2 : under p s = true) => under_antisymm hv hv2 (by rw [← isUnder_of hv hv2, Hr.out]; exact h1) h2)
          have hnl := namesAbove_len s
          clear hv hv2 hna h0
          cases r
          · go_wp2_with fail
            refine (impl_ValidName p w4 (by omega)).mono ?_
            rintro e w5 ⟨rfl, hb5⟩
            rw [Hv2.out]
            go_wp2_with fail
            refine (impl_NamesAbove s w5 (by omega)).mono ?_
            rintro e w6 ⟨v6, rfl, hown6, hb6⟩
            have hr6 := Lib.hid (Reads.of_owns hown6)
            clear hown6
            go_wp2_with fail
            refine (laws_hasText v6 _ p w6 hr6.out (by omega)).mono ?_
            rintro e w7 ⟨rfl, rfl⟩
            rw [Hmem.out]
            have HB := Lib.hid (bt (bt (bt (bt (bt hb hb2) hb3) hb4) hb5) hb6)
            go_wp2_with fail
            go_ret
            exact ⟨rfl, HB.out⟩
          · cases hu : under p s
            · have Hu := Lib.hid (Hps.out.trans hu)
              clear hu
              go_wp2_with fail
              refine (impl_ValidName p w4 (by omega)).mono ?_
              rintro e w5 ⟨rfl, hb5⟩
              rw [Hv2.out]
              go_wp2_with fail
              refine (impl_IsUnder p s w5 (by omega) (by omega)).mono ?_
              rintro e w5b ⟨rfl, hb5b⟩
              rw [Hu.out]
              go_wp2_with fail
              refine (impl_NamesAbove s w5b (by omega)).mono ?_
              rintro e w6 ⟨v6, rfl, hown6, hb6⟩
              have hr6 := Lib.hid (Reads.of_owns hown6)
              clear hown6
              go_wp2_with fail
              refine (laws_hasText v6 _ p w6 hr6.out (by omega)).mono ?_
              rintro e w7 ⟨rfl, rfl⟩
              rw [Hmem.out]
              have HB := Lib.hid (bt (bt (bt (bt (bt (bt hb hb2) hb3) hb4) hb5) hb5b) hb6)
              go_wp2_with fail
              go_ret
              exact ⟨rfl, HB.out⟩
            · have Hu := Lib.hid (Hps.out.trans hu)
              have Hsp := Lib.hid (Has.out rfl hu)
              have hspb : (s == p) = true := by rw [beq_iff_eq]; exact Hsp.out
              clear hu
              go_wp2_with fail
              refine (impl_ValidName p w4 (by omega)).mono ?_
              rintro e w5 ⟨rfl, hb5⟩
              rw [Hv2.out]
              go_wp2_with fail
              refine (impl_IsUnder p s w5 (by omega) (by omega)).mono ?_
              rintro e w5b ⟨rfl, hb5b⟩
              rw [Hu.out]
              go_wp2_with fail
              refine (impl_NamesAbove s w5b (by omega)).mono ?_
              rintro e w6 ⟨v6, rfl, hown6, hb6⟩
              have hr6 := Lib.hid (Reads.of_owns hown6)
              clear hown6
              go_wp2_with fail
              refine (laws_hasText v6 _ p w6 hr6.out (by omega)).mono ?_
              rintro e w7 ⟨rfl, rfl⟩
              rw [Hmem.out]
              have HB := Lib.hid (bt (bt (bt (bt (bt (bt hb hb2) hb3) hb4) hb5) hb5b) hb6)
              go_wp2_with fail
              go_ret
              exact ⟨rfl, HB.out⟩

/-! ### THE STEP TO THE ROW -/
set_option maxRecDepth 100000 in
theorem lifted (os : Os) (started : os.Started) (H : Type) (enc : TypeId × Value → H) :
    ReturnsInHanded {} Try.checked os 5 .any (Rows.fnIsUnderSpec.pre6 enc Try.prog Try.f5 Rows.fnIsUnderRow.domain false) (Rows.fnIsUnderSpec.post enc Try.prog Try.f5 false true false false) := by
  refine returnsInHanded_of_change (C := Try.checked) own started (by kernel_rfl) Try.func5
    (ChangeSpec.witness6 (enc := enc) (C := Try.checked) false ⟨#[], #[.slice none 0 0], []⟩ 8 (by kernel_rfl) (by kernel_rfl) (by kernel_rfl) (by kernel_rfl)) ?_
  intro W base args ds gs before hval0 hW hcnd _
  have hval : ∀ (j : Nat) t v, Try.f5.params[j]? = some t → args[j]? = some v → Value.okWide Try.prog W .any base t v := hval0
  have hW' := hW
  obtain ⟨p, q, hA0, hV, rfl, hfz, hnd⟩ := hW
  have hA : DataW.TrodAll enc Try.prog W 0 (fun _ => true) true Try.f5.params.toList args.toList ds p := hA0
  rw [Try.params5] at hA hval
  obtain ⟨v0, vs0, d0, ds0, p0, q0, hargs, rfl, rfl, h0, r0⟩ := trodAll_cons hA
  obtain ⟨rfl, rfl, rfl⟩ := trodAll_nil r0
  obtain rfl : args = #[v0] := by cases args; simp_all
  obtain ⟨rfl, rfl⟩ := trodVars_none hV
  obtain ⟨a0, len0, cap0, rfl⟩ := okWide_slice Try.underlying22 (hval 0 22 v0 rfl rfl)
  have k0 := h0
  have lt0 : ∀ x ∈ p0, x.block < W.heap.size := by obtain ⟨m, hm⟩ := k0; exact DataW.trod_lt m _ _ _ hm
  have w0 : Code W W.heap.size a0 len0 cap0 := by
    obtain ⟨fuel, hf⟩ := h0
    rcases open_ints Try.underlying22 Try.underlying5 (by kernel_rfl) hf with ⟨hcs, _⟩ | ⟨x, l, c, zs, hcs, _, hl, hm, hz, _, hcell, hwz⟩
    · simp [Value.cells] at hcs
      obtain ⟨rfl, rfl, rfl⟩ := hcs
      exact .inl ⟨rfl, by unfold maxLen; omega⟩
    · simp [Value.cells] at hcs
      obtain ⟨rfl, rfl, rfl⟩ := hcs
      exact code_row W _ _ _ zs hl hm (by simpa using hz) hcell hwz
  clear hA0 hval0
  refine (walk a0 len0 cap0 W w0).mono fun e W' ⟨he, bel⟩ => ?_
  subst he
  exact ⟨_, rfl, _, _, _, [], _, [], hW', trodAll_mk1 (shut_bool Try.underlying4 _), (trodAll_cons_mk (Below.trod laidOut (by kernel_rfl) (of_decide_eq_true (by kernel_rfl)) k0 bel lt0) trodAll_mk0), rfl, bel.frame _, fun h => by cases h⟩

theorem over : Rows.fnIsUnderRow.holds Try.pinned (OpenSpec.ofChange Rows.fnIsUnderSpec) :=
  OpenClaim.holds_of_wide 5 Try.f5 rfl rfl rfl rfl rfl rfl rfl ⟨rfl, rfl, rfl, rfl, rfl⟩ rfl rfl rfl rfl rfl (by kernel_rfl) Try.func5 (by kernel_rfl)
    (of_decide_eq_true (by kernel_rfl)) (by unfold Func.isWrapper; first | (rw [if_pos (by decide +kernel)]; kernel_rfl) | (rw [if_neg (by decide +kernel)]; exact ⟨rfl, rfl⟩))
    (fun os started H enc _ => lifted os started H enc)

/-- THE STATEMENT -/
theorem proved : Rows.FnIsUnderSaid := over
end Go.Proofs.Ytpopbcidnhepiab.FnIsUnder
