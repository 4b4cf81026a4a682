/- FnPartsOf returns true for every code. -/
import Derived.Test.YtpopbcidnhepiaaUnder
import Derived.Test.YtpopbcidnhepiaaPlain2
import Derived.Test.YtpopbcidnhepiaaDraws
import Derived.Test.YtpopbcidnhepiaaFrame
set_option linter.unusedVariables false
set_option linter.unusedSimpArgs false
namespace Go.Proofs.Ytpopbcidnhepiaa.FnPartsOf
open Go.ChangeShapes Go.WideShapes Go.ChangeAt Go.RowKit Go.Proofs.Ytpopbcidnhepiaa.Nm

set_option maxRecDepth 100000 in
set_option maxHeartbeats 1000000 in
theorem walk (a : Option Addr) (n cap : Nat) (w : World) (hc : Code w w.heap.size a n cap) :
    Calls Try.prog 5 #[.slice a n cap] w fun e w' => e = .returned (.bool true) ∧ Below w.heap.size w w' := by
  by_cases hn : (1048576 : Int) < (n : Int)
  · go_enter Try.func5, Try.ntmps5
    go_wp2_with fail
    go_ret
    exact ⟨rfl, Below.refl _ _⟩
  · have Hc := Lib.hid hc
    clear hc
    go_enter Try.func5, Try.ntmps5
    go_wp2_with fail
    refine (spec_DrawPartsOf a n cap w Hc.out).mono ?_
    rintro e w1 ⟨l, rfl, hl, hb⟩
    go_wp2_with fail
    have hpl : (parts l).length ≤ l.length + 1 := by
      unfold parts; split
      · exact split_count l
      · simp
    refine (impl_PartsOf l w1 (by omega)).mono ?_
    rintro e w2 ⟨v2, rfl, hown2, hb2⟩
    have hr2 := Lib.hid (Reads.of_owns hown2)
    obtain ⟨a2, c2, rfl⟩ := owns_shape hown2
    clear hown2
    go_wp2_with fail
    refine (spec_PartsOf l w2 (by omega)).mono ?_
    rintro e w3 ⟨v3, rfl, hown3, hb3⟩
    have hr3 := Lib.hid (Reads.of_owns hown3)
    obtain ⟨a3, c3, rfl⟩ := owns_shape hown3
    clear hown3
    go_wp2_with fail
    refine (laws_equalTexts _ _ _ _ w3 (Reads.below hr2.out hb3) hr3.out (by omega) (by omega)).mono ?_
    rintro e w4 ⟨rfl, hb4⟩
    rw [decide_eq_true rfl]
    cases hv : vn l
    · have hp0 := parts_not hv
      have h0 : (parts l).length = 0 := by rw [hp0]; rfl
      have hr2' : Reads w2 (.slice a2 0 c2) (parts l) := by have := hr2.out; rwa [h0] at this
      have Hr2 := Lib.hid hr2'
      rw [h0]
      clear hv hp0 h0 hr2 hr2'
      go_wp2_with fail
      refine (spec_PartsOf l w4 (by omega)).mono ?_
      rintro e w5 ⟨v5, rfl, hown5, hb5⟩
      have hr5 := Lib.hid (Reads.of_owns hown5)
      obtain ⟨a5, c5, rfl⟩ := owns_shape hown5
      clear hown5
      go_wp2_with fail
      refine (laws_equalTexts _ _ _ _ w5 (Reads.below (Reads.below Hr2.out (bt hb3 hb4)) hb5) hr5.out (by omega) (by omega)).mono ?_
      rintro e w6 ⟨rfl, hb6⟩
      rw [decide_eq_true rfl]
      have hbe := Lib.hid (bt (bt (bt (bt (bt hb hb2) hb3) hb4) hb5) hb6)
      go_wp2_with fail
      go_ret
      exact ⟨rfl, hbe.out⟩
    · have hpe := parts_of hv
      have hpos := split_pos l
      have hdots := dots_split l
      rw [← hpe] at hpos hdots
      have hvs : vps (parts l) = true := by rw [hpe]; exact hv
      have Hj := Lib.hid (show joinParts (parts l) = l by rw [joinParts, if_pos hvs, hpe]; exact join_split l)
      have hz : ∀ p ∈ parts l, p.length ≤ 9000000 := fun p hp => by have := (vp_len ((vps_iff.1 hvs).2 p hp)).2; omega
      have Hz := Lib.hid hz
      have hne : (((parts l).length : Int) == 0) = false := by rw [beq_eq_false_iff_ne]; omega
      clear hv hpe hvs hz
      have hr4 := Lib.hid (Reads.below hr2.out (bt hb3 hb4))
      have hbe := Lib.hid (bt (bt (bt hb hb2) hb3) hb4)
      clear hr2 hr3 hb hb2 hb3 hb4
      generalize hN : (parts l).length = N at *
      have HN := Lib.hid hN
      clear hN
      go_wp2_with fail
      go_loop [5, 6] (fun dv iv => ∃ k : Nat, k ≤ l.length ∧ iv = .int .i64 k ∧ dv = .int .i64 ((l.take k).filter (· == 46)).length) (fun _ iv => l.length - (intOf iv).toNat)
      case atStart => exact ⟨0, by omega, rfl, rfl⟩
      case round =>
        obtain ⟨k, hk, rfl, rfl⟩ := hrel
        have hfl : ((l.take k).filter (· == 46)).length ≤ k := Nat.le_trans (List.length_filter_le _ _) (by simp; omega)
        by_cases hlt : k < l.length
        · have hlt' : k < (mk l).size := by rw [mk_size]; exact hlt
          have hg := mk_get l k hlt'
          by_cases hc : l[k] = 46
          · have hstep := dots_yes l k hlt hc
            have hcb : (((l[k]).toNat : Int) == 46) = true := by rw [hc]; rfl
            have Hs := Lib.hid hstep
            clear hc hstep
            generalize l[k] = c at *
            generalize ((l.take k).filter (· == 46)).length = d at *
            go_wp2_with fail
            go_round
            case rel => exact ⟨k + 1, by omega, by go_num, by rw [Hs.out]; go_num⟩
            case measure => simp [intOf]; omega
          · have hstep := dots_no l k hlt hc
            have hcb : (((l[k]).toNat : Int) == 46) = false := by
              rw [beq_eq_false_iff_ne]; intro e; exact hc (UInt8.toNat_inj.1 (by simpa using Int.ofNat.inj e))
            have Hs := Lib.hid hstep
            clear hc hstep
            generalize l[k] = c at *
            generalize ((l.take k).filter (· == 46)).length = d at *
            go_wp2_with fail
            go_round
            case rel => exact ⟨k + 1, by omega, by go_num, by rw [Hs.out]⟩
            case measure => simp [intOf]; omega
        · rw [List.take_of_length_le (by omega : l.length ≤ k)]
          rw [List.take_of_length_le (by omega : l.length ≤ k)] at hfl
          generalize (l.filter (· == 46)).length = d at *
          subst hdots
          go_wp2_with fail
          refine (impl_JoinParts _ (parts l) w4 hr4.out Hz.out).mono ?_
          rintro e w5 ⟨rfl, hb5⟩
          rw [Hj.out]
          have hbf := Lib.hid (bt hbe.out hb5)
          go_wp2_with fail
          go_ret
          exact ⟨rfl, hbf.out⟩

/-! ### THE STEP TO THE ROW -/
set_option maxRecDepth 100000 in
theorem lifted (os : Os) (started : os.Started) (H : Type) (enc : TypeId × Value → H) :
    ReturnsInHanded {} Try.checked os 5 .any (Rows.fnPartsOfSpec.pre6 enc Try.prog Try.f5 Rows.fnPartsOfRow.domain false) (Rows.fnPartsOfSpec.post enc Try.prog Try.f5 false true false false) := by
  refine returnsInHanded_of_change (C := Try.checked) own started (by kernel_rfl) Try.func5
    (ChangeSpec.witness6 (enc := enc) (C := Try.checked) false ⟨#[], #[.slice none 0 0], []⟩ 8 (by kernel_rfl) (by kernel_rfl) (by kernel_rfl) (by kernel_rfl)) ?_
  intro W base args ds gs before hval0 hW hcnd _
  have hval : ∀ (j : Nat) t v, Try.f5.params[j]? = some t → args[j]? = some v → Value.okWide Try.prog W .any base t v := hval0
  have hW' := hW
  obtain ⟨p, q, hA0, hV, rfl, hfz, hnd⟩ := hW
  have hA : DataW.TrodAll enc Try.prog W 0 (fun _ => true) true Try.f5.params.toList args.toList ds p := hA0
  rw [Try.params5] at hA hval
  obtain ⟨v0, vs0, d0, ds0, p0, q0, hargs, rfl, rfl, h0, r0⟩ := trodAll_cons hA
  obtain ⟨rfl, rfl, rfl⟩ := trodAll_nil r0
  obtain rfl : args = #[v0] := by cases args; simp_all
  obtain ⟨rfl, rfl⟩ := trodVars_none hV
  obtain ⟨a0, len0, cap0, rfl⟩ := okWide_slice Try.underlying22 (hval 0 22 v0 rfl rfl)
  have k0 := h0
  have lt0 : ∀ x ∈ p0, x.block < W.heap.size := by obtain ⟨m, hm⟩ := k0; exact DataW.trod_lt m _ _ _ hm
  have w0 : Code W W.heap.size a0 len0 cap0 := by
    obtain ⟨fuel, hf⟩ := h0
    rcases open_ints Try.underlying22 Try.underlying5 (by kernel_rfl) hf with ⟨hcs, _⟩ | ⟨x, l, c, zs, hcs, _, hl, hm, hz, _, hcell, hwz⟩
    · simp [Value.cells] at hcs
      obtain ⟨rfl, rfl, rfl⟩ := hcs
      exact .inl ⟨rfl, by unfold maxLen; omega⟩
    · simp [Value.cells] at hcs
      obtain ⟨rfl, rfl, rfl⟩ := hcs
      exact code_row W _ _ _ zs hl hm (by simpa using hz) hcell hwz
  clear hA0 hval0
  refine (walk a0 len0 cap0 W w0).mono fun e W' ⟨he, bel⟩ => ?_
  subst he
  exact ⟨_, rfl, _, _, _, [], _, [], hW', trodAll_mk1 (shut_bool Try.underlying4 _), (trodAll_cons_mk (Below.trod laidOut (by kernel_rfl) (of_decide_eq_true (by kernel_rfl)) k0 bel lt0) trodAll_mk0), rfl, bel.frame _, fun h => by cases h⟩

theorem over : Rows.fnPartsOfRow.holds Try.pinned (OpenSpec.ofChange Rows.fnPartsOfSpec) :=
  OpenClaim.holds_of_wide 5 Try.f5 rfl rfl rfl rfl rfl rfl rfl ⟨rfl, rfl, rfl, rfl, rfl⟩ rfl rfl rfl rfl rfl (by kernel_rfl) Try.func5 (by kernel_rfl)
    (of_decide_eq_true (by kernel_rfl)) (by unfold Func.isWrapper; first | (rw [if_pos (by decide +kernel)]; kernel_rfl) | (rw [if_neg (by decide +kernel)]; exact ⟨rfl, rfl⟩))
    (fun os started H enc _ => lifted os started H enc)

/-- THE STATEMENT -/
theorem proved : Rows.FnPartsOfSaid := over
end Go.Proofs.Ytpopbcidnhepiaa.FnPartsOf
