/- FnNamesAbove returns true for every code. -/
import Derived.Test.YtpopbcidnhepiabUnder
import Derived.Test.YtpopbcidnhepiabPlain2
import Derived.Test.YtpopbcidnhepiabDraws
import Derived.Test.YtpopbcidnhepiabFrame
import Derived.Test.YtpopbcidnhepiabAbove
import Derived.Test.YtpopbcidnhepiabPlain4
import Derived.Lib.QuietBelow
set_option linter.unusedVariables false
set_option linter.unusedSimpArgs false
namespace Go.Proofs.Ytpopbcidnhepiab.FnNamesAbove
open Go.Sort Go.ChangeShapes Go.WideShapes Go.ChangeAt Go.RowKit Go.Proofs.Ytpopbcidnhepiab.Nm

set_option maxRecDepth 100000 in
set_option maxHeartbeats 1000000 in
theorem walk (a : Option Addr) (n cap : Nat) (w : World) (hc : Code w w.heap.size a n cap) :
    Calls Try.prog 4 #[.slice a n cap] w fun e w' => e = .returned (.bool true) ∧ Below w.heap.size w w' := by
  by_cases hn : (1048576 : Int) < (n : Int)
  · go_enter Try.func4, Try.ntmps4
    go_wp2_with fail
    go_ret
    exact ⟨rfl, Below.refl _ _⟩
  · have Hc := Lib.hid hc
    clear hc
    go_enter Try.func4, Try.ntmps4
    go_wp2_with fail
    refine (spec_DrawNamesAbove a n cap w Hc.out).mono ?_
    rintro e w1 ⟨l, rfl, hl, hb⟩
    go_wp2_with fail
    have hnl := namesAbove_len l
    refine (impl_NamesAbove l w1 (by omega)).mono ?_
    rintro e w2 ⟨v2, rfl, hown2, hb2⟩
    have hr2 := Lib.hid (Reads.of_owns hown2)
    obtain ⟨a2, c2, rfl⟩ := owns_shape hown2
    clear hown2
    go_wp2_with fail
    refine (spec_NamesAbove l w2 (by omega)).mono ?_
    rintro e w3 ⟨v3, rfl, hown3, hb3⟩
    have hr3 := Lib.hid (Reads.of_owns hown3)
    obtain ⟨a3, c3, rfl⟩ := owns_shape hown3
    clear hown3
    go_wp2_with fail
    refine (laws_equalTexts _ _ _ _ w3 (Reads.below hr2.out hb3) hr3.out (by omega) (by omega)).mono ?_
    rintro e w4 ⟨rfl, hb4⟩
    rw [decide_eq_true rfl]
    cases hv : vn l
    · have hp0 : namesAbove l = [] := by simp [namesAbove, hv]
      have h0 : (namesAbove l).length = 0 := by rw [hp0]; rfl
      have hr2' : Reads w2 (.slice a2 0 c2) (namesAbove l) := by have := hr2.out; rwa [h0] at this
      have Hr2 := Lib.hid hr2'
      rw [h0]
      clear hv hp0 h0 hr2 hr2'
      go_wp2_with fail
      refine (spec_NamesAbove l w4 (by omega)).mono ?_
      rintro e w5 ⟨v5, rfl, hown5, hb5⟩
      have hr5 := Lib.hid (Reads.of_owns hown5)
      obtain ⟨a5, c5, rfl⟩ := owns_shape hown5
      clear hown5
      go_wp2_with fail
      refine (laws_equalTexts _ _ _ _ w5 (Reads.below (Reads.below Hr2.out (bt hb3 hb4)) hb5) hr5.out (by omega) (by omega)).mono ?_
      rintro e w6 ⟨rfl, hb6⟩
      rw [decide_eq_true rfl]
      have hbe := Lib.hid (bt (bt (bt (bt (bt hb hb2) hb3) hb4) hb5) hb6)
      go_wp2_with fail
      go_ret
      exact ⟨rfl, hbe.out⟩
    · have hna : namesAbove l = above l := by simp [namesAbove, hv]
      have hpos : 1 ≤ (namesAbove l).length := by rw [hna, above_len]; exact split_pos l
      have Hp := Lib.hid (show ∀ i (h : i < (namesAbove l).length), 0 < i → parentOf (namesAbove l)[i] = (namesAbove l)[i - 1] by simp only [hna]; exact fun i h h0 => above_parent hv i h h0)
      have Hp0 := Lib.hid (show ∀ (h : 0 < (namesAbove l).length), parentOf (namesAbove l)[0] = [] by simp only [hna]; exact fun h => above_parent0 hv h)
      have Hu := Lib.hid (show ∀ i (h : i < (namesAbove l).length), isUnder l (namesAbove l)[i] = true by simp only [hna]; exact fun i h => above_under hv i h)
      have Hla := Lib.hid (show ∀ (h : (namesAbove l).length - 1 < (namesAbove l).length), (namesAbove l)[(namesAbove l).length - 1] = l by simp only [hna]; exact fun h => above_last l h)
      have Hz := Lib.hid (show ∀ n ∈ namesAbove l, n.length ≤ 11 from fun n hn => vn_len (namesAbove_vn hn))
      have hr4 := Reads.below hr2.out (bt hb3 hb4)
      have hbe := Lib.hid (bt (bt (bt hb hb2) hb3) hb4)
      obtain ⟨b1, o1, c1, e1, hl1, hm1, hb1, hc1⟩ := Reads.some hr4 hpos
      simp only [Value.slice.injEq] at e1
      obtain ⟨rfl, _, rfl⟩ := e1
      have Hc := Lib.hid hc1
      have hne : (((namesAbove l).length : Int) == 0) = false := by rw [beq_eq_false_iff_ne]; omega
      clear hv hna hr2 hr3 hr4 hb hb2 hb3 hb4 hc1 hm1
      go_wp2_with fail
      go_loopw [5] (fun kv wr => ∃ k : Nat, k ≤ (namesAbove l).length ∧ kv = .int .i64 k ∧ Below w4.heap.size w4 wr) (fun kv _ => (namesAbove l).length - (intOf kv).toNat)
      case atStart => exact ⟨0, by omega, rfl, Below.refl _ _⟩
      case round =>
        obtain ⟨k, hk, rfl, hbel⟩ := hrel
        by_cases hlt : k < (namesAbove l).length
        · have hcell := (hbel.cell (p := ⟨b1, o1 + k, none⟩) hb1).trans (Hc.out k hlt)
          have HcN := Lib.hid (Hc.out k hlt)
          have hs1 := Hz.out _ (List.getElem_mem hlt)
          have Hbel := Lib.hid hbel
          have Huk := Lib.hid (Hu.out k hlt)
          have hpar := Hp.out k hlt
          have hparz := Hp0.out (by omega)
          by_cases h0 : k = 0
          · subst h0
            have hcell0 : wr.cell? ⟨b1, o1, none⟩ = some (.string (mk (namesAbove l)[0])) := by simpa using hcell
            have k0 := cell_regrown hcell0
            clear hcell hbel hpar hparz hcell0
            generalize (namesAbove l)[0] = nm at *
            have cU : ∀ d os, Calls Try.prog 19 #[.string (mk l), .string (mk nm)] (grow (redrawn wr d) os) fun e w'' => e = .returned (.bool true) ∧ ∃ p : Regrown, w'' = grow (redrawn wr p.d) p.os := fun d os =>
              Calls.regrown_of (by have h := impl_IsUnder l nm (grow (redrawn wr d) os) (by omega) (by omega); rw [Huk.out] at h; exact h)
            have hi1 : (0 : Int) < ((namesAbove l).length : Int) := by omega
            go_wp2_with fail
            refine wp_region_quiet_below (by kernel_rfl) (by kernel_rfl) ?_
            repeat (go_big_quiet_step (exact cU _ _))
            refine wpQuiet_nil ?_
            intro _ hw'
            obtain ⟨⟨dq, osq⟩, hw2⟩ := hw'
            subst hw2
            clear cU k0
            have Hb7 := Lib.hid (bt Hbel.out (below_regrown wr dq osq))
            go_wp2_with fail
            go_roundw
            case rel => exact ⟨1, by omega, rfl, Hb7.out⟩
            case measure => simp [intOf]; omega
          · have hk0 : (0 : Int) < (k : Int) := by omega
            have hpk := hpar (by omega)
            have hcellp := (hbel.cell (p := ⟨b1, o1 + (k - 1), none⟩) hb1).trans (Hc.out (k - 1) (by omega))
            rw [← hpk] at hcellp
            have k0 := cell_regrown hcell
            have k1 := cell_regrown hcellp
            clear hcell hbel hpar hparz hcellp hpk h0
            generalize (namesAbove l)[k] = nm at *
            have cU : ∀ d os, Calls Try.prog 19 #[.string (mk l), .string (mk nm)] (grow (redrawn wr d) os) fun e w'' => e = .returned (.bool true) ∧ ∃ p : Regrown, w'' = grow (redrawn wr p.d) p.os := fun d os =>
              Calls.regrown_of (by have h := impl_IsUnder l nm (grow (redrawn wr d) os) (by omega) (by omega); rw [Huk.out] at h; exact h)
            have cP : ∀ d os, Calls Try.prog 12 #[.string (mk nm)] (grow (redrawn wr d) os) fun e w'' => e = .returned (.string (mk (parentOf nm))) ∧ ∃ p : Regrown, w'' = grow (redrawn wr p.d) p.os := fun d os =>
              Calls.regrown_of (impl_ParentOf nm (grow (redrawn wr d) os) (by omega))
            have hgN : 0 < k := by omega
            have hgB : decide ((0 : Int) < (k : Int)) = true := decide_eq_true hk0
            have hgB2 : decide (0 < k) = true := decide_eq_true hgN
            have hi1 : (k : Int) < ((namesAbove l).length : Int) := by omega
            have hi2 : (0 : Int) ≤ (k : Int) - 1 := by omega
            have hi3 : (k : Int) - 1 < ((namesAbove l).length : Int) := by omega
            have hi4 : ((k : Int) - 1).toNat = k - 1 := by omega
            have hi5 : IntKind.i64.wrap ((k : Int) - 1) = (k : Int) - 1 := IntWalk.i64_in _ (by omega)
            have hi6 : (1 : Int) ≤ (k : Int) := by omega
            go_wp2_with fail
            refine wp_region_quiet_below (by kernel_rfl) (by kernel_rfl) ?_
            repeat (go_big_quiet_step (first | exact cU _ _ | exact cP _ _))
            refine wpQuiet_nil ?_
            intro _ hw'
            obtain ⟨⟨dq, osq⟩, hw2⟩ := hw'
            subst hw2
            clear cU cP k0 k1
            have Hb7 := Lib.hid (bt Hbel.out (below_regrown wr dq osq))
            go_wp2_with fail
            go_roundw
            case rel => exact ⟨k + 1, by omega, by go_num, Hb7.out⟩
            case measure => simp [intOf]; omega
        · have hcL := Hc.out ((namesAbove l).length - 1) (by omega)
          rw [Hla.out (by omega)] at hcL
          have hcell := (hbel.cell (p := ⟨b1, o1 + ((namesAbove l).length - 1), none⟩) hb1).trans hcL
          have hc0 := Hc.out 0 (by omega)
          have Hp00 := Lib.hid (Hp0.out (by omega))
          have Hz0 := Lib.hid (Hz.out _ (List.getElem_mem (by omega : 0 < (namesAbove l).length)))
          have hcell0 : wr.cell? ⟨b1, o1, none⟩ = some (.string (mk (namesAbove l)[0])) := by
            rw [hbel.cell (p := ⟨b1, o1, none⟩) hb1]; simpa using hc0
          have Hbel := Lib.hid hbel
          clear hbel hcL hc0
          have hi1 : (0 : Int) < ((namesAbove l).length : Int) := by omega
          obtain ⟨nm, hnm⟩ : ∃ nm, nm = (namesAbove l)[0] := ⟨_, rfl⟩
          rw [← hnm] at Hp00 Hz0 hcell0
          clear Hp Hp0 Hu Hla Hc hnm
          have HB := Lib.hid (bt hbe.out Hbel.out)
          generalize (namesAbove l).length = N at *
          go_wp2_with fail
          have hz0 := Hz0.out
          refine (impl_ParentOf nm _ (by omega)).mono ?_
          rintro e w8 ⟨rfl, hb8⟩
          rw [Hp00.out]
          have HB8 := Lib.hid (bt HB.out hb8)
          clear hb8
          go_wp2_with fail
          go_ret
          exact ⟨rfl, HB8.out⟩

/-! ### THE STEP TO THE ROW -/
set_option maxRecDepth 100000 in
theorem lifted (os : Os) (started : os.Started) (H : Type) (enc : TypeId × Value → H) :
    ReturnsInHanded {} Try.checked os 4 .any (Rows.fnNamesAboveSpec.pre6 enc Try.prog Try.f4 Rows.fnNamesAboveRow.domain false) (Rows.fnNamesAboveSpec.post enc Try.prog Try.f4 false true false false) := by
  refine returnsInHanded_of_change (C := Try.checked) own started (by kernel_rfl) Try.func4
    (ChangeSpec.witness6 (enc := enc) (C := Try.checked) false ⟨#[], #[.slice none 0 0], []⟩ 8 (by kernel_rfl) (by kernel_rfl) (by kernel_rfl) (by kernel_rfl)) ?_
  intro W base args ds gs before hval0 hW hcnd _
  have hval : ∀ (j : Nat) t v, Try.f4.params[j]? = some t → args[j]? = some v → Value.okWide Try.prog W .any base t v := hval0
  have hW' := hW
  obtain ⟨p, q, hA0, hV, rfl, hfz, hnd⟩ := hW
  have hA : DataW.TrodAll enc Try.prog W 0 (fun _ => true) true Try.f4.params.toList args.toList ds p := hA0
  rw [Try.params4] at hA hval
  obtain ⟨v0, vs0, d0, ds0, p0, q0, hargs, rfl, rfl, h0, r0⟩ := trodAll_cons hA
  obtain ⟨rfl, rfl, rfl⟩ := trodAll_nil r0
  obtain rfl : args = #[v0] := by cases args; simp_all
  obtain ⟨rfl, rfl⟩ := trodVars_none hV
  obtain ⟨a0, len0, cap0, rfl⟩ := okWide_slice Try.underlying22 (hval 0 22 v0 rfl rfl)
  have k0 := h0
  have lt0 : ∀ x ∈ p0, x.block < W.heap.size := by obtain ⟨m, hm⟩ := k0; exact DataW.trod_lt m _ _ _ hm
  have w0 : Code W W.heap.size a0 len0 cap0 := by
    obtain ⟨fuel, hf⟩ := h0
    rcases open_ints Try.underlying22 Try.underlying5 (by kernel_rfl) hf with ⟨hcs, _⟩ | ⟨x, l, c, zs, hcs, _, hl, hm, hz, _, hcell, hwz⟩
    · simp [Value.cells] at hcs
      obtain ⟨rfl, rfl, rfl⟩ := hcs
      exact .inl ⟨rfl, by unfold maxLen; omega⟩
    · simp [Value.cells] at hcs
      obtain ⟨rfl, rfl, rfl⟩ := hcs
      exact code_row W _ _ _ zs hl hm (by simpa using hz) hcell hwz
  clear hA0 hval0
  refine (walk a0 len0 cap0 W w0).mono fun e W' ⟨he, bel⟩ => ?_
  subst he
  exact ⟨_, rfl, _, _, _, [], _, [], hW', trodAll_mk1 (shut_bool Try.underlying4 _), (trodAll_cons_mk (Below.trod laidOut (by kernel_rfl) (of_decide_eq_true (by kernel_rfl)) k0 bel lt0) trodAll_mk0), rfl, bel.frame _, fun h => by cases h⟩

theorem over : Rows.fnNamesAboveRow.holds Try.pinned (OpenSpec.ofChange Rows.fnNamesAboveSpec) :=
  OpenClaim.holds_of_wide 4 Try.f4 rfl rfl rfl rfl rfl rfl rfl ⟨rfl, rfl, rfl, rfl, rfl⟩ rfl rfl rfl rfl rfl (by kernel_rfl) Try.func4 (by kernel_rfl)
    (of_decide_eq_true (by kernel_rfl)) (by unfold Func.isWrapper; first | (rw [if_pos (by decide +kernel)]; kernel_rfl) | (rw [if_neg (by decide +kernel)]; exact ⟨rfl, rfl⟩))
    (fun os started H enc _ => lifted os started H enc)

/-- THE STATEMENT -/
theorem proved : Rows.FnNamesAboveSaid := over
end Go.Proofs.Ytpopbcidnhepiab.FnNamesAbove
