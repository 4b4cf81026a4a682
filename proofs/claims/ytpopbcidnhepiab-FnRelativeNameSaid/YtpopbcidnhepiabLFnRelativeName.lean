/- FnRelativeName returns true for every code. -/
import Derived.Test.YtpopbcidnhepiabUnder
import Derived.Test.YtpopbcidnhepiabPlain2
import Derived.Test.YtpopbcidnhepiabDraws
import Derived.Test.YtpopbcidnhepiabFrame
import Derived.Test.YtpopbcidnhepiabCommon
import Derived.Test.YtpopbcidnhepiabPlain4
set_option linter.unusedVariables false
set_option linter.unusedSimpArgs false
namespace Go.Proofs.Ytpopbcidnhepiab.FnRelativeName
open Go.ChangeShapes Go.WideShapes Go.ChangeAt Go.RowKit Go.Proofs.Ytpopbcidnhepiab.Nm

set_option maxRecDepth 100000 in
set_option maxHeartbeats 1000000 in
theorem walk (a : Option Addr) (n cap : Nat) (w : World) (hc : Code w w.heap.size a n cap) :
    Calls Try.prog 7 #[.slice a n cap] w fun e w' => e = .returned (.bool true) ∧ Below w.heap.size w w' := by
  by_cases hn : (1048576 : Int) < (n : Int)
  · go_enter Try.func7, Try.ntmps7
    go_wp2_with fail
    go_ret
    exact ⟨rfl, Below.refl _ _⟩
  · have Hc := Lib.hid hc
    clear hc
    go_enter Try.func7, Try.ntmps7
    go_wp2_with fail
    refine (spec_DrawRelativeName a n cap w Hc.out).mono ?_
    rintro e w1 ⟨p, s, rfl, hp, hs, hb⟩
    go_wp2_with fail
    refine (impl_RelativeName p s w1 (by omega) (by omega)).mono ?_
    rintro e w2 ⟨rfl, hb2⟩
    have Hf := Lib.hid (fun h => relName_facts (p := p) (s := s) h)
    obtain ⟨lv, hlv⟩ : ∃ lv, lv = (relName p s).1 := ⟨_, rfl⟩
    obtain ⟨rr, hrr⟩ : ∃ rr, rr = (relName p s).2 := ⟨_, rfl⟩
    have Hlv := Lib.hid hlv.symm
    have Hrr := Lib.hid hrr.symm
    rw [← hlv, ← hrr]
    clear hlv hrr
    go_wp2_with fail
    refine (spec_RelativeName p s w2 (by omega) (by omega)).mono ?_
    rintro e w3 ⟨rfl, hb3⟩
    rw [Hlv.out, Hrr.out]
    have HB := Lib.hid (bt (bt hb hb2) hb3)
    clear hb hb2 hb3
    by_cases h0 : lv = 0
    · subst h0
      clear Hlv
      go_wp2_with fail
      go_ret
      exact ⟨rfl, HB.out⟩
    · have hf := Hf.out
      rw [Hlv.out, Hrr.out] at hf
      obtain ⟨hvp, hvs, L, hL, hlL, hno, hres, hlen⟩ := hf h0
      rw [hlL] at h0 ⊢
      have Hno := Lib.hid hno
      have Hres := Lib.hid hres
      have Hup := Lib.hid (fun k => vpk_len (vpk_upN hvp k))
      have hl0b : ((L : Int) + 1 == 0) = false := by rw [beq_eq_false_iff_ne]; exact h0
      clear hf Hf Hlv Hrr hlL hno hres hvp hvs h0
      go_wp2_with fail
      go_loopw [9] (fun kv wr => ∃ k : Nat, k ≤ L ∧ kv = .int .i64 ((k : Int) + 1) ∧ Below w.heap.size w wr) (fun kv _ => 10 - (intOf kv).toNat)
      case atStart => exact ⟨0, by omega, rfl, HB.out⟩
      case round =>
        obtain ⟨k, hk, rfl, hbel⟩ := hrel
        have Hbel := Lib.hid hbel
        clear hbel
        by_cases hlt : k < L
        · have hkl : (k : Int) + 1 < (L : Int) + 1 := by omega
          have Huk := Lib.hid (Hno.out k hlt)
          have hlk := Hup.out k
          go_wp2_with fail
          go_loopw [10, 11] (fun bv iv wr => ∃ j : Nat, j ≤ k ∧ bv = .string (mk (upN p j)) ∧ iv = .int .i64 ((j : Int) + 1) ∧ Below w.heap.size w wr) (fun _ iv _ => 10 - (intOf iv).toNat)
          case atStart => exact ⟨0, by omega, rfl, rfl, Hbel.out⟩
          case round =>
            obtain ⟨j, hj, rfl, rfl, hbel⟩ := hrel
            have Hbj := Lib.hid hbel
            clear hbel
            by_cases hjl : j < k
            · have hjkl : (j : Int) + 1 < (k : Int) + 1 := by omega
              have hlj := Hup.out j
              have Hsn := Lib.hid (upN_snoc p j)
              generalize upN p j = pj at *
              go_wp2_with fail
              refine (impl_ParentOf pj _ (by omega)).mono ?_
              rintro e w5 ⟨rfl, hb5⟩
              rw [← Hsn.out]
              have Hb5 := Lib.hid (bt Hbj.out hb5)
              clear hb5
              go_wp2_with fail
              go_roundw
              case rel => exact ⟨j + 1, by omega, rfl, by go_num, Hb5.out⟩
              case measure => simp [intOf]; omega
            · have hje : j = k := by omega
              subst hje
              generalize upN p j = pj at *
              go_wp2_with fail
              refine (impl_IsUnder s pj _ (by omega) (by omega)).mono ?_
              rintro e w5 ⟨rfl, hb5⟩
              rw [Huk.out]
              have Hb5 := Lib.hid (bt Hbj.out hb5)
              clear hb5
              go_wp2_with fail
              go_roundw
              case rel => exact ⟨j + 1, by omega, by go_num, Hb5.out⟩
              case measure => simp [intOf]; omega
        · have hke : k = L := by omega
          subst hke
          go_wp2_with fail
          refine (impl_ResolveName p rr _ _ (by omega) (by omega)).mono ?_
          rintro e w5 ⟨rfl, hb5⟩
          rw [Hres.out]
          have Hb5 := Lib.hid (bt Hbel.out hb5)
          clear hb5
          go_wp2_with fail
          go_ret
          exact ⟨rfl, Hb5.out⟩

/-! ### THE STEP TO THE ROW -/
set_option maxRecDepth 100000 in
theorem lifted (os : Os) (started : os.Started) (H : Type) (enc : TypeId × Value → H) :
    ReturnsInHanded {} Try.checked os 7 .any (Rows.fnRelativeNameSpec.pre6 enc Try.prog Try.f7 Rows.fnRelativeNameRow.domain false) (Rows.fnRelativeNameSpec.post enc Try.prog Try.f7 false true false false) := by
  refine returnsInHanded_of_change (C := Try.checked) own started (by kernel_rfl) Try.func7
    (ChangeSpec.witness6 (enc := enc) (C := Try.checked) false ⟨#[], #[.slice none 0 0], []⟩ 8 (by kernel_rfl) (by kernel_rfl) (by kernel_rfl) (by kernel_rfl)) ?_
  intro W base args ds gs before hval0 hW hcnd _
  have hval : ∀ (j : Nat) t v, Try.f7.params[j]? = some t → args[j]? = some v → Value.okWide Try.prog W .any base t v := hval0
  have hW' := hW
  obtain ⟨p, q, hA0, hV, rfl, hfz, hnd⟩ := hW
  have hA : DataW.TrodAll enc Try.prog W 0 (fun _ => true) true Try.f7.params.toList args.toList ds p := hA0
  rw [Try.params7] at hA hval
  obtain ⟨v0, vs0, d0, ds0, p0, q0, hargs, rfl, rfl, h0, r0⟩ := trodAll_cons hA
  obtain ⟨rfl, rfl, rfl⟩ := trodAll_nil r0
  obtain rfl : args = #[v0] := by cases args; simp_all
  obtain ⟨rfl, rfl⟩ := trodVars_none hV
  obtain ⟨a0, len0, cap0, rfl⟩ := okWide_slice Try.underlying22 (hval 0 22 v0 rfl rfl)
  have k0 := h0
  have lt0 : ∀ x ∈ p0, x.block < W.heap.size := by obtain ⟨m, hm⟩ := k0; exact DataW.trod_lt m _ _ _ hm
  have w0 : Code W W.heap.size a0 len0 cap0 := by
    obtain ⟨fuel, hf⟩ := h0
    rcases open_ints Try.underlying22 Try.underlying5 (by kernel_rfl) hf with ⟨hcs, _⟩ | ⟨x, l, c, zs, hcs, _, hl, hm, hz, _, hcell, hwz⟩
    · simp [Value.cells] at hcs
      obtain ⟨rfl, rfl, rfl⟩ := hcs
      exact .inl ⟨rfl, by unfold maxLen; omega⟩
    · simp [Value.cells] at hcs
      obtain ⟨rfl, rfl, rfl⟩ := hcs
      exact code_row W _ _ _ zs hl hm (by simpa using hz) hcell hwz
  clear hA0 hval0
  refine (walk a0 len0 cap0 W w0).mono fun e W' ⟨he, bel⟩ => ?_
  subst he
  exact ⟨_, rfl, _, _, _, [], _, [], hW', trodAll_mk1 (shut_bool Try.underlying4 _), (trodAll_cons_mk (Below.trod laidOut (by kernel_rfl) (of_decide_eq_true (by kernel_rfl)) k0 bel lt0) trodAll_mk0), rfl, bel.frame _, fun h => by cases h⟩

theorem over : Rows.fnRelativeNameRow.holds Try.pinned (OpenSpec.ofChange Rows.fnRelativeNameSpec) :=
  OpenClaim.holds_of_wide 7 Try.f7 rfl rfl rfl rfl rfl rfl rfl ⟨rfl, rfl, rfl, rfl, rfl⟩ rfl rfl rfl rfl rfl (by kernel_rfl) Try.func7 (by kernel_rfl)
    (of_decide_eq_true (by kernel_rfl)) (by unfold Func.isWrapper; first | (rw [if_pos (by decide +kernel)]; kernel_rfl) | (rw [if_neg (by decide +kernel)]; exact ⟨rfl, rfl⟩))
    (fun os started H enc _ => lifted os started H enc)

/-- THE STATEMENT -/
theorem proved : Rows.FnRelativeNameSaid := over
end Go.Proofs.Ytpopbcidnhepiab.FnRelativeName
