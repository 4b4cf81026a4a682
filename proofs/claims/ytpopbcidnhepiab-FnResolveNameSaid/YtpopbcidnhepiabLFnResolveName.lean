/- FnResolveName returns true for every code. -/
import Derived.Test.YtpopbcidnhepiabUnder
import Derived.Test.YtpopbcidnhepiabPlain2
import Derived.Test.YtpopbcidnhepiabDraws
import Derived.Test.YtpopbcidnhepiabFrame
import Derived.Test.YtpopbcidnhepiabCommon
import Derived.Test.YtpopbcidnhepiabPlain4
set_option linter.unusedVariables false
set_option linter.unusedSimpArgs false
namespace Go.Proofs.Ytpopbcidnhepiab.FnResolveName
open Go.ChangeShapes Go.WideShapes Go.ChangeAt Go.RowKit Go.Proofs.Ytpopbcidnhepiab.Nm

set_option maxRecDepth 100000 in
set_option maxHeartbeats 1000000 in
theorem walk (a : Option Addr) (n cap : Nat) (w : World) (hc : Code w w.heap.size a n cap) :
    Calls Try.prog 6 #[.slice a n cap] w fun e w' => e = .returned (.bool true) ∧ Below w.heap.size w w' := by
  by_cases hn : (1048576 : Int) < (n : Int)
  · go_enter Try.func6, Try.ntmps6
    go_wp2_with fail
    go_ret
    exact ⟨rfl, Below.refl _ _⟩
  · have Hc := Lib.hid hc
    clear hc
    go_enter Try.func6, Try.ntmps6
    go_wp2_with fail
    refine (spec_DrawResolveName a n cap w Hc.out).mono ?_
    rintro e w1 ⟨p, s, lv, rfl, hp, hs, hlv1, hlv5, hb⟩
    go_wp2_with fail
    have hrl := resolved_len p s lv
    refine (impl_ResolveName p s lv w1 (by omega) (by omega)).mono ?_
    rintro e w2 ⟨rfl, hb2⟩
    by_cases h0 : resolved p lv s = []
    · have H0 := Lib.hid h0
      rw [h0]
      clear h0
      go_wp2_with fail
      refine (spec_ResolveName p s lv w2 (by omega) (by omega)).mono ?_
      rintro e w3 ⟨rfl, hb3⟩
      rw [H0.out]
      go_wp2_with fail
      refine (spec_ResolveName p s lv w3 (by omega) (by omega)).mono ?_
      rintro e w4 ⟨rfl, hb4⟩
      rw [H0.out]
      go_wp2_with fail
      go_ret
      exact ⟨rfl, bt (bt (bt hb hb2) hb3) hb4⟩
    · have hne : (resolved p lv s).isEmpty = false := by simpa using h0
      obtain ⟨_, _, hv0, hv4⟩ := resolved_valid h0
      by_cases hl0 : lv = 0
      · have He := Lib.hid (show resolved p lv s = s by rw [hl0] at h0 ⊢; exact resolved_zero h0)
        have hse : s.isEmpty = false := by rw [He.out] at hne; exact hne
        rw [He.out]
        clear h0 hne
        subst hl0
        go_wp2_with fail
        refine (spec_ResolveName p s 0 w2 (by omega) (by omega)).mono ?_
        rintro e w3 ⟨rfl, hb3⟩
        rw [He.out]
        go_wp2_with fail
        go_ret
        exact ⟨rfl, bt (bt hb hb2) hb3⟩
      · have hfacts : vn (resolved p lv s) = true ∧ resolved p 1 [] = p ∧ (1 < lv → resolved (parentOf p) (lv - 1) s = resolved p lv s) ∧ (s ≠ [] → ∃ b, resolved p lv s = b ++ s) := by
          obtain ⟨N, hN, hN3⟩ : ∃ N : Nat, lv = (N : Int) + 1 ∧ N ≤ 3 := ⟨(lv - 1).toNat, by omega, by omega⟩
          subst hN
          obtain ⟨f1, f2, f3, f4⟩ := resolved_facts hN3 h0
          refine ⟨f1, f2, fun h1 => ?_, f4⟩
          have := f3 (N - 1) (by omega)
          rw [← this]
          congr 1
          omega
        have Eq := Lib.hid (show resolved p lv s = resolved p lv s from rfl)
        obtain ⟨q, hq⟩ : ∃ q, q = resolved p lv s := ⟨_, rfl⟩
        rw [← hq] at hfacts hne hrl ⊢
        obtain ⟨f1, f2, f3, f4⟩ := hfacts
        have hl0b : (lv == 0) = false := by rw [beq_eq_false_iff_ne]; exact hl0
        have Hq := Lib.hid hq.symm
        have F1 := Lib.hid f1
        have F2 := Lib.hid f2
        have F3 := Lib.hid f3
        have hlow : 1 ≤ lv := by omega
        have hwr : IntKind.i64.wrap (lv - 1) = lv - 1 := IntWalk.i64_in _ (by omega)
        have Fin := Lib.hid (show s.isEmpty = true ∨ (s.isEmpty = false ∧ s.length ≤ q.length ∧ q.drop (q.length - s.length) = s) by
          by_cases hse : s = []
          · exact .inl (by rw [hse]; rfl)
          · obtain ⟨b, hb'⟩ := f4 hse
            refine .inr ⟨by simpa using hse, by rw [hb']; simp, ?_⟩
            rw [hb']; simp)
        clear hq f1 f2 f3 f4 h0 hl0 hv0 hv4 Eq
        by_cases h1 : (1 : Int) < lv
        · have Hpar := Lib.hid (F3.out h1)
          go_wp2_with fail
          refine (spec_ResolveName p s lv w2 (by omega) (by omega)).mono ?_
          rintro e w3 ⟨rfl, hb3⟩
          rw [Hq.out]
          go_wp2_with fail
          refine (impl_ParentOf p w3 (by omega)).mono ?_
          rintro e w4 ⟨rfl, hb4⟩
          go_wp2_with fail
          have hpl : (parentOf p).length ≤ 2000000 := by
            have : (parentOf p).length ≤ p.length := by
              unfold parentOf; split
              · exact parent_len p
              · simp
            omega
          refine (impl_ResolveName (parentOf p) s (lv - 1) w4 (by omega) (by omega)).mono ?_
          rintro e w5 ⟨rfl, hb5⟩
          rw [Hpar.out]
          go_wp2_with fail
          refine (impl_ResolveName p [] 1 w5 (by omega) (by simp)).mono ?_
          rintro e w6 ⟨rfl, hb6⟩
          rw [F2.out]
          go_wp2_with fail
          refine (impl_ValidName q w6 (by omega)).mono ?_
          rintro e w7 ⟨rfl, hb7⟩
          rw [F1.out]
          have HB := Lib.hid (bt (bt (bt (bt (bt (bt hb hb2) hb3) hb4) hb5) hb6) hb7)
          clear hb hb2 hb3 hb4 hb5 hb6 hb7
          rcases Fin.out with hse | ⟨hse, hln, hdr⟩
          · go_wp2_with fail
            go_ret
            exact ⟨rfl, HB.out⟩
          · have htk : (List.take (q.length - (q.length - s.length)) s == s) = true := by
              rw [show q.length - (q.length - s.length) = s.length by omega, List.take_length]; simp
            go_wp2_with fail
            go_ret
            exact ⟨rfl, HB.out⟩
        · go_wp2_with fail
          refine (spec_ResolveName p s lv w2 (by omega) (by omega)).mono ?_
          rintro e w3 ⟨rfl, hb3⟩
          rw [Hq.out]
          go_wp2_with fail
          refine (impl_ResolveName p [] 1 w3 (by omega) (by simp)).mono ?_
          rintro e w6 ⟨rfl, hb6⟩
          rw [F2.out]
          go_wp2_with fail
          refine (impl_ValidName q w6 (by omega)).mono ?_
          rintro e w7 ⟨rfl, hb7⟩
          rw [F1.out]
          have HB := Lib.hid (bt (bt (bt (bt hb hb2) hb3) hb6) hb7)
          clear hb hb2 hb3 hb6 hb7
          rcases Fin.out with hse | ⟨hse, hln, hdr⟩
          · go_wp2_with fail
            go_ret
            exact ⟨rfl, HB.out⟩
          · have htk : (List.take (q.length - (q.length - s.length)) s == s) = true := by
              rw [show q.length - (q.length - s.length) = s.length by omega, List.take_length]; simp
            go_wp2_with fail
            go_ret
            exact ⟨rfl, HB.out⟩

/-! ### THE STEP TO THE ROW -/
set_option maxRecDepth 100000 in
theorem lifted (os : Os) (started : os.Started) (H : Type) (enc : TypeId × Value → H) :
    ReturnsInHanded {} Try.checked os 6 .any (Rows.fnResolveNameSpec.pre6 enc Try.prog Try.f6 Rows.fnResolveNameRow.domain false) (Rows.fnResolveNameSpec.post enc Try.prog Try.f6 false true false false) := by
  refine returnsInHanded_of_change (C := Try.checked) own started (by kernel_rfl) Try.func6
    (ChangeSpec.witness6 (enc := enc) (C := Try.checked) false ⟨#[], #[.slice none 0 0], []⟩ 8 (by kernel_rfl) (by kernel_rfl) (by kernel_rfl) (by kernel_rfl)) ?_
  intro W base args ds gs before hval0 hW hcnd _
  have hval : ∀ (j : Nat) t v, Try.f6.params[j]? = some t → args[j]? = some v → Value.okWide Try.prog W .any base t v := hval0
  have hW' := hW
  obtain ⟨p, q, hA0, hV, rfl, hfz, hnd⟩ := hW
  have hA : DataW.TrodAll enc Try.prog W 0 (fun _ => true) true Try.f6.params.toList args.toList ds p := hA0
  rw [Try.params6] at hA hval
  obtain ⟨v0, vs0, d0, ds0, p0, q0, hargs, rfl, rfl, h0, r0⟩ := trodAll_cons hA
  obtain ⟨rfl, rfl, rfl⟩ := trodAll_nil r0
  obtain rfl : args = #[v0] := by cases args; simp_all
  obtain ⟨rfl, rfl⟩ := trodVars_none hV
  obtain ⟨a0, len0, cap0, rfl⟩ := okWide_slice Try.underlying22 (hval 0 22 v0 rfl rfl)
  have k0 := h0
  have lt0 : ∀ x ∈ p0, x.block < W.heap.size := by obtain ⟨m, hm⟩ := k0; exact DataW.trod_lt m _ _ _ hm
  have w0 : Code W W.heap.size a0 len0 cap0 := by
    obtain ⟨fuel, hf⟩ := h0
    rcases open_ints Try.underlying22 Try.underlying5 (by kernel_rfl) hf with ⟨hcs, _⟩ | ⟨x, l, c, zs, hcs, _, hl, hm, hz, _, hcell, hwz⟩
    · simp [Value.cells] at hcs
      obtain ⟨rfl, rfl, rfl⟩ := hcs
      exact .inl ⟨rfl, by unfold maxLen; omega⟩
    · simp [Value.cells] at hcs
      obtain ⟨rfl, rfl, rfl⟩ := hcs
      exact code_row W _ _ _ zs hl hm (by simpa using hz) hcell hwz
  clear hA0 hval0
  refine (walk a0 len0 cap0 W w0).mono fun e W' ⟨he, bel⟩ => ?_
  subst he
  exact ⟨_, rfl, _, _, _, [], _, [], hW', trodAll_mk1 (shut_bool Try.underlying4 _), (trodAll_cons_mk (Below.trod laidOut (by kernel_rfl) (of_decide_eq_true (by kernel_rfl)) k0 bel lt0) trodAll_mk0), rfl, bel.frame _, fun h => by cases h⟩

theorem over : Rows.fnResolveNameRow.holds Try.pinned (OpenSpec.ofChange Rows.fnResolveNameSpec) :=
  OpenClaim.holds_of_wide 6 Try.f6 rfl rfl rfl rfl rfl rfl rfl ⟨rfl, rfl, rfl, rfl, rfl⟩ rfl rfl rfl rfl rfl (by kernel_rfl) Try.func6 (by kernel_rfl)
    (of_decide_eq_true (by kernel_rfl)) (by unfold Func.isWrapper; first | (rw [if_pos (by decide +kernel)]; kernel_rfl) | (rw [if_neg (by decide +kernel)]; exact ⟨rfl, rfl⟩))
    (fun os started H enc _ => lifted os started H enc)

/-- THE STATEMENT -/
theorem proved : Rows.FnResolveNameSaid := over
end Go.Proofs.Ytpopbcidnhepiab.FnResolveName
