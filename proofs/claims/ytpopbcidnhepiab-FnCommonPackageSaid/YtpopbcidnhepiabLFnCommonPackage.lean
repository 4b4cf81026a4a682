/- FnCommonPackage returns true for every code. -/
import Derived.Test.YtpopbcidnhepiabUnder
import Derived.Test.YtpopbcidnhepiabPlain2
import Derived.Test.YtpopbcidnhepiabDraws
import Derived.Test.YtpopbcidnhepiabFrame
import Derived.Test.YtpopbcidnhepiabCommon
import Derived.Test.YtpopbcidnhepiabPlain4
set_option linter.unusedVariables false
set_option linter.unusedSimpArgs false
namespace Go.Proofs.Ytpopbcidnhepiab.FnCommonPackage
open Go.ChangeShapes Go.WideShapes Go.ChangeAt Go.RowKit Go.Proofs.Ytpopbcidnhepiab.Nm

set_option maxRecDepth 100000 in
set_option maxHeartbeats 1000000 in
theorem walk (a : Option Addr) (n cap : Nat) (w : World) (hc : Code w w.heap.size a n cap) :
    Calls Try.prog 8 #[.slice a n cap] w fun e w' => e = .returned (.bool true) ∧ Below w.heap.size w w' := by
  by_cases hn : (1048576 : Int) < (n : Int)
  · go_enter Try.func8, Try.ntmps8
    go_wp2_with fail
    go_ret
    exact ⟨rfl, Below.refl _ _⟩
  · have Hc := Lib.hid hc
    clear hc
    go_enter Try.func8, Try.ntmps8
    go_wp2_with fail
    refine (spec_DrawCommonPackage a n cap w Hc.out).mono ?_
    rintro e w1 ⟨p, s, rfl, hp, hs, hb⟩
    go_wp2_with fail
    have hcl := common_len p s
    refine (impl_CommonPackage p s w1 (by omega) (by omega)).mono ?_
    rintro e w2 ⟨rfl, hb2⟩
    obtain ⟨c, hc'⟩ : ∃ c, c = common p s := ⟨_, rfl⟩
    rw [← hc'] at hcl
    rw [← hc']
    have Hc' := Lib.hid hc'.symm
    clear hc'
    go_wp2_with fail
    refine (spec_CommonPackage p s w2 (by omega) (by omega)).mono ?_
    rintro e w3 ⟨rfl, hb3⟩
    rw [Hc'.out]
    go_wp2_with fail
    refine (impl_ValidName p w3 (by omega)).mono ?_
    rintro e w4 ⟨rfl, hb4⟩
    cases hv : vn p
    · clear hv
      go_wp2_with fail
      refine (spec_CommonPackage p s w4 (by omega) (by omega)).mono ?_
      rintro e w5 ⟨rfl, hb5⟩
      rw [Hc'.out]
      go_wp2_with fail
      go_ret
      exact ⟨rfl, bt (bt (bt (bt hb hb2) hb3) hb4) hb5⟩
    · cases hv2 : vn s
      · have Hv2 := Lib.hid hv2
        clear hv hv2
        go_wp2_with fail
        refine (impl_ValidName s w4 (by omega)).mono ?_
        rintro e w5 ⟨rfl, hb5⟩
        rw [Hv2.out]
        go_wp2_with fail
        refine (spec_CommonPackage p s w5 (by omega) (by omega)).mono ?_
        rintro e w6 ⟨rfl, hb6⟩
        rw [Hc'.out]
        go_wp2_with fail
        go_ret
        exact ⟨rfl, bt (bt (bt (bt (bt hb hb2) hb3) hb4) hb5) hb6⟩
      · have Hv2 := Lib.hid hv2
        have Hlong := Lib.hid (fun k (h : k < (namesAbove p).length) (hu : isUnder s (namesAbove p)[k] = true) => (show (namesAbove p)[k].length ≤ c.length by rw [← Hc'.out]; exact common_longest hv h hu))
        have Hsym := Lib.hid (show common s p = c by rw [← Hc'.out]; exact common_comm hv2 hv)
        have Hu1 := Lib.hid (show isUnder p c = true by rw [← Hc'.out]; exact common_under_left hv hv2)
        have Hu2 := Lib.hid (show isUnder s c = true by rw [← Hc'.out]; exact common_under_right hv hv2)
        have hnl : (namesAbove p).length ≤ 30 := Nat.le_trans (namesAbove_len p) (by omega)
        have Hz := Lib.hid (show ∀ n ∈ namesAbove p, n.length ≤ 11 from fun n hn => vn_len (namesAbove_vn hn))
        clear hv hv2
        go_wp2_with fail
        refine (impl_ValidName s w4 (by omega)).mono ?_
        rintro e w5 ⟨rfl, hb5⟩
        rw [Hv2.out]
        go_wp2_with fail
        refine (impl_NamesAbove p w5 (by omega)).mono ?_
        rintro e w6 ⟨v6, rfl, hown6, hb6⟩
        have Hr := Lib.hid (Reads.of_owns hown6)
        obtain ⟨aa, cap', rfl⟩ := owns_shape hown6
        have hbe := bt (bt (bt (bt (bt hb hb2) hb3) hb4) hb5) hb6
        have Hbe := Lib.hid hbe
        clear hown6 hb hb2 hb3 hb4 hb5 hb6 hbe
        generalize namesAbove p = xs at *
        go_wp2_with fail
        go_loopw [7] (fun kv wr => ∃ k : Nat, k ≤ xs.length ∧ kv = .int .i64 k ∧ Below w6.heap.size w6 wr) (fun kv _ => xs.length - (intOf kv).toNat)
        case atStart => exact ⟨0, by omega, rfl, Below.refl _ _⟩
        case round =>
          obtain ⟨k, hk, rfl, hbel⟩ := hrel
          by_cases hlt : k < xs.length
          · obtain ⟨b1, o1, c1, e1, hl1, hm1, hb1, hc1⟩ := Reads.some Hr.out (by omega)
            simp only [Value.slice.injEq] at e1
            obtain ⟨rfl, _, rfl⟩ := e1
            have hcell := (hbel.cell (p := ⟨b1, o1 + k, none⟩) hb1).trans (hc1 k hlt)
            have hcellN := Lib.hid (hc1 k hlt)
            have hs1 := Hz.out _ (List.getElem_mem hlt)
            have Hlk := Lib.hid (Hlong.out k hlt)
            have Hbel := Lib.hid hbel
            have Hb1 := Lib.hid hb1
            clear hc1 hbel
            cases hu : isUnder s xs[k]
            · have Hu := Lib.hid hu
              clear hu
              generalize xs[k] = nm at *
              go_wp2_with fail
              refine (impl_IsUnder s nm _ (by omega) (by omega)).mono ?_
              rintro e w7 ⟨rfl, hb7⟩
              rw [Hu.out]
              have Hb7 := Lib.hid (bt Hbel.out hb7)
              clear hb7
              go_wp2_with fail
              go_roundw
              case rel => exact ⟨k + 1, by omega, by go_num, Hb7.out⟩
              case measure => simp [intOf]; omega
            · have Hu := Lib.hid hu
              have Hle := Lib.hid (Hlk.out hu)
              clear hu Hlk
              generalize xs[k] = nm at *
              go_wp2_with fail
              refine (impl_IsUnder s nm _ (by omega) (by omega)).mono ?_
              rintro e w7 ⟨rfl, hb7⟩
              rw [Hu.out]
              have Hb7 := Lib.hid (bt Hbel.out hb7)
              have hcell7 : w7.cell? ⟨b1, o1 + k, none⟩ = some (.string (mk nm)) := by
                rw [Hb7.out.cell (p := ⟨b1, o1 + k, none⟩) Hb1.out]; exact hcellN.out
              have hle : ¬ (c.length : Int) < (nm.length : Int) := by have := Hle.out; omega
              clear hb7 hcell
              go_wp2_with fail
              go_roundw
              case rel => exact ⟨k + 1, by omega, by go_num, Hb7.out⟩
              case measure => simp [intOf]; omega
          · have Hbf := Lib.hid (bt Hbe.out hbel)
            clear hbel
            go_wp2_with fail
            refine (impl_CommonPackage s p _ (by omega) (by omega)).mono ?_
            rintro e w8 ⟨rfl, hb8⟩
            rw [Hsym.out]
            go_wp2_with fail
            refine (impl_IsUnder p c _ (by omega) (by omega)).mono ?_
            rintro e w9 ⟨rfl, hb9⟩
            rw [Hu1.out]
            go_wp2_with fail
            refine (impl_IsUnder s c _ (by omega) (by omega)).mono ?_
            rintro e w10 ⟨rfl, hb10⟩
            rw [Hu2.out]
            go_wp2_with fail
            go_ret
            exact ⟨rfl, bt (bt (bt Hbf.out hb8) hb9) hb10⟩

/-! ### THE STEP TO THE ROW -/
set_option maxRecDepth 100000 in
theorem lifted (os : Os) (started : os.Started) (H : Type) (enc : TypeId × Value → H) :
    ReturnsInHanded {} Try.checked os 8 .any (Rows.fnCommonPackageSpec.pre6 enc Try.prog Try.f8 Rows.fnCommonPackageRow.domain false) (Rows.fnCommonPackageSpec.post enc Try.prog Try.f8 false true false false) := by
  refine returnsInHanded_of_change (C := Try.checked) own started (by kernel_rfl) Try.func8
    (ChangeSpec.witness6 (enc := enc) (C := Try.checked) false ⟨#[], #[.slice none 0 0], []⟩ 8 (by kernel_rfl) (by kernel_rfl) (by kernel_rfl) (by kernel_rfl)) ?_
  intro W base args ds gs before hval0 hW hcnd _
  have hval : ∀ (j : Nat) t v, Try.f8.params[j]? = some t → args[j]? = some v → Value.okWide Try.prog W .any base t v := hval0
  have hW' := hW
  obtain ⟨p, q, hA0, hV, rfl, hfz, hnd⟩ := hW
  have hA : DataW.TrodAll enc Try.prog W 0 (fun _ => true) true Try.f8.params.toList args.toList ds p := hA0
  rw [Try.params8] at hA hval
  obtain ⟨v0, vs0, d0, ds0, p0, q0, hargs, rfl, rfl, h0, r0⟩ := trodAll_cons hA
  obtain ⟨rfl, rfl, rfl⟩ := trodAll_nil r0
  obtain rfl : args = #[v0] := by cases args; simp_all
  obtain ⟨rfl, rfl⟩ := trodVars_none hV
  obtain ⟨a0, len0, cap0, rfl⟩ := okWide_slice Try.underlying22 (hval 0 22 v0 rfl rfl)
  have k0 := h0
  have lt0 : ∀ x ∈ p0, x.block < W.heap.size := by obtain ⟨m, hm⟩ := k0; exact DataW.trod_lt m _ _ _ hm
  have w0 : Code W W.heap.size a0 len0 cap0 := by
    obtain ⟨fuel, hf⟩ := h0
    rcases open_ints Try.underlying22 Try.underlying5 (by kernel_rfl) hf with ⟨hcs, _⟩ | ⟨x, l, c, zs, hcs, _, hl, hm, hz, _, hcell, hwz⟩
    · simp [Value.cells] at hcs
      obtain ⟨rfl, rfl, rfl⟩ := hcs
      exact .inl ⟨rfl, by unfold maxLen; omega⟩
    · simp [Value.cells] at hcs
      obtain ⟨rfl, rfl, rfl⟩ := hcs
      exact code_row W _ _ _ zs hl hm (by simpa using hz) hcell hwz
  clear hA0 hval0
  refine (walk a0 len0 cap0 W w0).mono fun e W' ⟨he, bel⟩ => ?_
  subst he
  exact ⟨_, rfl, _, _, _, [], _, [], hW', trodAll_mk1 (shut_bool Try.underlying4 _), (trodAll_cons_mk (Below.trod laidOut (by kernel_rfl) (of_decide_eq_true (by kernel_rfl)) k0 bel lt0) trodAll_mk0), rfl, bel.frame _, fun h => by cases h⟩

theorem over : Rows.fnCommonPackageRow.holds Try.pinned (OpenSpec.ofChange Rows.fnCommonPackageSpec) :=
  OpenClaim.holds_of_wide 8 Try.f8 rfl rfl rfl rfl rfl rfl rfl ⟨rfl, rfl, rfl, rfl, rfl⟩ rfl rfl rfl rfl rfl (by kernel_rfl) Try.func8 (by kernel_rfl)
    (of_decide_eq_true (by kernel_rfl)) (by unfold Func.isWrapper; first | (rw [if_pos (by decide +kernel)]; kernel_rfl) | (rw [if_neg (by decide +kernel)]; exact ⟨rfl, rfl⟩))
    (fun os started H enc _ => lifted os started H enc)

/-- THE STATEMENT -/
theorem proved : Rows.FnCommonPackageSaid := over
end Go.Proofs.Ytpopbcidnhepiab.FnCommonPackage
