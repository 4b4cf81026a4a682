/- FnCanFind returns true for every code. Written by mklaws.py. -/
import Derived.Test.YtoleklppgmeflaaDrawO
import Derived.Test.YtoleklppgmeflaaTrees
import Derived.Test.YtoleklppgmeflaaLooks
import Derived.Test.YtoleklppgmeflaaSLooks
import Derived.Test.YtoleklppgmeflaaKin
import Derived.Test.YtoleklppgmeflaaPlainG
import Derived.Test.YtoleklppgmeflaaFrame
import Derived.Lib.QuietBelow
import Derived.BigQuiet
set_option linter.unusedVariables false
set_option linter.unusedSimpArgs false
namespace Go.Proofs.Ytoleklppgmeflaa.FnCanFind
open Go.Sort Go.ChangeShapes Go.WideShapes Go.ChangeAt Go.RowKit Go.Proofs.Ytoleklppgmeflaa.Nm

set_option maxRecDepth 100000 in
set_option maxHeartbeats 2000000 in
theorem walk (a : Option Addr) (n cap : Nat) (w : World) (hc : Code w w.heap.size a n cap) :
    Calls Try.prog 14 #[.slice a n cap] w fun e w' => e = .returned (.bool true) ∧ Below w.heap.size w w' := by
  by_cases hn : (1048576 : Int) < (n : Int)
  · go_enter Try.func14, Try.ntmps14
    go_wp2_with fail
    go_ret
    exact ⟨rfl, Below.refl _ _⟩
  have Hc := Lib.hid hc
  clear hc
  go_enter Try.func14, Try.ntmps14
  go_wp2_with fail
  refine (spec_DrawCanFind a n cap w Hc.out).mono ?_
  rintro e w1 ⟨v, ps, pv, xs, s, rfl, ⟨hrows, hsh, hl, hb5, hb1⟩, hp, hx3, hs17⟩
  obtain ⟨va, vc, rfl⟩ := hrows.len
  have HR := Lib.hid hrows
  obtain ⟨fs, hfs⟩ : ∃ fs, fs = ps.map (·.1) := ⟨_, rfl⟩
  have Hfs := Lib.hid hfs
  have hfl : fs.length = ps.length := by rw [hfs, List.length_map]
  have HF := Lib.hid (show FilsIn w1 (fun _ => True) (.slice va ps.length vc) fs by rw [hfs]; exact hrows.fils)
  have Hz8 := Lib.hid (show ShortT 8000000 fs by rw [hfs]; exact shortT_mono (by omega) hsh)
  have Hz3 := Lib.hid (show ShortT 3000000 fs by rw [hfs]; exact shortT_mono (by omega) hsh)
  have Hz2 := Lib.hid (show ShortT 2000000 fs by rw [hfs]; exact shortT_mono (by omega) hsh)
  have Hs8 := Lib.hid (show ShortT 8 fs by rw [hfs]; exact hsh)
  have Hb5 := Lib.hid (show ∀ f ∈ fs, f.body.length ≤ 5 by rw [hfs]; intro f hf; obtain ⟨p, hp, rfl⟩ := List.mem_map.1 hf; exact hb5 p hp)
  have Hb1 := Lib.hid hb1
  have B0 := Boxed.start w1 #[.slice va ps.length vc] 25
  have hl11 : fs.length ≤ 11 := by omega
  clear hrows hsh hb5 hb1 hfs
  generalize ps.length = pn at *
  subst hfl
  have X1 := Lib.hid B0
  clear B0
  obtain ⟨pa, pc, rfl⟩ := hp.len
  have HP := Lib.hid hp.ints
  clear hp
  rcases (show canFind fs xs s = true ∨ canFind fs xs s = false by cases canFind fs xs s <;> simp) with hok | hok
  · have Hok := Lib.hid hok
    have Hca := Lib.hid (canFind_above hok)
    clear hok
    go_wp2_with fail
    refine (impl_CanFind _ fs (fun _ => True) _ xs s _ (HF.out.below X1.out.below) Hz2.out (HP.out.below X1.out.below) (by omega)).mono ?_
    rintro _ w2 ⟨rfl, hb2⟩
    rw [Hok.out]
    have X2 := Lib.hid (X1.out.step hb2)
    have x2 : w2.cell? ⟨w1.heap.size, 0, none⟩ = some (.slice va fs.length vc) := X2.out.cell 0
    clear hb2
    go_wp2_with fail
    refine (spec_CanFind _ fs (fun _ => True) _ xs s _ (HF.out.below X2.out.below) Hz2.out (HP.out.below X2.out.below) (by omega)).mono ?_
    rintro _ w3 ⟨rfl, hb3⟩
    rw [Hok.out]
    have X3 := Lib.hid (X2.out.step hb3)
    have x3 : w3.cell? ⟨w1.heap.size, 0, none⟩ = some (.slice va fs.length vc) := X3.out.cell 0
    clear hb3 x2
    go_wp2_with fail
    refine (impl_NamesAbove s _ (by omega)).mono ?_
    rintro _ w4 ⟨v4, rfl, hown4, hb4⟩
    have R4 := Lib.hid (Reads.of_owns hown4)
    obtain ⟨a4, c4, rfl⟩ := owns_shape hown4
    have X4 := Lib.hid (X3.out.step hb4)
    have x4 : w4.cell? ⟨w1.heap.size, 0, none⟩ = some (.slice va fs.length vc) := X4.out.cell 0
    clear hb4 hown4 x3
    have hml : (namesAbove s).length ≤ 3 := namesAbove_le3 s
    have Hcan := Lib.hid (fun (i : Nat) (hi : i < (namesAbove s).length) => (Hca.out ((namesAbove s).length - 1 - i) i hi (by omega)))
    have Hnl := Lib.hid (fun nm (h : nm ∈ namesAbove s) => vn_len (namesAbove_vn h))
    clear Hca
    generalize namesAbove s = ms at *
    go_wp2_with fail
    go_loopw [8] (fun iv wr => ∃ k : Nat, k ≤ ms.length ∧ iv = .int .i64 k ∧ Boxed w1 #[.slice va fs.length vc] 25 wr ∧ Reads wr (.slice a4 ms.length c4) ms) (fun iv _ => ms.length - (intOf iv).toNat)
    case atStart => exact ⟨0, by omega, rfl, X4.out, R4.out⟩
    case round =>
      obtain ⟨k, hk, rfl, hbx, hr⟩ := hrel
      have XR := Lib.hid hbx
      have RR := Lib.hid hr
      have xr : wr.cell? ⟨w1.heap.size, 0, none⟩ = some (.slice va fs.length vc) := XR.out.cell 0
      clear hbx hr x4 R4
      by_cases hlt : k < ms.length
      · obtain ⟨b1, o1, c1, e1, _, _, hb1, hc1⟩ := Reads.some RR.out (by omega)
        simp only [Value.slice.injEq] at e1
        obtain ⟨rfl, _, rfl⟩ := e1
        have hcell := hc1 k hlt
        have Hck := Lib.hid (Hcan.out k hlt).1
        have hpk := (Hcan.out k hlt).2
        have hnl := Hnl.out _ (List.getElem_mem hlt)
        clear hc1
        generalize ms[k] = nm at *
        have k0 := cell_regrown xr
        have k1 := cell_regrown hcell
        have hi1 : (k : Int) < (ms.length : Int) := by omega
        have hi5 : IntKind.i64.wrap ((k : Int) + 1) = (k : Int) + 1 := IntWalk.i64_in _ (by omega)
        clear xr hcell
        have cC : ∀ d os, Calls Try.prog 57 #[.agg #[.slice va fs.length vc], .slice pa xs.length pc, .string (mk nm)] (grow (redrawn wr d) os) fun e w'' => e = .returned (.bool true) ∧ ∃ p : Regrown, w'' = grow (redrawn wr p.d) p.os := fun d os =>
          Calls.regrown_of (by have h := impl_CanFind _ fs (fun _ => True) _ xs nm (grow (redrawn wr d) os) (HF.out.below (bt XR.out.below (below_regrown wr d os))) Hz2.out (HP.out.below (bt XR.out.below (below_regrown wr d os))) (by omega); rw [Hck.out] at h; exact h)
        by_cases hl : k + 1 < ms.length
        · have hg1 : decide ((k : Int) + 1 < (ms.length : Int)) = true := decide_eq_true (by omega)
          have hg2 : (k : Int) + 1 < (ms.length : Int) := by omega
          have Hpk := Lib.hid (hpk (by omega))
          have cP : ∀ d os, Calls Try.prog 60 #[.agg #[.slice va fs.length vc], .slice pa xs.length pc, .string (mk nm)] (grow (redrawn wr d) os) fun e w'' => e = .returned (.bool true) ∧ ∃ p : Regrown, w'' = grow (redrawn wr p.d) p.os := fun d os =>
            Calls.regrown_of (by have h := impl_IsPackage _ fs (fun _ => True) _ xs nm (grow (redrawn wr d) os) (HF.out.below (bt XR.out.below (below_regrown wr d os))) Hz2.out (HP.out.below (bt XR.out.below (below_regrown wr d os))) (by omega); rw [Hpk.out] at h; exact h)
          clear hpk
          go_wp2_with fail
          refine wp_region_quiet_below (by kernel_rfl) (by kernel_rfl) ?_
          repeat (go_big_quiet_step (first | exact cC _ _ | exact cP _ _))
          refine wpQuiet_nil ?_
          intro _ hw'
          obtain ⟨⟨dq, osq⟩, hw2⟩ := hw'
          subst hw2
          clear cC cP k0 k1
          have XR7 := Lib.hid (XR.out.step (below_regrown wr dq osq))
          have RR7 := Lib.hid (Reads.below RR.out (below_regrown wr dq osq))
          go_wp2_with fail
          go_roundw
          case rel => exact ⟨k + 1, by omega, by go_num, XR7.out, RR7.out⟩
          case measure => simp [intOf]; omega
        · have hg1 : decide ((k : Int) + 1 < (ms.length : Int)) = false := decide_eq_false (by omega)
          have hg2 : ¬ (k : Int) + 1 < (ms.length : Int) := by omega
          clear hpk
          go_wp2_with fail
          refine wp_region_quiet_below (by kernel_rfl) (by kernel_rfl) ?_
          repeat (go_big_quiet_step (first | exact cC _ _))
          refine wpQuiet_nil ?_
          intro _ hw'
          obtain ⟨⟨dq, osq⟩, hw2⟩ := hw'
          subst hw2
          clear cC k0 k1
          have XR7 := Lib.hid (XR.out.step (below_regrown wr dq osq))
          have RR7 := Lib.hid (Reads.below RR.out (below_regrown wr dq osq))
          go_wp2_with fail
          go_roundw
          case rel => exact ⟨k + 1, by omega, by go_num, XR7.out, RR7.out⟩
          case measure => simp [intOf]; omega
      · go_wp2_with fail
        go_ret
        exact ⟨rfl, bt Hb1.out XR.out.below⟩
  · have Hok := Lib.hid hok
    clear hok
    go_wp2_with fail
    refine (impl_CanFind _ fs (fun _ => True) _ xs s _ (HF.out.below X1.out.below) Hz2.out (HP.out.below X1.out.below) (by omega)).mono ?_
    rintro _ w2 ⟨rfl, hb2⟩
    rw [Hok.out]
    have X2 := Lib.hid (X1.out.step hb2)
    have x2 : w2.cell? ⟨w1.heap.size, 0, none⟩ = some (.slice va fs.length vc) := X2.out.cell 0
    clear hb2
    go_wp2_with fail
    refine (spec_CanFind _ fs (fun _ => True) _ xs s _ (HF.out.below X2.out.below) Hz2.out (HP.out.below X2.out.below) (by omega)).mono ?_
    rintro _ w3 ⟨rfl, hb3⟩
    rw [Hok.out]
    have X3 := Lib.hid (X2.out.step hb3)
    have x3 : w3.cell? ⟨w1.heap.size, 0, none⟩ = some (.slice va fs.length vc) := X3.out.cell 0
    clear hb3 x2
    go_wp2_with fail
    refine (spec_CanFind _ fs (fun _ => True) _ xs s _ (HF.out.below X3.out.below) Hz2.out (HP.out.below X3.out.below) (by omega)).mono ?_
    rintro _ w4 ⟨rfl, hb4⟩
    rw [Hok.out]
    have X4 := Lib.hid (X3.out.step hb4)
    have x4 : w4.cell? ⟨w1.heap.size, 0, none⟩ = some (.slice va fs.length vc) := X4.out.cell 0
    clear hb4 x3
    go_wp2_with fail
    go_ret
    exact ⟨rfl, bt Hb1.out X4.out.below⟩

/-! ### THE STEP TO THE ROW -/
set_option maxRecDepth 100000 in
theorem lifted (os : Os) (started : os.Started) (H : Type) (enc : TypeId × Value → H) :
    ReturnsInHanded {} Try.checked os 14 .any (Rows.fnCanFindSpec.pre6 enc Try.prog Try.f14 Rows.fnCanFindRow.domain false) (Rows.fnCanFindSpec.post enc Try.prog Try.f14 false true false false) := by
  refine returnsInHanded_of_change (C := Try.checked) own started (by kernel_rfl) Try.func14
    (ChangeSpec.witness6 (enc := enc) (C := Try.checked) false ⟨#[], #[.slice none 0 0], []⟩ 8 (by kernel_rfl) (by kernel_rfl) (by kernel_rfl) (by kernel_rfl)) ?_
  intro W base args ds gs before hval0 hW hcnd _
  have hval : ∀ (j : Nat) t v, Try.f14.params[j]? = some t → args[j]? = some v → Value.okWide Try.prog W .any base t v := hval0
  have hW' := hW
  obtain ⟨p, q, hA0, hV, rfl, hfz, hnd⟩ := hW
  have hA : DataW.TrodAll enc Try.prog W 0 (fun _ => true) true Try.f14.params.toList args.toList ds p := hA0
  rw [Try.params14] at hA hval
  obtain ⟨v0, vs0, d0, ds0, p0, q0, hargs, rfl, rfl, h0, r0⟩ := trodAll_cons hA
  obtain ⟨rfl, rfl, rfl⟩ := trodAll_nil r0
  obtain rfl : args = #[v0] := by cases args; simp_all
  obtain ⟨rfl, rfl⟩ := trodVars_none hV
  obtain ⟨a0, len0, cap0, rfl⟩ := okWide_slice Try.underlying22 (hval 0 22 v0 rfl rfl)
  have k0 := h0
  have lt0 : ∀ x ∈ p0, x.block < W.heap.size := by obtain ⟨m, hm⟩ := k0; exact DataW.trod_lt m _ _ _ hm
  have w0 : Code W W.heap.size a0 len0 cap0 := by
    obtain ⟨fuel, hf⟩ := h0
    rcases open_ints Try.underlying22 Try.underlying5 (by kernel_rfl) hf with ⟨hcs, _⟩ | ⟨x, l, c, zs, hcs, _, hl, hm, hz, _, hcell, hwz⟩
    · simp [Value.cells] at hcs
      obtain ⟨rfl, rfl, rfl⟩ := hcs
      exact .inl ⟨rfl, by unfold maxLen; omega⟩
    · simp [Value.cells] at hcs
      obtain ⟨rfl, rfl, rfl⟩ := hcs
      exact code_row W _ _ _ zs hl hm (by simpa using hz) hcell hwz
  clear hA0 hval0
  refine (walk a0 len0 cap0 W w0).mono fun e W' ⟨he, bel⟩ => ?_
  subst he
  exact ⟨_, rfl, _, _, _, [], _, [], hW', trodAll_mk1 (shut_bool Try.underlying4 _), (trodAll_cons_mk (Below.trod laidOut (by kernel_rfl) (of_decide_eq_true (by kernel_rfl)) k0 bel lt0) trodAll_mk0), rfl, bel.frame _, fun h => by cases h⟩

theorem over : Rows.fnCanFindRow.holds Try.pinned (OpenSpec.ofChange Rows.fnCanFindSpec) :=
  OpenClaim.holds_of_wide 14 Try.f14 rfl rfl rfl rfl rfl rfl rfl ⟨rfl, rfl, rfl, rfl, rfl⟩ rfl rfl rfl rfl rfl (by kernel_rfl) Try.func14 (by kernel_rfl)
    (of_decide_eq_true (by kernel_rfl)) (by unfold Func.isWrapper; first | (rw [if_pos (by decide +kernel)]; kernel_rfl) | (rw [if_neg (by decide +kernel)]; exact ⟨rfl, rfl⟩))
    (fun os started H enc _ => lifted os started H enc)

/-- THE STATEMENT -/
theorem proved : Rows.FnCanFindSaid := over
end Go.Proofs.Ytoleklppgmeflaa.FnCanFind
