/- FnIsPackage returns true for every code. Written by mklaws.py. -/
import Derived.Test.YtggkkehmhapomaaDrawO
import Derived.Test.YtggkkehmhapomaaTrees
import Derived.Test.YtggkkehmhapomaaLooks
import Derived.Test.YtggkkehmhapomaaSLooks
import Derived.Test.YtggkkehmhapomaaEqFind
import Derived.Test.YtggkkehmhapomaaPlainR
import Derived.Test.YtggkkehmhapomaaFrame
set_option linter.unusedVariables false
set_option linter.unusedSimpArgs false
namespace Go.Proofs.Ytggkkehmhapomaa.FnIsPackage
open Go.Sort Go.ChangeShapes Go.WideShapes Go.ChangeAt Go.RowKit Go.Proofs.Ytggkkehmhapomaa.Nm

set_option maxRecDepth 100000 in
set_option maxHeartbeats 2000000 in
theorem walk (a : Option Addr) (n cap : Nat) (w : World) (hc : Code w w.heap.size a n cap) :
    Calls Try.prog 5 #[.slice a n cap] w fun e w' => e = .returned (.bool true) ∧ Below w.heap.size w w' := by
  by_cases hn : (1048576 : Int) < (n : Int)
  · go_enter Try.func5, Try.ntmps5
    go_wp2_with fail
    go_ret
    exact ⟨rfl, Below.refl _ _⟩
  have Hc := Lib.hid hc
  clear hc
  go_enter Try.func5, Try.ntmps5
  go_wp2_with fail
  refine (spec_DrawIsPackage a n cap w Hc.out).mono ?_
  rintro e w1 ⟨v, ps, pv, xs, s, rfl, ⟨hrows, hsh, hl, hb5, hb1⟩, hp, hx3, hs17⟩
  obtain ⟨va, vc, rfl⟩ := hrows.len
  have HR := Lib.hid hrows
  obtain ⟨fs, hfs⟩ : ∃ fs, fs = ps.map (·.1) := ⟨_, rfl⟩
  have Hfs := Lib.hid hfs
  have hfl : fs.length = ps.length := by rw [hfs, List.length_map]
  have HF := Lib.hid (show FilsIn w1 (fun _ => True) (.slice va ps.length vc) fs by rw [hfs]; exact hrows.fils)
  have Hz8 := Lib.hid (show ShortT 8000000 fs by rw [hfs]; exact shortT_mono (by omega) hsh)
  have Hz3 := Lib.hid (show ShortT 3000000 fs by rw [hfs]; exact shortT_mono (by omega) hsh)
  have Hz2 := Lib.hid (show ShortT 2000000 fs by rw [hfs]; exact shortT_mono (by omega) hsh)
  have Hs8 := Lib.hid (show ShortT 8 fs by rw [hfs]; exact hsh)
  have Hb5 := Lib.hid (show ∀ f ∈ fs, f.body.length ≤ 5 by rw [hfs]; intro f hf; obtain ⟨p, hp, rfl⟩ := List.mem_map.1 hf; exact hb5 p hp)
  have Hb1 := Lib.hid hb1
  have B0 := Boxed.start w1 #[.slice va ps.length vc] 25
  have hl11 : fs.length ≤ 11 := by omega
  clear hrows hsh hb5 hb1 hfs
  generalize ps.length = pn at *
  subst hfl
  have X1 := Lib.hid B0
  clear B0
  obtain ⟨pa, pc, rfl⟩ := hp.len
  have HP := Lib.hid hp.ints
  clear hp
  rcases (show isPack fs xs s = true ∨ isPack fs xs s = false by cases isPack fs xs s <;> simp) with hc | hc
  · have Hc := Lib.hid hc
    clear hc
    go_wp2_with fail
    refine (impl_IsPackage _ fs (fun _ => True) _ xs s _ (HF.out.below X1.out.below) Hz2.out (HP.out.below X1.out.below) (by omega)).mono ?_
    rintro _ w2 ⟨rfl, hb2⟩
    rw [Hc.out]
    have X2 := Lib.hid (X1.out.step hb2)
    have x2 : w2.cell? ⟨w1.heap.size, 0, none⟩ = some (.slice va fs.length vc) := X2.out.cell 0
    clear hb2
    go_wp2_with fail
    refine (spec_IsPackage _ fs (fun _ => True) _ xs s _ (HF.out.below X2.out.below) Hz2.out (HP.out.below X2.out.below) (by omega)).mono ?_
    rintro _ w3 ⟨rfl, hb3⟩
    rw [Hc.out]
    have X3 := Lib.hid (X2.out.step hb3)
    have x3 : w3.cell? ⟨w1.heap.size, 0, none⟩ = some (.slice va fs.length vc) := X3.out.cell 0
    clear hb3 x2
    rcases (show okTree fs = true ∨ okTree fs = false by cases okTree fs <;> simp) with hok | hok
    · have Hok := Lib.hid hok
      rcases (show okPath xs = true ∨ okPath xs = false by cases okPath xs <;> simp) with hpo | hpo
      · have Hpo := Lib.hid hpo
        rcases (show vn s = true ∨ vn s = false by cases vn s <;> simp) with hvo | hvo
        · have Hvo := Lib.hid hvo
          have Hro := Lib.hid (isPack_roots (s := s) (okLook_of hok hpo))
          rw [Hc.out] at Hro
          clear hok hpo hvo
          go_wp2_with fail
          refine (impl_ValidTree _ fs (fun _ => True) _ (HF.out.below X3.out.below) Hz8.out).mono ?_
          rintro _ w4 ⟨rfl, hb4⟩
          rw [Hok.out]
          have X4 := Lib.hid (X3.out.step hb4)
          have x4 : w4.cell? ⟨w1.heap.size, 0, none⟩ = some (.slice va fs.length vc) := X4.out.cell 0
          clear hb4 x3
          go_wp2_with fail
          refine (impl_ValidPath _ xs _ (HP.out.below X4.out.below)).mono ?_
          rintro _ _ ⟨rfl, rfl⟩
          rw [Hpo.out]
          go_wp2_with fail
          refine (impl_ValidName s _ (by omega)).mono ?_
          rintro _ w5 ⟨rfl, hb5⟩
          rw [Hvo.out]
          have X5 := Lib.hid (X4.out.step hb5)
          have x5 : w5.cell? ⟨w1.heap.size, 0, none⟩ = some (.slice va fs.length vc) := X5.out.cell 0
          clear hb5 x4
          obtain ⟨sp, hsp⟩ : ∃ sp, sp = findSpec fs xs s := ⟨_, rfl⟩
          have Hsp := Lib.hid hsp.symm
          rw [← hsp] at Hro
          clear hsp
          go_wp2_with fail
          refine (impl_FindSpec _ fs (fun _ => True) _ xs s _ (HF.out.below X5.out.below) Hz2.out (HP.out.below X5.out.below) (by omega)).mono ?_
          rintro _ w6 ⟨v6, rfl, hown6, hb6⟩
          rw [Hsp.out] at hown6 ⊢
          obtain ⟨a6, c6, rfl⟩ := owns_shape hown6
          have X6 := Lib.hid (X5.out.step hb6)
          have hf2 := fld2
          have hro : (0 : Int) < (sp.roots.length : Int) := by
            have h := Hro.out
            have := of_decide_eq_true h.symm
            omega
          clear hown6 hb6 x5
          generalize sp.roots.length = rn at *
          go_wp2_with fail
          go_ret
          exact ⟨ret_bool (by first | rfl | (simp; omega)), bt Hb1.out X6.out.below⟩
        · have Hvo := Lib.hid hvo
          clear hok hpo hvo
          go_wp2_with fail
          refine (impl_ValidTree _ fs (fun _ => True) _ (HF.out.below X3.out.below) Hz8.out).mono ?_
          rintro _ w4 ⟨rfl, hb4⟩
          rw [Hok.out]
          have X4 := Lib.hid (X3.out.step hb4)
          have x4 : w4.cell? ⟨w1.heap.size, 0, none⟩ = some (.slice va fs.length vc) := X4.out.cell 0
          clear hb4 x3
          go_wp2_with fail
          refine (impl_ValidPath _ xs _ (HP.out.below X4.out.below)).mono ?_
          rintro _ _ ⟨rfl, rfl⟩
          rw [Hpo.out]
          go_wp2_with fail
          refine (impl_ValidName s _ (by omega)).mono ?_
          rintro _ w5 ⟨rfl, hb5⟩
          rw [Hvo.out]
          have X5 := Lib.hid (X4.out.step hb5)
          have x5 : w5.cell? ⟨w1.heap.size, 0, none⟩ = some (.slice va fs.length vc) := X5.out.cell 0
          clear hb5 x4
          go_wp2_with fail
          refine (spec_IsPackage _ fs (fun _ => True) _ xs s _ (HF.out.below X5.out.below) Hz2.out (HP.out.below X5.out.below) (by omega)).mono ?_
          rintro _ w6 ⟨rfl, hb6⟩
          rw [Hc.out]
          have X6 := Lib.hid (X5.out.step hb6)
          have x6 : w6.cell? ⟨w1.heap.size, 0, none⟩ = some (.slice va fs.length vc) := X6.out.cell 0
          clear hb6 x5
          go_wp2_with fail
          go_ret
          exact ⟨rfl, bt Hb1.out X6.out.below⟩
      · have Hpo := Lib.hid hpo
        clear hok hpo
        go_wp2_with fail
        refine (impl_ValidTree _ fs (fun _ => True) _ (HF.out.below X3.out.below) Hz8.out).mono ?_
        rintro _ w4 ⟨rfl, hb4⟩
        rw [Hok.out]
        have X4 := Lib.hid (X3.out.step hb4)
        have x4 : w4.cell? ⟨w1.heap.size, 0, none⟩ = some (.slice va fs.length vc) := X4.out.cell 0
        clear hb4 x3
        go_wp2_with fail
        refine (impl_ValidPath _ xs _ (HP.out.below X4.out.below)).mono ?_
        rintro _ _ ⟨rfl, rfl⟩
        rw [Hpo.out]
        go_wp2_with fail
        refine (spec_IsPackage _ fs (fun _ => True) _ xs s _ (HF.out.below X4.out.below) Hz2.out (HP.out.below X4.out.below) (by omega)).mono ?_
        rintro _ w5 ⟨rfl, hb5⟩
        rw [Hc.out]
        have X5 := Lib.hid (X4.out.step hb5)
        have x5 : w5.cell? ⟨w1.heap.size, 0, none⟩ = some (.slice va fs.length vc) := X5.out.cell 0
        clear hb5 x4
        go_wp2_with fail
        go_ret
        exact ⟨rfl, bt Hb1.out X5.out.below⟩
    · have Hok := Lib.hid hok
      clear hok
      go_wp2_with fail
      refine (impl_ValidTree _ fs (fun _ => True) _ (HF.out.below X3.out.below) Hz8.out).mono ?_
      rintro _ w4 ⟨rfl, hb4⟩
      rw [Hok.out]
      have X4 := Lib.hid (X3.out.step hb4)
      have x4 : w4.cell? ⟨w1.heap.size, 0, none⟩ = some (.slice va fs.length vc) := X4.out.cell 0
      clear hb4 x3
      go_wp2_with fail
      refine (spec_IsPackage _ fs (fun _ => True) _ xs s _ (HF.out.below X4.out.below) Hz2.out (HP.out.below X4.out.below) (by omega)).mono ?_
      rintro _ w5 ⟨rfl, hb5⟩
      rw [Hc.out]
      have X5 := Lib.hid (X4.out.step hb5)
      have x5 : w5.cell? ⟨w1.heap.size, 0, none⟩ = some (.slice va fs.length vc) := X5.out.cell 0
      clear hb5 x4
      go_wp2_with fail
      go_ret
      exact ⟨rfl, bt Hb1.out X5.out.below⟩
  · have Hc := Lib.hid hc
    clear hc
    go_wp2_with fail
    refine (impl_IsPackage _ fs (fun _ => True) _ xs s _ (HF.out.below X1.out.below) Hz2.out (HP.out.below X1.out.below) (by omega)).mono ?_
    rintro _ w2 ⟨rfl, hb2⟩
    rw [Hc.out]
    have X2 := Lib.hid (X1.out.step hb2)
    have x2 : w2.cell? ⟨w1.heap.size, 0, none⟩ = some (.slice va fs.length vc) := X2.out.cell 0
    clear hb2
    go_wp2_with fail
    refine (spec_IsPackage _ fs (fun _ => True) _ xs s _ (HF.out.below X2.out.below) Hz2.out (HP.out.below X2.out.below) (by omega)).mono ?_
    rintro _ w3 ⟨rfl, hb3⟩
    rw [Hc.out]
    have X3 := Lib.hid (X2.out.step hb3)
    have x3 : w3.cell? ⟨w1.heap.size, 0, none⟩ = some (.slice va fs.length vc) := X3.out.cell 0
    clear hb3 x2
    rcases (show okTree fs = true ∨ okTree fs = false by cases okTree fs <;> simp) with hok | hok
    · have Hok := Lib.hid hok
      rcases (show okPath xs = true ∨ okPath xs = false by cases okPath xs <;> simp) with hpo | hpo
      · have Hpo := Lib.hid hpo
        rcases (show vn s = true ∨ vn s = false by cases vn s <;> simp) with hvo | hvo
        · have Hvo := Lib.hid hvo
          have Hro := Lib.hid (isPack_roots (s := s) (okLook_of hok hpo))
          rw [Hc.out] at Hro
          clear hok hpo hvo
          go_wp2_with fail
          refine (impl_ValidTree _ fs (fun _ => True) _ (HF.out.below X3.out.below) Hz8.out).mono ?_
          rintro _ w4 ⟨rfl, hb4⟩
          rw [Hok.out]
          have X4 := Lib.hid (X3.out.step hb4)
          have x4 : w4.cell? ⟨w1.heap.size, 0, none⟩ = some (.slice va fs.length vc) := X4.out.cell 0
          clear hb4 x3
          go_wp2_with fail
          refine (impl_ValidPath _ xs _ (HP.out.below X4.out.below)).mono ?_
          rintro _ _ ⟨rfl, rfl⟩
          rw [Hpo.out]
          go_wp2_with fail
          refine (impl_ValidName s _ (by omega)).mono ?_
          rintro _ w5 ⟨rfl, hb5⟩
          rw [Hvo.out]
          have X5 := Lib.hid (X4.out.step hb5)
          have x5 : w5.cell? ⟨w1.heap.size, 0, none⟩ = some (.slice va fs.length vc) := X5.out.cell 0
          clear hb5 x4
          obtain ⟨sp, hsp⟩ : ∃ sp, sp = findSpec fs xs s := ⟨_, rfl⟩
          have Hsp := Lib.hid hsp.symm
          rw [← hsp] at Hro
          clear hsp
          go_wp2_with fail
          refine (impl_FindSpec _ fs (fun _ => True) _ xs s _ (HF.out.below X5.out.below) Hz2.out (HP.out.below X5.out.below) (by omega)).mono ?_
          rintro _ w6 ⟨v6, rfl, hown6, hb6⟩
          rw [Hsp.out] at hown6 ⊢
          obtain ⟨a6, c6, rfl⟩ := owns_shape hown6
          have X6 := Lib.hid (X5.out.step hb6)
          have hf2 := fld2
          have hro : ¬ (0 : Int) < (sp.roots.length : Int) := by
            have h := Hro.out
            have := of_decide_eq_false h.symm
            omega
          clear hown6 hb6 x5
          generalize sp.roots.length = rn at *
          go_wp2_with fail
          go_ret
          exact ⟨ret_bool (by first | rfl | (simp; omega)), bt Hb1.out X6.out.below⟩
        · have Hvo := Lib.hid hvo
          clear hok hpo hvo
          go_wp2_with fail
          refine (impl_ValidTree _ fs (fun _ => True) _ (HF.out.below X3.out.below) Hz8.out).mono ?_
          rintro _ w4 ⟨rfl, hb4⟩
          rw [Hok.out]
          have X4 := Lib.hid (X3.out.step hb4)
          have x4 : w4.cell? ⟨w1.heap.size, 0, none⟩ = some (.slice va fs.length vc) := X4.out.cell 0
          clear hb4 x3
          go_wp2_with fail
          refine (impl_ValidPath _ xs _ (HP.out.below X4.out.below)).mono ?_
          rintro _ _ ⟨rfl, rfl⟩
          rw [Hpo.out]
          go_wp2_with fail
          refine (impl_ValidName s _ (by omega)).mono ?_
          rintro _ w5 ⟨rfl, hb5⟩
          rw [Hvo.out]
          have X5 := Lib.hid (X4.out.step hb5)
          have x5 : w5.cell? ⟨w1.heap.size, 0, none⟩ = some (.slice va fs.length vc) := X5.out.cell 0
          clear hb5 x4
          go_wp2_with fail
          refine (spec_IsPackage _ fs (fun _ => True) _ xs s _ (HF.out.below X5.out.below) Hz2.out (HP.out.below X5.out.below) (by omega)).mono ?_
          rintro _ w6 ⟨rfl, hb6⟩
          rw [Hc.out]
          have X6 := Lib.hid (X5.out.step hb6)
          have x6 : w6.cell? ⟨w1.heap.size, 0, none⟩ = some (.slice va fs.length vc) := X6.out.cell 0
          clear hb6 x5
          go_wp2_with fail
          go_ret
          exact ⟨rfl, bt Hb1.out X6.out.below⟩
      · have Hpo := Lib.hid hpo
        clear hok hpo
        go_wp2_with fail
        refine (impl_ValidTree _ fs (fun _ => True) _ (HF.out.below X3.out.below) Hz8.out).mono ?_
        rintro _ w4 ⟨rfl, hb4⟩
        rw [Hok.out]
        have X4 := Lib.hid (X3.out.step hb4)
        have x4 : w4.cell? ⟨w1.heap.size, 0, none⟩ = some (.slice va fs.length vc) := X4.out.cell 0
        clear hb4 x3
        go_wp2_with fail
        refine (impl_ValidPath _ xs _ (HP.out.below X4.out.below)).mono ?_
        rintro _ _ ⟨rfl, rfl⟩
        rw [Hpo.out]
        go_wp2_with fail
        refine (spec_IsPackage _ fs (fun _ => True) _ xs s _ (HF.out.below X4.out.below) Hz2.out (HP.out.below X4.out.below) (by omega)).mono ?_
        rintro _ w5 ⟨rfl, hb5⟩
        rw [Hc.out]
        have X5 := Lib.hid (X4.out.step hb5)
        have x5 : w5.cell? ⟨w1.heap.size, 0, none⟩ = some (.slice va fs.length vc) := X5.out.cell 0
        clear hb5 x4
        go_wp2_with fail
        go_ret
        exact ⟨rfl, bt Hb1.out X5.out.below⟩
    · have Hok := Lib.hid hok
      clear hok
      go_wp2_with fail
      refine (impl_ValidTree _ fs (fun _ => True) _ (HF.out.below X3.out.below) Hz8.out).mono ?_
      rintro _ w4 ⟨rfl, hb4⟩
      rw [Hok.out]
      have X4 := Lib.hid (X3.out.step hb4)
      have x4 : w4.cell? ⟨w1.heap.size, 0, none⟩ = some (.slice va fs.length vc) := X4.out.cell 0
      clear hb4 x3
      go_wp2_with fail
      refine (spec_IsPackage _ fs (fun _ => True) _ xs s _ (HF.out.below X4.out.below) Hz2.out (HP.out.below X4.out.below) (by omega)).mono ?_
      rintro _ w5 ⟨rfl, hb5⟩
      rw [Hc.out]
      have X5 := Lib.hid (X4.out.step hb5)
      have x5 : w5.cell? ⟨w1.heap.size, 0, none⟩ = some (.slice va fs.length vc) := X5.out.cell 0
      clear hb5 x4
      go_wp2_with fail
      go_ret
      exact ⟨rfl, bt Hb1.out X5.out.below⟩

/-! ### THE STEP TO THE ROW -/
set_option maxRecDepth 100000 in
theorem lifted (os : Os) (started : os.Started) (H : Type) (enc : TypeId × Value → H) :
    ReturnsInHanded {} Try.checked os 5 .any (Rows.fnIsPackageSpec.pre6 enc Try.prog Try.f5 Rows.fnIsPackageRow.domain false) (Rows.fnIsPackageSpec.post enc Try.prog Try.f5 false true false false) := by
  refine returnsInHanded_of_change (C := Try.checked) own started (by kernel_rfl) Try.func5
    (ChangeSpec.witness6 (enc := enc) (C := Try.checked) false ⟨#[], #[.slice none 0 0], []⟩ 8 (by kernel_rfl) (by kernel_rfl) (by kernel_rfl) (by kernel_rfl)) ?_
  intro W base args ds gs before hval0 hW hcnd _
  have hval : ∀ (j : Nat) t v, Try.f5.params[j]? = some t → args[j]? = some v → Value.okWide Try.prog W .any base t v := hval0
  have hW' := hW
  obtain ⟨p, q, hA0, hV, rfl, hfz, hnd⟩ := hW
  have hA : DataW.TrodAll enc Try.prog W 0 (fun _ => true) true Try.f5.params.toList args.toList ds p := hA0
  rw [Try.params5] at hA hval
  obtain ⟨v0, vs0, d0, ds0, p0, q0, hargs, rfl, rfl, h0, r0⟩ := trodAll_cons hA
  obtain ⟨rfl, rfl, rfl⟩ := trodAll_nil r0
  obtain rfl : args = #[v0] := by cases args; simp_all
  obtain ⟨rfl, rfl⟩ := trodVars_none hV
  obtain ⟨a0, len0, cap0, rfl⟩ := okWide_slice Try.underlying22 (hval 0 22 v0 rfl rfl)
  have k0 := h0
  have lt0 : ∀ x ∈ p0, x.block < W.heap.size := by obtain ⟨m, hm⟩ := k0; exact DataW.trod_lt m _ _ _ hm
  have w0 : Code W W.heap.size a0 len0 cap0 := by
    obtain ⟨fuel, hf⟩ := h0
    rcases open_ints Try.underlying22 Try.underlying5 (by kernel_rfl) hf with ⟨hcs, _⟩ | ⟨x, l, c, zs, hcs, _, hl, hm, hz, _, hcell, hwz⟩
    · simp [Value.cells] at hcs
      obtain ⟨rfl, rfl, rfl⟩ := hcs
      exact .inl ⟨rfl, by unfold maxLen; omega⟩
    · simp [Value.cells] at hcs
      obtain ⟨rfl, rfl, rfl⟩ := hcs
      exact code_row W _ _ _ zs hl hm (by simpa using hz) hcell hwz
  clear hA0 hval0
  refine (walk a0 len0 cap0 W w0).mono fun e W' ⟨he, bel⟩ => ?_
  subst he
  exact ⟨_, rfl, _, _, _, [], _, [], hW', trodAll_mk1 (shut_bool Try.underlying4 _), (trodAll_cons_mk (Below.trod laidOut (by kernel_rfl) (of_decide_eq_true (by kernel_rfl)) k0 bel lt0) trodAll_mk0), rfl, bel.frame _, fun h => by cases h⟩

theorem over : Rows.fnIsPackageRow.holds Try.pinned (OpenSpec.ofChange Rows.fnIsPackageSpec) :=
  OpenClaim.holds_of_wide 5 Try.f5 rfl rfl rfl rfl rfl rfl rfl ⟨rfl, rfl, rfl, rfl, rfl⟩ rfl rfl rfl rfl rfl (by kernel_rfl) Try.func5 (by kernel_rfl)
    (of_decide_eq_true (by kernel_rfl)) (by unfold Func.isWrapper; first | (rw [if_pos (by decide +kernel)]; kernel_rfl) | (rw [if_neg (by decide +kernel)]; exact ⟨rfl, rfl⟩))
    (fun os started H enc _ => lifted os started H enc)

/-- THE STATEMENT -/
theorem proved : Rows.FnIsPackageSaid := over
end Go.Proofs.Ytggkkehmhapomaa.FnIsPackage
