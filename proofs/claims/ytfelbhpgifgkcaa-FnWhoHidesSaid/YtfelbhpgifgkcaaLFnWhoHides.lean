/- FnWhoHides returns true for every code. Written by mklaws.py. -/
import Derived.Test.YtfelbhpgifgkcaaDrawH
import Derived.Test.YtfelbhpgifgkcaaTrees
import Derived.Test.YtfelbhpgifgkcaaLooks
import Derived.Test.YtfelbhpgifgkcaaSLooks
import Derived.Test.YtfelbhpgifgkcaaHidden
import Derived.Test.YtfelbhpgifgkcaaSHidden
import Derived.Test.YtfelbhpgifgkcaaSWho
import Derived.Test.YtfelbhpgifgkcaaEqFind
import Derived.Test.YtfelbhpgifgkcaaPlainR
import Derived.Test.YtfelbhpgifgkcaaFrame
import Derived.Lib.QuietBelow
import Derived.BigQuiet
set_option linter.unusedVariables false
set_option linter.unusedSimpArgs false
namespace Go.Proofs.Ytfelbhpgifgkcaa.FnWhoHides
open Go.Sort Go.ChangeShapes Go.WideShapes Go.ChangeAt Go.RowKit Go.Proofs.Ytfelbhpgifgkcaa.Nm

set_option maxRecDepth 100000 in
set_option maxHeartbeats 4000000 in
theorem walk (a : Option Addr) (n cap : Nat) (w : World) (hc : Code w w.heap.size a n cap) :
    Calls Try.prog 3 #[.slice a n cap] w fun e w' => e = .returned (.bool true) ∧ Below w.heap.size w w' := by
  by_cases hn : (1048576 : Int) < (n : Int)
  · go_enter Try.func3, Try.ntmps3
    go_wp2_with fail
    go_ret
    exact ⟨rfl, Below.refl _ _⟩
  have Hc := Lib.hid hc
  clear hc
  go_enter Try.func3, Try.ntmps3
  go_wp2_with fail
  refine (spec_DrawWhoHides a n cap w Hc.out).mono ?_
  rintro e w1 ⟨v, ps, pv, xs, wi, rfl, ⟨hrows, hsh, hl, hb5, hb1⟩, hp, hx3⟩
  obtain ⟨va, vc, rfl⟩ := hrows.len
  have HR := Lib.hid hrows
  obtain ⟨fs, hfs⟩ : ∃ fs, fs = ps.map (·.1) := ⟨_, rfl⟩
  have Hfs := Lib.hid hfs
  have hfl : fs.length = ps.length := by rw [hfs, List.length_map]
  have HF := Lib.hid (show FilsIn w1 (fun _ => True) (.slice va ps.length vc) fs by rw [hfs]; exact hrows.fils)
  have Hz8 := Lib.hid (show ShortT 8000000 fs by rw [hfs]; exact shortT_mono (by omega) hsh)
  have Hz3 := Lib.hid (show ShortT 3000000 fs by rw [hfs]; exact shortT_mono (by omega) hsh)
  have Hz2 := Lib.hid (show ShortT 2000000 fs by rw [hfs]; exact shortT_mono (by omega) hsh)
  have Hs8 := Lib.hid (show ShortT 8 fs by rw [hfs]; exact hsh)
  have Hb5 := Lib.hid (show ∀ f ∈ fs, f.body.length ≤ 5 by rw [hfs]; intro f hf; obtain ⟨p, hp, rfl⟩ := List.mem_map.1 hf; exact hb5 p hp)
  have Hb1 := Lib.hid hb1
  have B0 := Boxed.start w1 #[.slice va ps.length vc] 25
  have hl11 : fs.length ≤ 11 := by omega
  clear hrows hsh hb5 hb1 hfs
  generalize ps.length = pn at *
  subst hfl
  have X1 := Lib.hid B0
  clear B0
  obtain ⟨pa, pc, rfl⟩ := hp.len
  have HP := Lib.hid hp.ints
  clear hp
  obtain ⟨y, z, hyz⟩ : ∃ y z, whoHides fs xs wi = (y, z) := ⟨_, _, rfl⟩
  have Hyz := Lib.hid hyz
  have Hfa := Lib.hid (fun (h : 0 ≤ y) => (by have h2 := whoHides_facts (t := fs) (path := xs) (i := wi) (by rw [hyz]; exact h); rw [hyz] at h2; exact h2 : okLook fs xs = true ∧ ∃ (k : Nat) (hk : k < fs.length), wi = k ∧ (y = 0 ↔ (k : Int) ∉ hidden fs xs) ∧ (0 ≤ z ↔ y = 2) ∧ (z < 0 ∨ ∃ (j : Nat) (hj : j < fs.length), z = j ∧ j ≠ k ∧ modOf fs[j] = modOf fs[k])))
  clear hyz
  go_wp2_with fail
  refine (impl_WhoHides _ fs (fun _ => True) _ xs wi _ (HF.out.below X1.out.below) Hz2.out (HP.out.below X1.out.below) (by omega)).mono ?_
  rintro _ w2 ⟨rfl, hb2⟩
  rw [Hyz.out]
  have X2 := Lib.hid (X1.out.step hb2)
  have x2 : w2.cell? ⟨w1.heap.size, 0, none⟩ = some (.slice va fs.length vc) := X2.out.cell 0
  clear hb2
  go_wp2_with fail
  refine (spec_WhoHides _ fs (fun _ => True) _ xs wi _ (HF.out.below X2.out.below) Hz2.out (HP.out.below X2.out.below) (by omega)).mono ?_
  rintro _ w3 ⟨rfl, hb3⟩
  rw [Hyz.out]
  have X3 := Lib.hid (X2.out.step hb3)
  have x3 : w3.cell? ⟨w1.heap.size, 0, none⟩ = some (.slice va fs.length vc) := X3.out.cell 0
  clear hb3 x2
  by_cases hneg : y < 0
  · go_wp2_with fail
    go_ret
    exact ⟨rfl, bt Hb1.out X3.out.below⟩
  · obtain ⟨_, i, hi, hwi, h1, h2, h3⟩ := Hfa.out (by omega)
    subst hwi
    have hnegb : decide (y < 0) = false := decide_eq_false hneg
    have H1 := Lib.hid h1
    have H3 := Lib.hid h3
    have hg2 : decide ((0 : Int) ≤ z) = (y == 2) := by
      by_cases e : y = 2
      · rw [decide_eq_true (h2.2 e)]; simp [e]
      · rw [decide_eq_false (fun h => e (h2.1 h))]; simp [e]
    clear h1 h2 h3 Hfa
    go_wp2_with fail
    refine (impl_HiddenFiles _ fs (fun _ => True) _ xs _ (HF.out.below X3.out.below) Hz2.out (HP.out.below X3.out.below)).mono ?_
    rintro _ w4 ⟨v4, rfl, hown4, hb4⟩
    have R4 := Lib.hid (IntsIn.of_owns hown4)
    obtain ⟨a4, c4, rfl⟩ := owns_shape hown4
    have X4 := Lib.hid (X3.out.step hb4)
    have x4 : w4.cell? ⟨w1.heap.size, 0, none⟩ = some (.slice va fs.length vc) := X4.out.cell 0
    clear hown4 hb4 x3
    have hin : (y == 0) = decide ((i : Int) ∉ hidden fs xs) := by
      by_cases e : y = 0
      · rw [decide_eq_true (H1.out.1 e)]; simp [e]
      · rw [decide_eq_false (fun h => e (H1.out.2 h))]; simp [e]
    have Hin := Lib.hid hin
    clear hin
    generalize hidden fs xs = hs at *
    go_wp2_with fail
    refine (laws_isIn _ hs (i : Int) _ R4.out).mono ?_
    rintro _ _ ⟨rfl, rfl⟩
    have Hmm : (decide ((i : Int) ∈ hs) = true ∧ (y == 0) = false) ∨ (decide ((i : Int) ∈ hs) = false ∧ (y == 0) = true) := by
      rw [Hin.out]
      by_cases e : (i : Int) ∈ hs
      · exact .inl ⟨decide_eq_true e, decide_eq_false (fun h => h e)⟩
      · exact .inr ⟨decide_eq_false e, decide_eq_true e⟩
    have hz0 : z < 0 ∧ (y == 2) = false ∨ 0 ≤ z ∧ (y == 2) = true := by
      by_cases e : 0 ≤ z
      · exact .inr ⟨e, by rw [← hg2]; exact decide_eq_true e⟩
      · exact .inl ⟨by omega, by rw [← hg2]; exact decide_eq_false e⟩
    clear Hin hg2
    rcases Hmm with ⟨m1, m2⟩ | ⟨m1, m2⟩
    all_goals
      rw [m1]
      clear m1
      rcases hz0 with ⟨n1, n2⟩ | ⟨n1, n2⟩
      · have q1 : ¬ (0 : Int) ≤ z := by omega
        have q2 : decide ((0 : Int) ≤ z) = false := decide_eq_false q1
        have q3 : decide (z < 0) = true := decide_eq_true n1
        have k0 := cell_regrown x4
        clear x4
        go_wp2_with fail
        refine wp_region_quiet_below (by kernel_rfl) (by kernel_rfl) ?_
        repeat (go_big_quiet_step (fail))
        refine wpQuiet_nil ?_
        intro _ hw'
        obtain ⟨⟨dq, osq⟩, hw2⟩ := hw'
        subst hw2
        have Hb7 := Lib.hid (bt Hb1.out (bt X4.out.below (below_regrown w4 dq osq)))
        clear k0
        go_wp2_with fail
        go_ret
        exact ⟨rfl, Hb7.out⟩
      · obtain ⟨j, hj, hzj, hji, hm⟩ := H3.out.resolve_left (by omega)
        subst hzj
        have q1 : (0 : Int) ≤ (j : Int) := by omega
        have q2 : decide ((0 : Int) ≤ (j : Int)) = true := decide_eq_true q1
        have q3 : decide ((j : Int) < 0) = false := decide_eq_false (by omega)
        have q4 : ((j : Int) == (i : Int)) = false := by rw [beq_eq_false_iff_ne]; omega
        have q4b : ((j : Int) != (i : Int)) = true := by rw [bne, q4]; rfl
        have q8 : (j == i) = false := by rw [beq_eq_false_iff_ne]; exact hji
        have q9 : (j != i) = true := by rw [bne, q8]; rfl
        have q5 : (j : Int) < (fs.length : Int) := by omega
        have q6 : (i : Int) < (fs.length : Int) := by omega
        have q7 : (0 : Int) ≤ (i : Int) := by omega
        obtain ⟨b, off, cap', bv, e, hD, hb, hbody, c0, c1, c2', c3, c4', c5⟩ := (HF.out.below X4.out.below).at_ hj
        obtain ⟨b', off', cap2, bv', e', hD', hb', hbody', d0, d1, d2, d3, d4, d5⟩ := (HF.out.below X4.out.below).at_ hi
        simp only [Value.slice.injEq] at e e'
        obtain ⟨rfl, _, rfl⟩ := e
        obtain ⟨e', _, rfl⟩ := e'
        simp only [Option.some.injEq, Addr.mk.injEq] at e'
        obtain ⟨rfl, rfl, _⟩ := e'
        obtain ⟨ba1, bc1, rfl, _, _⟩ := hbody.len
        obtain ⟨ba2, bc2, rfl, _, _⟩ := hbody'.len
        have hzj := Hs8.out _ (List.getElem_mem hj)
        have hzi := Hs8.out _ (List.getElem_mem hi)
        obtain ⟨f, hf⟩ : ∃ f, f = fs[j] := ⟨_, rfl⟩
        obtain ⟨f2, hf2⟩ : ∃ f, f = fs[i] := ⟨_, rfl⟩
        rw [← hf] at c0 c1 c2' c3 c4' c5 hbody hzj hm
        rw [← hf2] at d0 d1 d2 d3 d4 d5 hbody' hzi hm
        have Hbo := Lib.hid hbody
        have Hbo' := Lib.hid hbody'
        have Hm := Lib.hid hm
        clear hf hf2 hbody hbody' hm
        obtain ⟨fr, fp, fn, fi, fst, fb⟩ := f
        obtain ⟨gr, gp, gn, gi, gst, gb⟩ := f2
        obtain ⟨hz1, hz2, hz3⟩ := hzj
        obtain ⟨hy1, hy2, hy3⟩ := hzi
        dsimp only at c0 c1 c2' c3 c4' c5 d0 d1 d2 d3 d4 d5 hz1 hz2 hz3 hy1 hy2 hy3
        have Hz := Lib.hid (short_mono (B := 8000000) (by omega) hz3)
        have Hy := Lib.hid (short_mono (B := 8000000) (by omega) hy3)
        clear hz3 hy3
        have k0 := cell_regrown x4
        have k1 := cell_regrown c0
        have k2 := cell_regrown c1
        have k3 := cell_regrown c2'
        have k4 := cell_regrown c3
        have k5 := cell_regrown c4'
        have k6 := cell_regrown c5
        have l1 := cell_regrown d0
        have l2 := cell_regrown d1
        have l3 := cell_regrown d2
        have l4 := cell_regrown d3
        have l5 := cell_regrown d4
        have l6 := cell_regrown d5
        clear x4 c0 c1 c2' c3 c4' c5 d0 d1 d2 d3 d4 d5
        have cA : ∀ d os, Calls Try.prog 15 #[.agg #[.int .i64 fr, .string (mk fp), .string (mk fn), .bool fi, .int .i64 fst, .slice ba1 fb.length bc1]] (grow (redrawn w4 d) os) fun e w'' => e = .returned (.string (mk (modOf ⟨fr, fp, fn, fi, fst, fb⟩))) ∧ ∃ p : Regrown, w'' = grow (redrawn w4 p.d) p.os := fun d os =>
          Calls.regrown_of (impl_ModuleOf _ _ _ _ _ _ fb (fun _ => True) (grow (redrawn w4 d) os) (by omega) (by omega) (Hbo.out.below (below_regrown w4 d os)) Hz.out)
        have cB : ∀ d os, Calls Try.prog 15 #[.agg #[.int .i64 gr, .string (mk gp), .string (mk gn), .bool gi, .int .i64 gst, .slice ba2 gb.length bc2]] (grow (redrawn w4 d) os) fun e w'' => e = .returned (.string (mk (modOf ⟨fr, fp, fn, fi, fst, fb⟩))) ∧ ∃ p : Regrown, w'' = grow (redrawn w4 p.d) p.os := fun d os =>
          Calls.regrown_of (by have h := impl_ModuleOf gr gst gp gn gi _ gb (fun _ => True) (grow (redrawn w4 d) os) (by omega) (by omega) (Hbo'.out.below (below_regrown w4 d os)) Hy.out; rw [← Hm.out] at h; exact h)
        generalize modOf ⟨fr, fp, fn, fi, fst, fb⟩ = m at *
        go_wp2_with fail
        refine wp_region_quiet_below (by kernel_rfl) (by kernel_rfl) ?_
        repeat (go_big_quiet_step (first | with_reducible exact cA _ _ | with_reducible exact cB _ _))
        refine wpQuiet_nil ?_
        intro _ hw'
        obtain ⟨⟨dq, osq⟩, hw2⟩ := hw'
        subst hw2
        have Hb7 := Lib.hid (bt Hb1.out (bt X4.out.below (below_regrown w4 dq osq)))
        clear k0 k1 k2 k3 k4 k5 k6 l1 l2 l3 l4 l5 l6 cA cB
        go_wp2_with fail
        go_ret
        exact ⟨rfl, Hb7.out⟩

/-! ### THE STEP TO THE ROW -/
set_option maxRecDepth 100000 in
theorem lifted (os : Os) (started : os.Started) (H : Type) (enc : TypeId × Value → H) :
    ReturnsInHanded {} Try.checked os 3 .any (Rows.fnWhoHidesSpec.pre6 enc Try.prog Try.f3 Rows.fnWhoHidesRow.domain false) (Rows.fnWhoHidesSpec.post enc Try.prog Try.f3 false true false false) := by
  refine returnsInHanded_of_change (C := Try.checked) own started (by kernel_rfl) Try.func3
    (ChangeSpec.witness6 (enc := enc) (C := Try.checked) false ⟨#[], #[.slice none 0 0], []⟩ 8 (by kernel_rfl) (by kernel_rfl) (by kernel_rfl) (by kernel_rfl)) ?_
  intro W base args ds gs before hval0 hW hcnd _
  have hval : ∀ (j : Nat) t v, Try.f3.params[j]? = some t → args[j]? = some v → Value.okWide Try.prog W .any base t v := hval0
  have hW' := hW
  obtain ⟨p, q, hA0, hV, rfl, hfz, hnd⟩ := hW
  have hA : DataW.TrodAll enc Try.prog W 0 (fun _ => true) true Try.f3.params.toList args.toList ds p := hA0
  rw [Try.params3] at hA hval
  obtain ⟨v0, vs0, d0, ds0, p0, q0, hargs, rfl, rfl, h0, r0⟩ := trodAll_cons hA
  obtain ⟨rfl, rfl, rfl⟩ := trodAll_nil r0
  obtain rfl : args = #[v0] := by cases args; simp_all
  obtain ⟨rfl, rfl⟩ := trodVars_none hV
  obtain ⟨a0, len0, cap0, rfl⟩ := okWide_slice Try.underlying22 (hval 0 22 v0 rfl rfl)
  have k0 := h0
  have lt0 : ∀ x ∈ p0, x.block < W.heap.size := by obtain ⟨m, hm⟩ := k0; exact DataW.trod_lt m _ _ _ hm
  have w0 : Code W W.heap.size a0 len0 cap0 := by
    obtain ⟨fuel, hf⟩ := h0
    rcases open_ints Try.underlying22 Try.underlying5 (by kernel_rfl) hf with ⟨hcs, _⟩ | ⟨x, l, c, zs, hcs, _, hl, hm, hz, _, hcell, hwz⟩
    · simp [Value.cells] at hcs
      obtain ⟨rfl, rfl, rfl⟩ := hcs
      exact .inl ⟨rfl, by unfold maxLen; omega⟩
    · simp [Value.cells] at hcs
      obtain ⟨rfl, rfl, rfl⟩ := hcs
      exact code_row W _ _ _ zs hl hm (by simpa using hz) hcell hwz
  clear hA0 hval0
  refine (walk a0 len0 cap0 W w0).mono fun e W' ⟨he, bel⟩ => ?_
  subst he
  exact ⟨_, rfl, _, _, _, [], _, [], hW', trodAll_mk1 (shut_bool Try.underlying4 _), (trodAll_cons_mk (Below.trod laidOut (by kernel_rfl) (of_decide_eq_true (by kernel_rfl)) k0 bel lt0) trodAll_mk0), rfl, bel.frame _, fun h => by cases h⟩

theorem over : Rows.fnWhoHidesRow.holds Try.pinned (OpenSpec.ofChange Rows.fnWhoHidesSpec) :=
  OpenClaim.holds_of_wide 3 Try.f3 rfl rfl rfl rfl rfl rfl rfl ⟨rfl, rfl, rfl, rfl, rfl⟩ rfl rfl rfl rfl rfl (by kernel_rfl) Try.func3 (by kernel_rfl)
    (of_decide_eq_true (by kernel_rfl)) (by unfold Func.isWrapper; first | (rw [if_pos (by decide +kernel)]; kernel_rfl) | (rw [if_neg (by decide +kernel)]; exact ⟨rfl, rfl⟩))
    (fun os started H enc _ => lifted os started H enc)

/-- THE STATEMENT -/
theorem proved : Rows.FnWhoHidesSaid := over
end Go.Proofs.Ytfelbhpgifgkcaa.FnWhoHides
