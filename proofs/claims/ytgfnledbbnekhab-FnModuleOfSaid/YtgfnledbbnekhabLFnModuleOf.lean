/- FnModuleOf returns true for every code. -/
import Derived.Test.YtgfnledbbnekhabDrawG
import Derived.Test.YtgfnledbbnekhabStmts
import Derived.Test.YtgfnledbbnekhabKin
import Derived.Test.YtgfnledbbnekhabPlainG
import Derived.Test.YtgfnledbbnekhabFrame
import Derived.Lib.QuietBelow
import Derived.BigQuiet
set_option linter.unusedVariables false
set_option linter.unusedSimpArgs false
namespace Go.Proofs.Ytgfnledbbnekhab.FnModuleOf
open Go.Sort Go.ChangeShapes Go.WideShapes Go.ChangeAt Go.RowKit Go.Proofs.Ytgfnledbbnekhab.Nm

set_option maxRecDepth 100000 in
set_option maxHeartbeats 2000000 in
theorem walk (a : Option Addr) (n cap : Nat) (w : World) (hc : Code w w.heap.size a n cap) :
    Calls Try.prog 10 #[.slice a n cap] w fun e w' => e = .returned (.bool true) ∧ Below w.heap.size w w' := by
  by_cases hn : (1048576 : Int) < (n : Int)
  · go_enter Try.func10, Try.ntmps10
    go_wp2_with fail
    go_ret
    exact ⟨rfl, Below.refl _ _⟩
  · have Hc := Lib.hid hc
    clear hc
    go_enter Try.func10, Try.ntmps10
    go_wp2_with fail
    refine (spec_DrawModuleOf a n cap w Hc.out).mono ?_
    rintro e w1 ⟨⟨fr, fp, fn, fi, fst, fb⟩, bv, rfl, hown, ⟨hz1, hz2, hz3⟩, hl4, hb1⟩
    unfold filV
    dsimp only at hown hz1 hz2 hz3 hl4 ⊢
    obtain ⟨va, vc, rfl⟩ := owns_shape hown
    have Hz := Lib.hid (short_mono (B := 8000000) (by omega) hz3)
    have Hr := Lib.hid (show StmsIn w1 (fun _ => True) (.slice va fb.length vc) fb from StmsIn.of_owns hown (fun _ _ => trivial))
    have Hb1 := Lib.hid hb1
    have B0 := BoxC.start w1 #[.int .i64 fr, .string (mk fp), .string (mk fn), .bool fi, .int .i64 fst, .slice va fb.length vc] 35
    have HC := Lib.hid (show Below w1.heap.size w1 (w1.alloc (.cells #[.int .i64 fr, .string (mk fp), .string (mk fn), .bool fi, .int .i64 fst, .slice va fb.length vc] 35)) by (repeat (with_reducible first | exact Below.refl _ _ | assumption | refine ba ?_ _ | refine bd ?_ | refine bdN ?_ _ | refine bs ?_ (by first | exact Nat.le_refl _ | (dsimp only; omega) | (simp; done)) _ | refine bt ?_ (by assumption))))
    clear hown hz3 hb1
    obtain ⟨m, hm⟩ : ∃ m, m = modOf ⟨fr, fp, fn, fi, fst, fb⟩ := ⟨_, rfl⟩
    have Hm := Lib.hid hm.symm
    have Hf := Lib.hid (fun (h : modOf ⟨fr, fp, fn, fi, fst, fb⟩ ≠ []) => modOf_facts h)
    clear hm
    go_wp2_with fail
    refine (impl_ModuleOf _ _ _ _ _ _ fb (fun _ => True) _ (by omega) (by omega) (Hr.out.below HC.out) Hz.out).mono ?_
    rintro _ w2 ⟨rfl, hb2⟩
    rw [Hm.out]
    have X2 := Lib.hid (B0.below hb2)
    have Hb2 := Lib.hid (HC.out.trans (hb2.mono HC.out.size))
    clear B0 hb2
    have x0 : w2.cell? ⟨w1.heap.size, 0, none⟩ = some (.int .i64 fr) := X2.out.2 0
    have x1 : w2.cell? ⟨w1.heap.size, 1, none⟩ = some (.string (mk fp)) := X2.out.2 1
    have x2 : w2.cell? ⟨w1.heap.size, 2, none⟩ = some (.string (mk fn)) := X2.out.2 2
    have x3 : w2.cell? ⟨w1.heap.size, 3, none⟩ = some (.bool fi) := X2.out.2 3
    have x4 : w2.cell? ⟨w1.heap.size, 4, none⟩ = some (.int .i64 fst) := X2.out.2 4
    have x5 : w2.cell? ⟨w1.heap.size, 5, none⟩ = some (.slice va fb.length vc) := X2.out.2 5
    by_cases h0 : m = []
    · subst h0
      go_wp2_with fail
      refine (spec_ModuleOf _ _ _ _ _ _ fb (fun _ => True) _ (by omega) (by omega) (Hr.out.below Hb2.out) Hz.out).mono ?_
      rintro _ w3 ⟨rfl, hb3⟩
      rw [Hm.out]
      have X3 := Lib.hid (X2.out.below hb3)
      have Hb3 := Lib.hid (bt Hb2.out hb3)
      clear hb3 x0 x1 x2 x3 x4 x5
      have x0 : w3.cell? ⟨w1.heap.size, 0, none⟩ = some (.int .i64 fr) := X3.out.2 0
      have x1 : w3.cell? ⟨w1.heap.size, 1, none⟩ = some (.string (mk fp)) := X3.out.2 1
      have x2 : w3.cell? ⟨w1.heap.size, 2, none⟩ = some (.string (mk fn)) := X3.out.2 2
      have x3 : w3.cell? ⟨w1.heap.size, 3, none⟩ = some (.bool fi) := X3.out.2 3
      have x4 : w3.cell? ⟨w1.heap.size, 4, none⟩ = some (.int .i64 fst) := X3.out.2 4
      have x5 : w3.cell? ⟨w1.heap.size, 5, none⟩ = some (.slice va fb.length vc) := X3.out.2 5
      go_wp2_with fail
      refine (spec_ModuleOf _ _ _ _ _ _ fb (fun _ => True) _ (by omega) (by omega) (Hr.out.below Hb3.out) Hz.out).mono ?_
      rintro _ w4 ⟨rfl, hb4⟩
      rw [Hm.out]
      have Hb4 := Lib.hid (bt Hb1.out (bt Hb3.out hb4))
      clear hb4
      go_wp2_with fail
      go_ret
      exact ⟨rfl, Hb4.out⟩
    · obtain ⟨_, _, hv, hi1, hi0⟩ := Hf.out (by rw [Hm.out]; exact h0)
      rw [Hm.out] at hv hi1 hi0
      have hne : m.isEmpty = false := by simpa using h0
      have hml := vn_len hv
      have Hv := Lib.hid hv
      have H0 := Lib.hid h0
      have Hi1 := Lib.hid hi1
      have Hi0 := Lib.hid hi0
      clear hv hi1 hi0 Hf
      go_wp2_with fail
      refine (spec_ModuleOf _ _ _ _ _ _ fb (fun _ => True) _ (by omega) (by omega) (Hr.out.below Hb2.out) Hz.out).mono ?_
      rintro _ w3 ⟨rfl, hb3⟩
      rw [Hm.out]
      have X3 := Lib.hid (X2.out.below hb3)
      have Hb3 := Lib.hid (bt Hb1.out (bt Hb2.out hb3))
      clear hb3 x0 x1 x2 x3 x4 x5
      have k1 := cell_regrown (show w3.cell? ⟨w1.heap.size, 1, none⟩ = some (.string (mk fp)) from X3.out.2 1)
      have k2 := cell_regrown (show w3.cell? ⟨w1.heap.size, 2, none⟩ = some (.string (mk fn)) from X3.out.2 2)
      have k3 := cell_regrown (show w3.cell? ⟨w1.heap.size, 3, none⟩ = some (.bool fi) from X3.out.2 3)
      have cV : ∀ d os, Calls Try.prog 58 #[.string (mk m)] (grow (redrawn w3 d) os) fun e w'' => e = .returned (.bool true) ∧ ∃ p : Regrown, w'' = grow (redrawn w3 p.d) p.os := fun d os =>
        Calls.regrown_of (by have h := impl_ValidName m (grow (redrawn w3 d) os) (by omega); rw [Hv.out] at h; exact h)
      cases fi
      · obtain ⟨e1, e2⟩ := Hi0.out rfl
        have cP : ∀ d os, Calls Try.prog 59 #[.string (mk m)] (grow (redrawn w3 d) os) fun e w'' => e = .returned (.string (mk fp)) ∧ ∃ p : Regrown, w'' = grow (redrawn w3 p.d) p.os := fun d os =>
          Calls.regrown_of (by have h := impl_ParentOf m (grow (redrawn w3 d) os) (by omega); rw [e1] at h; exact h)
        have cL : ∀ d os, Calls Try.prog 60 #[.string (mk m)] (grow (redrawn w3 d) os) fun e w'' => e = .returned (.string (mk fn)) ∧ ∃ p : Regrown, w'' = grow (redrawn w3 p.d) p.os := fun d os =>
          Calls.regrown_of (by have h := impl_LastOf m (grow (redrawn w3 d) os) (by omega); rw [e2] at h; exact h)
        clear e1 e2
        go_wp2_with fail
        refine wp_region_quiet_below (by kernel_rfl) (by kernel_rfl) ?_
        repeat (go_big_quiet_step (first | exact cV _ _ | exact cP _ _ | exact cL _ _))
        refine wpQuiet_nil ?_
        intro _ hw'
        obtain ⟨⟨dq, osq⟩, hw2⟩ := hw'
        subst hw2
        have Hb7 := Lib.hid (bt Hb3.out (below_regrown w3 dq osq))
        clear cV cP cL k1 k2 k3
        go_wp2_with fail
        go_ret
        exact ⟨rfl, Hb7.out⟩
      · obtain rfl := Hi1.out rfl
        go_wp2_with fail
        refine wp_region_quiet_below (by kernel_rfl) (by kernel_rfl) ?_
        repeat (go_big_quiet_step (first | exact cV _ _))
        refine wpQuiet_nil ?_
        intro _ hw'
        obtain ⟨⟨dq, osq⟩, hw2⟩ := hw'
        subst hw2
        have Hb7 := Lib.hid (bt Hb3.out (below_regrown w3 dq osq))
        clear cV k1 k2 k3
        go_wp2_with fail
        go_ret
        exact ⟨rfl, Hb7.out⟩

/-! ### THE STEP TO THE ROW -/
set_option maxRecDepth 100000 in
theorem lifted (os : Os) (started : os.Started) (H : Type) (enc : TypeId × Value → H) :
    ReturnsInHanded {} Try.checked os 10 .any (Rows.fnModuleOfSpec.pre6 enc Try.prog Try.f10 Rows.fnModuleOfRow.domain false) (Rows.fnModuleOfSpec.post enc Try.prog Try.f10 false true false false) := by
  refine returnsInHanded_of_change (C := Try.checked) own started (by kernel_rfl) Try.func10
    (ChangeSpec.witness6 (enc := enc) (C := Try.checked) false ⟨#[], #[.slice none 0 0], []⟩ 8 (by kernel_rfl) (by kernel_rfl) (by kernel_rfl) (by kernel_rfl)) ?_
  intro W base args ds gs before hval0 hW hcnd _
  have hval : ∀ (j : Nat) t v, Try.f10.params[j]? = some t → args[j]? = some v → Value.okWide Try.prog W .any base t v := hval0
  have hW' := hW
  obtain ⟨p, q, hA0, hV, rfl, hfz, hnd⟩ := hW
  have hA : DataW.TrodAll enc Try.prog W 0 (fun _ => true) true Try.f10.params.toList args.toList ds p := hA0
  rw [Try.params10] at hA hval
  obtain ⟨v0, vs0, d0, ds0, p0, q0, hargs, rfl, rfl, h0, r0⟩ := trodAll_cons hA
  obtain ⟨rfl, rfl, rfl⟩ := trodAll_nil r0
  obtain rfl : args = #[v0] := by cases args; simp_all
  obtain ⟨rfl, rfl⟩ := trodVars_none hV
  obtain ⟨a0, len0, cap0, rfl⟩ := okWide_slice Try.underlying70 (hval 0 70 v0 rfl rfl)
  have k0 := h0
  have lt0 : ∀ x ∈ p0, x.block < W.heap.size := by obtain ⟨m, hm⟩ := k0; exact DataW.trod_lt m _ _ _ hm
  have w0 : Code W W.heap.size a0 len0 cap0 := by
    obtain ⟨fuel, hf⟩ := h0
    rcases open_ints Try.underlying70 Try.underlying5 (by kernel_rfl) hf with ⟨hcs, _⟩ | ⟨x, l, c, zs, hcs, _, hl, hm, hz, _, hcell, hwz⟩
    · simp [Value.cells] at hcs
      obtain ⟨rfl, rfl, rfl⟩ := hcs
      exact .inl ⟨rfl, by unfold maxLen; omega⟩
    · simp [Value.cells] at hcs
      obtain ⟨rfl, rfl, rfl⟩ := hcs
      exact code_row W _ _ _ zs hl hm (by simpa using hz) hcell hwz
  clear hA0 hval0
  refine (walk a0 len0 cap0 W w0).mono fun e W' ⟨he, bel⟩ => ?_
  subst he
  exact ⟨_, rfl, _, _, _, [], _, [], hW', trodAll_mk1 (shut_bool Try.underlying4 _), (trodAll_cons_mk (Below.trod laidOut (by kernel_rfl) (of_decide_eq_true (by kernel_rfl)) k0 bel lt0) trodAll_mk0), rfl, bel.frame _, fun h => by cases h⟩

theorem over : Rows.fnModuleOfRow.holds Try.pinned (OpenSpec.ofChange Rows.fnModuleOfSpec) :=
  OpenClaim.holds_of_wide 10 Try.f10 rfl rfl rfl rfl rfl rfl rfl ⟨rfl, rfl, rfl, rfl, rfl⟩ rfl rfl rfl rfl rfl (by kernel_rfl) Try.func10 (by kernel_rfl)
    (of_decide_eq_true (by kernel_rfl)) (by unfold Func.isWrapper; first | (rw [if_pos (by decide +kernel)]; kernel_rfl) | (rw [if_neg (by decide +kernel)]; exact ⟨rfl, rfl⟩))
    (fun os started H enc _ => lifted os started H enc)

/-- THE STATEMENT -/
theorem proved : Rows.FnModuleOfSaid := over
end Go.Proofs.Ytgfnledbbnekhab.FnModuleOf
