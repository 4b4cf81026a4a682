/- FnExactModuleOf returns true for every argument. -/
import Derived.Test.YthpegpakdofhfaaFiles
import Derived.Test.YthpegpakdofhfaaEqTree
import Derived.Test.YthpegpakdofhfaaSzTree
import Derived.Test.YthpegpakdofhfaaToTree
import Derived.Test.YthpegpakdofhfaaReadIn
import Derived.Test.YthpegpakdofhfaaFrame
import Derived.Deep.RegionHeld3
set_option linter.unusedVariables false
set_option linter.unusedSimpArgs false
namespace Go.Proofs.Ythpegpakdofhfaa.FnExactModuleOf
open Go.ChangeShapes Go.WideShapes Go.ChangeAt Go.RowKit Go.Proofs.Ythpegpakdofhfaa.Nm

theorem six {w wr : World} {c0 c1 c2 c3 c4 c5 : Value} {T : TypeId} (h : Boxed w #[c0, c1, c2, c3, c4, c5] T wr) :
    wr.cell? ⟨w.heap.size, 0, none⟩ = some c0 ∧ wr.cell? ⟨w.heap.size, 1, none⟩ = some c1 ∧ wr.cell? ⟨w.heap.size, 2, none⟩ = some c2 ∧ wr.cell? ⟨w.heap.size, 3, none⟩ = some c3 ∧ wr.cell? ⟨w.heap.size, 4, none⟩ = some c4 ∧ wr.cell? ⟨w.heap.size, 5, none⟩ = some c5 :=
  ⟨h.cell 0, h.cell 1, h.cell 2, h.cell 3, h.cell 4, h.cell 5⟩

set_option maxRecDepth 100000 in
set_option maxHeartbeats 1000000 in
theorem walk (f : Fil) (bv : Value) (w : World) (h : StmsIn w (fun _ => True) bv f.body ∧ ShortF maxLen f) :
    Calls Try.prog 5 #[.agg #[.int .i64 f.root, .string (mk f.pack), .string (mk f.name), .bool f.init, .int .i64 f.stamp, bv]] w fun e w' => e = .returned (.bool true) ∧ Below w.heap.size w w' := by
  obtain ⟨hr, hz⟩ := h
  obtain ⟨fr, fp, fn, fi, fst, fb⟩ := f
  obtain ⟨z1, z2, z3⟩ := hz
  dsimp only at hr z1 z2 z3 ⊢
  have Hr := Lib.hid hr
  have Hz := Lib.hid z3
  obtain ⟨aa, ca, rfl, hlc, hm⟩ := hr.len
  clear hr hm z3
  go_enter Try.func5, Try.ntmps5
  go_wp2_with (go_at_call 24; refine (laws_szFile _ _ _ _ _ _ fb _ 1048576 _ z1 z2 (Hr.out.below (by (repeat (with_reducible first | exact Below.refl _ _ | assumption | refine ba ?_ _ | refine bd ?_ | refine bdN ?_ _ | refine bs ?_ (by first | exact Nat.le_refl _ | (dsimp only; omega) | (simp; done)) _ | refine bt ?_ (by assumption))))) Hz.out (by omega)).mono ?_; rintro _ w1 ⟨r, rfl, hr, hb1⟩; have Hx1 := Lib.hid ((Boxed.start w _ 41).step hb1); obtain ⟨a0, a1, a2, a3, a4, a5⟩ := six Hx1.out)
  · go_ret
    exact ⟨rfl, Hx1.out.below⟩
  · have hc : filCost ⟨fr, fp, fn, fi, fst, fb⟩ ≤ 1048576 := by omega
    have Hf := Lib.hid (shortF_of hc)
    have hfp : fp.length ≤ 1048576 := Hf.out.1
    have hfn : fn.length ≤ 1048576 := Hf.out.2.1
    have Hs8 := Lib.hid (short_mono (B := 8000000) (by omega) Hf.out.2.2)
    have hl : fb.length ≤ 1048576 := by
      have e : filCost ⟨fr, fp, fn, fi, fst, fb⟩ = fp.length + fn.length + (fb.length + (fb.map stmCost).sum) := rfl
      omega
    have Hb1 := Lib.hid hb1
    clear hr hc hb1
    go_wp2_with (go_at_call 26; refine (laws_toFile _ _ _ _ _ _ fb _ _ (Hr.out.below Hx1.out.below) hl).mono ?_; rintro _ w2 ⟨v2, rfl, ho2, hb2⟩; have Hx2 := Lib.hid (Hx1.out.step hb2); obtain ⟨b0, b1, b2, b3, b4, b5⟩ := six Hx2.out; unfold filV; dsimp only)
    have Ho2 := Lib.hid (show StmsIn w2 (fun _ => True) v2 fb from StmsIn.of_owns ho2 (fun _ _ => trivial))
    clear ho2 hb2 a0 a1 a2 a3 a4 a5
    go_wp2_with (go_at_call 25; refine (spec_ModuleOf _ _ _ _ _ _ fb (fun _ => True) _ (by omega) (by omega) Ho2.out Hs8.out).mono ?_; rintro _ w3 ⟨rfl, hb3⟩; have Hx3 := Lib.hid (Hx2.out.step hb3); obtain ⟨a0, a1, a2, a3, a4, a5⟩ := six Hx3.out)
    clear hb3 b0 b1 b2 b3 b4 b5
    go_wp2_with (go_at_call 26; refine (laws_toFile _ _ _ _ _ _ fb _ _ (Hr.out.below Hx3.out.below) hl).mono ?_; rintro _ w4 ⟨v4, rfl, ho4, hb4⟩; have Hx4 := Lib.hid (Hx3.out.step hb4); obtain ⟨b0, b1, b2, b3, b4, b5⟩ := six Hx4.out; obtain ⟨a9, c9, rfl⟩ := owns_shape ho4; unfold filV; dsimp only)
    have Ho4 := Lib.hid (show StmsIn w4 (fun _ => True) (.slice a9 fb.length c9) fb from StmsIn.of_owns ho4 (fun _ _ => trivial))
    clear ho4 hb4 a0 a1 a2 a3 a4 a5
    go_wp2_with (go_at_call 27; refine (impl_ModuleOf _ _ _ _ _ _ fb (fun _ => True) _ (by omega) (by omega) (Ho4.out.below (by (repeat (with_reducible first | exact Below.refl _ _ | assumption | refine ba ?_ _ | refine bd ?_ | refine bdN ?_ _ | refine bs ?_ (by first | exact Nat.le_refl _ | (dsimp only; omega) | (simp; done)) _ | refine bt ?_ (by assumption))))) Hs8.out).mono ?_; rintro _ w5 ⟨rfl, hb5⟩; have Hy5 := Lib.hid ((Boxed.start w4 _ 45).step hb5); have Hx5 := Lib.hid (Hx4.out.step Hy5.out.below); obtain ⟨a0, a1, a2, a3, a4, a5⟩ := six Hx5.out; obtain ⟨d0, d1, d2, d3, d4, d5⟩ := six Hy5.out)
    have Ho5 := Lib.hid (Ho4.out.below Hy5.out.below)
    have hlA := Hx5.out.lt
    have hlB := Hy5.out.lt
    clear hb5 b0 b1 b2 b3 b4 b5
    have Hse := Lib.hid (show sameFil ⟨fr, fp, fn, fi, fst, fb⟩ ⟨fr, fp, fn, fi, fst, fb⟩ = true from decide_eq_true rfl)
    generalize modOf ⟨fr, fp, fn, fi, fst, fb⟩ = ok at *
    have Hk := Lib.hid (fun (w' : World) (hB : Below w5.heap.size w5 w') => (⟨(hB.cell (p := ⟨w.heap.size, 0, none⟩) hlA).trans a0, (hB.cell (p := ⟨w.heap.size, 1, none⟩) hlA).trans a1, (hB.cell (p := ⟨w.heap.size, 2, none⟩) hlA).trans a2, (hB.cell (p := ⟨w.heap.size, 3, none⟩) hlA).trans a3, (hB.cell (p := ⟨w.heap.size, 4, none⟩) hlA).trans a4, (hB.cell (p := ⟨w.heap.size, 5, none⟩) hlA).trans a5,
        (hB.cell (p := ⟨w4.heap.size, 0, none⟩) hlB).trans d0, (hB.cell (p := ⟨w4.heap.size, 1, none⟩) hlB).trans d1, (hB.cell (p := ⟨w4.heap.size, 2, none⟩) hlB).trans d2, (hB.cell (p := ⟨w4.heap.size, 3, none⟩) hlB).trans d3, (hB.cell (p := ⟨w4.heap.size, 4, none⟩) hlB).trans d4, (hB.cell (p := ⟨w4.heap.size, 5, none⟩) hlB).trans d5, hB⟩ :
      w'.cell? ⟨w.heap.size, 0, none⟩ = some (.int .i64 fr) ∧ w'.cell? ⟨w.heap.size, 1, none⟩ = some (.string (mk fp)) ∧ w'.cell? ⟨w.heap.size, 2, none⟩ = some (.string (mk fn)) ∧ w'.cell? ⟨w.heap.size, 3, none⟩ = some (.bool fi) ∧ w'.cell? ⟨w.heap.size, 4, none⟩ = some (.int .i64 fst) ∧ w'.cell? ⟨w.heap.size, 5, none⟩ = some (.slice aa fb.length ca) ∧
      w'.cell? ⟨w4.heap.size, 0, none⟩ = some (.int .i64 fr) ∧ w'.cell? ⟨w4.heap.size, 1, none⟩ = some (.string (mk fp)) ∧ w'.cell? ⟨w4.heap.size, 2, none⟩ = some (.string (mk fn)) ∧ w'.cell? ⟨w4.heap.size, 3, none⟩ = some (.bool fi) ∧ w'.cell? ⟨w4.heap.size, 4, none⟩ = some (.int .i64 fst) ∧ w'.cell? ⟨w4.heap.size, 5, none⟩ = some (.slice a9 fb.length c9) ∧ Below w5.heap.size w5 w'))
    go_wp2_with fail
    go_region_held3 (fun w' => w'.cell? ⟨w.heap.size, 0, none⟩ = some (.int .i64 fr) ∧ w'.cell? ⟨w.heap.size, 1, none⟩ = some (.string (mk fp)) ∧ w'.cell? ⟨w.heap.size, 2, none⟩ = some (.string (mk fn)) ∧ w'.cell? ⟨w.heap.size, 3, none⟩ = some (.bool fi) ∧ w'.cell? ⟨w.heap.size, 4, none⟩ = some (.int .i64 fst) ∧ w'.cell? ⟨w.heap.size, 5, none⟩ = some (.slice aa fb.length ca) ∧
      w'.cell? ⟨w4.heap.size, 0, none⟩ = some (.int .i64 fr) ∧ w'.cell? ⟨w4.heap.size, 1, none⟩ = some (.string (mk fp)) ∧ w'.cell? ⟨w4.heap.size, 2, none⟩ = some (.string (mk fn)) ∧ w'.cell? ⟨w4.heap.size, 3, none⟩ = some (.bool fi) ∧ w'.cell? ⟨w4.heap.size, 4, none⟩ = some (.int .i64 fst) ∧ w'.cell? ⟨w4.heap.size, 5, none⟩ = some (.slice a9 fb.length c9) ∧ Below w5.heap.size w5 w')
      (exact Hk.out _ (by (repeat (with_reducible first | exact Below.refl _ _ | assumption | refine ba ?_ _ | refine bd ?_ | refine bdN ?_ _ | refine bs ?_ (by first | exact Nat.le_refl _ | (dsimp only; omega) | (simp; done)) _ | refine bt ?_ (by assumption)))))
      (first
        | (go_at_call 26; refine (laws_toFile _ _ _ _ _ _ fb _ _ (Hr.out.below (bt Hx5.out.below (by (repeat (with_reducible first | exact Below.refl _ _ | assumption | refine ba ?_ _ | refine bd ?_ | refine bdN ?_ _ | refine bs ?_ (by first | exact Nat.le_refl _ | (dsimp only; omega) | (simp; done)) _ | refine bt ?_ (by assumption)))))) hl).mono ?_; rintro _ w6 ⟨v6, rfl, ho6, hb6⟩; have Ho6 := Lib.hid (show StmsIn w6 (fun _ => True) v6 fb from StmsIn.of_owns ho6 (fun _ _ => trivial)); clear ho6; unfold filV; dsimp only)
        | (go_at_call 28; refine (laws_eqFile _ _ _ _ _ _ fb _ _ _ _ _ _ fb (fun _ => True) (fun _ => True) _ (Ho5.out.below (by (repeat (with_reducible first | exact Below.refl _ _ | assumption | refine ba ?_ _ | refine bd ?_ | refine bdN ?_ _ | refine bs ?_ (by first | exact Nat.le_refl _ | (dsimp only; omega) | (simp; done)) _ | refine bt ?_ (by assumption))))) (Ho6.out.below (by (repeat (with_reducible first | exact Below.refl _ _ | assumption | refine ba ?_ _ | refine bd ?_ | refine bdN ?_ _ | refine bs ?_ (by first | exact Nat.le_refl _ | (dsimp only; omega) | (simp; done)) _ | refine bt ?_ (by assumption)))))).mono ?_; rintro _ w7 ⟨rfl, hb7⟩; rw [Hse.out]))
    all_goals
      go_wp2_with fail
      go_ret
      exact ⟨rfl, bt Hx5.out.below (by (repeat (with_reducible first | exact Below.refl _ _ | assumption | refine ba ?_ _ | refine bd ?_ | refine bdN ?_ _ | refine bs ?_ (by first | exact Nat.le_refl _ | (dsimp only; omega) | (simp; done)) _ | refine bt ?_ (by assumption))))⟩

/-! ### THE STEP TO THE ROW -/
set_option maxRecDepth 100000 in
theorem lifted (os : Os) (started : os.Started) (H : Type) (enc : TypeId × Value → H) :
    ReturnsInHanded {} Try.checked os 5 .any (Rows.fnExactModuleOfSpec.pre6 enc Try.prog Try.f5 Rows.fnExactModuleOfRow.domain false) (Rows.fnExactModuleOfSpec.post enc Try.prog Try.f5 false true false false) := by
  refine returnsInHanded_of_change (C := Try.checked) own started (by kernel_rfl) Try.func5
    (ChangeSpec.witness6 (enc := enc) (C := Try.checked) false ⟨#[], #[.agg #[.int .i64 0, .string ByteArray.empty, .string ByteArray.empty, .bool false, .int .i64 0, .slice none 0 0]], []⟩ 8 (by kernel_rfl) (by kernel_rfl) (by kernel_rfl) (by kernel_rfl)) ?_
  intro W base args ds gs before hval0 hW hcnd _
  have hval : ∀ (j : Nat) t v, Try.f5.params[j]? = some t → args[j]? = some v → Value.okWide Try.prog W .any base t v := hval0
  have hW' := hW
  obtain ⟨p, q, hA0, hV, rfl, hfz, hnd⟩ := hW
  have hA : DataW.TrodAll enc Try.prog W 0 (fun _ => true) true Try.f5.params.toList args.toList ds p := hA0
  rw [Try.params5] at hA hval
  obtain ⟨v0, vs0, d0, ds0, p0, q0, hargs, rfl, rfl, h0, r0⟩ := trodAll_cons hA
  obtain ⟨rfl, rfl, rfl⟩ := trodAll_nil r0
  obtain rfl : args = #[v0] := by cases args; simp_all
  obtain ⟨rfl, rfl⟩ := trodVars_none hV
  obtain ⟨cs0, rfl, _⟩ := okWide_struct Try.underlying41 (hval 0 41 v0 rfl rfl)
  have k0 := h0
  have lt0 : ∀ x ∈ p0, x.block < W.heap.size := by obtain ⟨m, hm⟩ := k0; exact DataW.trod_lt m _ _ _ hm
  obtain ⟨f0, bv0, et0, w0⟩ : ∃ f bv, cs0 = (filOf f bv).toArray ∧ StmsIn W (fun _ => True) bv f.body ∧ ShortF maxLen f := by
    obtain ⟨fuel, hf⟩ := h0
    obtain ⟨f, bv, e0, e1, e2⟩ := read_fil hf
    exact ⟨f, bv, by rw [← Array.toList_inj]; simpa [Value.cells] using e0, e1, e2⟩
  subst et0
  clear hA0 hval0
  refine (walk f0 bv0 W w0).mono fun e W' ⟨he, bel⟩ => ?_
  subst he
  exact ⟨_, rfl, _, _, _, [], _, [], hW', trodAll_mk1 (shut_bool Try.underlying4 _), (trodAll_cons_mk (Below.trod laidOut (by kernel_rfl) (of_decide_eq_true (by kernel_rfl)) k0 bel lt0) trodAll_mk0), rfl, bel.frame _, fun h => by cases h⟩

theorem over : Rows.fnExactModuleOfRow.holds Try.pinned (OpenSpec.ofChange Rows.fnExactModuleOfSpec) :=
  OpenClaim.holds_of_wide 5 Try.f5 rfl rfl rfl rfl rfl rfl rfl ⟨rfl, rfl, rfl, rfl, rfl⟩ rfl rfl rfl rfl rfl (by kernel_rfl) Try.func5 (by kernel_rfl)
    (of_decide_eq_true (by kernel_rfl)) (by unfold Func.isWrapper; first | (rw [if_pos (by decide +kernel)]; kernel_rfl) | (rw [if_neg (by decide +kernel)]; exact ⟨rfl, rfl⟩))
    (fun os started H enc _ => lifted os started H enc)

/-- THE STATEMENT -/
theorem proved : Rows.FnExactModuleOfSaid := over
end Go.Proofs.Ythpegpakdofhfaa.FnExactModuleOf
