/- FnExactHasDir returns true for every argument. -/
import Derived.Test.YthpegpakdofhfaaDirs2
import Derived.Test.YthpegpakdofhfaaEqTree
import Derived.Test.YthpegpakdofhfaaSzTree
import Derived.Test.YthpegpakdofhfaaToTree
import Derived.Test.YthpegpakdofhfaaReadIn
import Derived.Test.YthpegpakdofhfaaFrame
set_option linter.unusedVariables false
set_option linter.unusedSimpArgs false
namespace Go.Proofs.Ythpegpakdofhfaa.FnExactHasDir
open Go.ChangeShapes Go.WideShapes Go.ChangeAt Go.RowKit Go.Proofs.Ythpegpakdofhfaa.Nm
open Go.ChangeMaps (open_string shut_string)

set_option maxRecDepth 100000 in
set_option maxHeartbeats 1000000 in
theorem walk (v : Value) (fs : List Fil) (root : Int) (p : Bs) (w : World) (h : FilsIn w (fun _ => True) v fs ∧ ShortT maxLen fs) (hroot : (Lit.int .i64 root).wf = true) (hp : p.length ≤ maxLen) :
    Calls Try.prog 9 #[.agg #[v], .int .i64 root, .string (mk p)] w fun e w' => e = .returned (.bool true) ∧ Below w.heap.size w w' := by
  obtain ⟨hr, hz⟩ := h
  have Hr := Lib.hid hr
  have Hz := Lib.hid hz
  obtain ⟨aa, ca, rfl, hlc, hm⟩ := hr.len
  clear hr hz hm
  unfold maxLen at hp
  by_cases hn0 : (1048576 : Int) < (p.length : Int)
  · go_enter Try.func9, Try.ntmps9
    go_wp2_with fail
    go_ret
    exact ⟨rfl, by (repeat (with_reducible first | exact Below.refl _ _ | assumption | refine ba ?_ _ | refine bd ?_ | refine bdN ?_ _ | refine bs ?_ (by first | exact Nat.le_refl _ | (dsimp only; omega) | (simp; done)) _ | refine bt ?_ (by assumption)))⟩
  go_enter Try.func9, Try.ntmps9
  go_wp2_with (go_at_call 19; refine (laws_szTree _ fs _ 1048576 _ (Hr.out.below (by (repeat (with_reducible first | exact Below.refl _ _ | assumption | refine ba ?_ _ | refine bd ?_ | refine bdN ?_ _ | refine bs ?_ (by first | exact Nat.le_refl _ | (dsimp only; omega) | (simp; done)) _ | refine bt ?_ (by assumption))))) Hz.out (by omega)).mono ?_; rintro _ w1 ⟨r, rfl, hr, hb1⟩; have Hx1 := Lib.hid ((Boxed.start w #[.slice aa fs.length ca] 31).step hb1); have hA1 : w1.cell? ⟨w.heap.size, 0, none⟩ = some (.slice aa fs.length ca) := Hx1.out.cell 0)
  · go_ret
    exact ⟨rfl, Hx1.out.below⟩
  · have hc : filsCost fs ≤ 1048576 := by omega
    have Hl := Lib.hid (costs_of hc)
    have Hs8 := Lib.hid (shortT_mono (B := 2000000) (by omega) (shortT_of hc))
    have Hs3 := Lib.hid (shortT_mono (B := 3000000) (by omega) (shortT_of hc))
    have Hb1 := Lib.hid hb1
    clear hr hc hb1
    go_wp2_with (go_at_call 21; refine (laws_toTree _ fs _ _ (Hr.out.below Hx1.out.below) Hl.out).mono ?_; rintro _ w2 ⟨v2, ps2, rfl, hp2, ho2, hb2⟩; have Hx2 := Lib.hid (Hx1.out.step hb2); have hA2 : w2.cell? ⟨w.heap.size, 0, none⟩ = some (.slice aa fs.length ca) := Hx2.out.cell 0)
    have Ho2 := Lib.hid (show FilsIn w2 (fun _ => True) v2 fs by rw [← hp2]; exact ho2.fils (fun _ _ => trivial))
    clear ho2 hp2 hb2 hA1
    go_wp2_with (go_at_call 39; refine (spec_HasDir _ fs (fun _ => True) root p _ Ho2.out Hs8.out (by omega)).mono ?_; rintro _ w3 ⟨rfl, hb3⟩; have Hx3 := Lib.hid (Hx2.out.step hb3); have hA3 : w3.cell? ⟨w.heap.size, 0, none⟩ = some (.slice aa fs.length ca) := Hx3.out.cell 0)
    clear hb3 hA2
    go_wp2_with (go_at_call 21; refine (laws_toTree _ fs _ _ (Hr.out.below Hx3.out.below) Hl.out).mono ?_; rintro _ w4 ⟨v4, ps4, rfl, hp4, ho4, hb4⟩; have Hx4 := Lib.hid (Hx3.out.step hb4); have hA4 : w4.cell? ⟨w.heap.size, 0, none⟩ = some (.slice aa fs.length ca) := Hx4.out.cell 0; obtain ⟨a4, c4, rfl⟩ := ho4.len; have hpl : ps4.length = fs.length := (by rw [← hp4, List.length_map]); rw [hpl] at ho4 ⊢)
    have Ho4 := Lib.hid (show FilsIn w4 (fun _ => True) (.slice a4 fs.length c4) fs by rw [← hp4]; rw [hp4]; exact (by have h := ho4.fils (D := fun _ => True) (fun _ _ => trivial); rw [hp4] at h; exact h))
    clear ho4 hp4 hb4 hA3 hpl
    go_wp2_with (go_at_call 40; refine (impl_HasDir _ fs (fun _ => True) root p _ (Ho4.out.below (by (repeat (with_reducible first | exact Below.refl _ _ | assumption | refine ba ?_ _ | refine bd ?_ | refine bdN ?_ _ | refine bs ?_ (by first | exact Nat.le_refl _ | (dsimp only; omega) | (simp; done)) _ | refine bt ?_ (by assumption))))) Hs8.out (by omega)).mono ?_; rintro _ w5 ⟨rfl, hb5⟩; have Hy5 := Lib.hid ((Boxed.start w4 #[.slice a4 fs.length c4] 36).step hb5); have hB5 : w5.cell? ⟨w4.heap.size, 0, none⟩ = some (.slice a4 fs.length c4) := Hy5.out.cell 0; have Hx5 := Lib.hid (Hx4.out.step Hy5.out.below); have hA5 : w5.cell? ⟨w.heap.size, 0, none⟩ = some (.slice aa fs.length ca) := Hx5.out.cell 0)
    have Ho5 := Lib.hid (Ho4.out.below Hy5.out.below)
    have hlA := Hx5.out.lt
    have hlB := Hy5.out.lt
    clear hA4 hb5
    have Hk := Lib.hid (fun (w' : World) (hB : Below w5.heap.size w5 w') => (⟨(hB.cell (p := ⟨w.heap.size, 0, none⟩) hlA).trans hA5, (hB.cell (p := ⟨w4.heap.size, 0, none⟩) hlB).trans hB5, hB⟩ : w'.cell? ⟨w.heap.size, 0, none⟩ = some (.slice aa fs.length ca) ∧ w'.cell? ⟨w4.heap.size, 0, none⟩ = some (.slice a4 fs.length c4) ∧ Below w5.heap.size w5 w'))
    generalize hasDir fs root p = ok at *
    have Hse := Lib.hid (show sameFils fs fs = true from decide_eq_true rfl)
    go_wp2_with fail
    go_region_held3 (fun w' => w'.cell? ⟨w.heap.size, 0, none⟩ = some (.slice aa fs.length ca) ∧ w'.cell? ⟨w4.heap.size, 0, none⟩ = some (.slice a4 fs.length c4) ∧ Below w5.heap.size w5 w')
      (exact Hk.out _ (by (repeat (with_reducible first | exact Below.refl _ _ | assumption | refine ba ?_ _ | refine bd ?_ | refine bdN ?_ _ | refine bs ?_ (by first | exact Nat.le_refl _ | (dsimp only; omega) | (simp; done)) _ | refine bt ?_ (by assumption)))))
      (first
        | (go_at_call 21; refine (laws_toTree _ fs _ _ (Hr.out.below (bt Hx5.out.below (by (repeat (with_reducible first | exact Below.refl _ _ | assumption | refine ba ?_ _ | refine bd ?_ | refine bdN ?_ _ | refine bs ?_ (by first | exact Nat.le_refl _ | (dsimp only; omega) | (simp; done)) _ | refine bt ?_ (by assumption)))))) Hl.out).mono ?_; rintro _ w6 ⟨v6, ps6, rfl, hp6, ho6, hb6⟩; have Ho6 := Lib.hid (show FilsIn w6 (fun _ => True) v6 fs by (have h := ho6.fils (D := fun _ => True) (fun _ _ => trivial); rw [hp6] at h; exact h)); clear ho6 hp6)
        | (go_at_call 23; refine (laws_eqTree _ _ fs fs (fun _ => True) (fun _ => True) _ (Ho5.out.below (by (repeat (with_reducible first | exact Below.refl _ _ | assumption | refine ba ?_ _ | refine bd ?_ | refine bdN ?_ _ | refine bs ?_ (by first | exact Nat.le_refl _ | (dsimp only; omega) | (simp; done)) _ | refine bt ?_ (by assumption))))) (Ho6.out.below (by (repeat (with_reducible first | exact Below.refl _ _ | assumption | refine ba ?_ _ | refine bd ?_ | refine bdN ?_ _ | refine bs ?_ (by first | exact Nat.le_refl _ | (dsimp only; omega) | (simp; done)) _ | refine bt ?_ (by assumption)))))).mono ?_; rintro _ w7 ⟨rfl, hb7⟩; rw [Hse.out]))
    all_goals
      go_wp2_with fail
      go_ret
      exact ⟨rfl, bt Hx5.out.below (by (repeat (with_reducible first | exact Below.refl _ _ | assumption | refine ba ?_ _ | refine bd ?_ | refine bdN ?_ _ | refine bs ?_ (by first | exact Nat.le_refl _ | (dsimp only; omega) | (simp; done)) _ | refine bt ?_ (by assumption))))⟩

/-! ### THE STEP TO THE ROW -/
set_option maxRecDepth 100000 in
theorem lifted (os : Os) (started : os.Started) (H : Type) (enc : TypeId × Value → H) :
    ReturnsInHanded {} Try.checked os 9 .any (Rows.fnExactHasDirSpec.pre6 enc Try.prog Try.f9 Rows.fnExactHasDirRow.domain false) (Rows.fnExactHasDirSpec.post enc Try.prog Try.f9 false true false false) := by
  refine returnsInHanded_of_change (C := Try.checked) own started (by kernel_rfl) Try.func9
    (ChangeSpec.witness6 (enc := enc) (C := Try.checked) false ⟨#[], #[.agg #[.slice none 0 0], .int .i64 0, .string ByteArray.empty], []⟩ 8 (by kernel_rfl) (by kernel_rfl) (by kernel_rfl) (by kernel_rfl)) ?_
  intro W base args ds gs before hval0 hW hcnd _
  have hval : ∀ (j : Nat) t v, Try.f9.params[j]? = some t → args[j]? = some v → Value.okWide Try.prog W .any base t v := hval0
  have hW' := hW
  obtain ⟨p, q, hA0, hV, rfl, hfz, hnd⟩ := hW
  have hA : DataW.TrodAll enc Try.prog W 0 (fun _ => true) true Try.f9.params.toList args.toList ds p := hA0
  rw [Try.params9] at hA hval
  obtain ⟨v0, vs0, d0, ds0, p0, q0, hargs, rfl, rfl, h0, r0⟩ := trodAll_cons hA
  obtain ⟨v1, vs1, d1, ds1, p1, q1, rfl, rfl, rfl, h1, r1⟩ := trodAll_cons r0
  obtain ⟨v2, vs2, d2, ds2, p2, q2, rfl, rfl, rfl, h2, r2⟩ := trodAll_cons r1
  obtain ⟨rfl, rfl, rfl⟩ := trodAll_nil r2
  obtain rfl : args = #[v0, v1, v2] := by cases args; simp_all
  obtain ⟨rfl, rfl⟩ := trodVars_none hV
  obtain ⟨cs0, rfl, _⟩ := okWide_struct Try.underlying31 (hval 0 31 v0 rfl rfl)
  have k0 := h0
  have lt0 : ∀ x ∈ p0, x.block < W.heap.size := by obtain ⟨m, hm⟩ := k0; exact DataW.trod_lt m _ _ _ hm
  obtain ⟨xs0, tv0, et0, w0⟩ : ∃ fs tv, cs0 = #[tv] ∧ FilsIn W (fun _ => True) tv fs ∧ ShortT maxLen fs := by
    obtain ⟨fuel, hf⟩ := h0
    obtain ⟨a', len', cap', fs, e0, e1, e2⟩ := read_tree hf
    exact ⟨fs, _, by rw [← Array.toList_inj]; simpa [Value.cells] using e0, e1, e2⟩
  subst et0
  obtain ⟨n1, rfl, rfl, rfl, w1⟩ := open_int Try.underlying3 (hval 1 3 v1 rfl rfl) h1
  obtain ⟨s2, rfl, rfl, rfl, ws2⟩ := open_string Try.underlying9 (hval 2 9 v2 rfl rfl) h2
  obtain ⟨l2, hl2⟩ := mk_of s2
  have w2 : l2.length ≤ maxLen := by rw [← mk_size, ← hl2]; exact ws2
  clear hA0 hval0
  rw [hl2]
  refine (walk tv0 xs0 n1 l2 W w0 w1 w2).mono fun e W' ⟨he, bel⟩ => ?_
  subst he
  rw [← hl2]
  exact ⟨_, rfl, _, _, _, [], _, [], hW', trodAll_mk1 (shut_bool Try.underlying4 _), (trodAll_cons_mk (Below.trod laidOut (by kernel_rfl) (of_decide_eq_true (by kernel_rfl)) k0 bel lt0) (trodAll_cons_mk (shut_int Try.underlying3 w1) (trodAll_cons_mk (shut_string Try.underlying9 ws2) trodAll_mk0))), rfl, bel.frame _, fun h => by cases h⟩

theorem over : Rows.fnExactHasDirRow.holds Try.pinned (OpenSpec.ofChange Rows.fnExactHasDirSpec) :=
  OpenClaim.holds_of_wide 9 Try.f9 rfl rfl rfl rfl rfl rfl rfl ⟨rfl, rfl, rfl, rfl, rfl⟩ rfl rfl rfl rfl rfl (by kernel_rfl) Try.func9 (by kernel_rfl)
    (of_decide_eq_true (by kernel_rfl)) (by unfold Func.isWrapper; first | (rw [if_pos (by decide +kernel)]; kernel_rfl) | (rw [if_neg (by decide +kernel)]; exact ⟨rfl, rfl⟩))
    (fun os started H enc _ => lifted os started H enc)

/-- THE STATEMENT -/
theorem proved : Rows.FnExactHasDirSaid := over
end Go.Proofs.Ythpegpakdofhfaa.FnExactHasDir
