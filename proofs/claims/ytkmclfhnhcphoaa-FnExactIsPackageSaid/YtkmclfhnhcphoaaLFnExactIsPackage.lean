/- FnExactIsPackage returns true for every argument. -/
import Derived.Test.YtkmclfhnhcphoaaSLooks
import Derived.Test.YtkmclfhnhcphoaaSzTree
import Derived.Test.YtkmclfhnhcphoaaReadIn
import Derived.Test.YtkmclfhnhcphoaaFrame
set_option linter.unusedVariables false
set_option linter.unusedSimpArgs false
namespace Go.Proofs.Ytkmclfhnhcphoaa.FnExactIsPackage
open Go.ChangeShapes Go.WideShapes Go.ChangeAt Go.RowKit Go.Proofs.Ytkmclfhnhcphoaa.Nm
open Go.ChangeMaps (open_string shut_string)

set_option maxRecDepth 100000 in
set_option maxHeartbeats 4000000 in
theorem walk (v : Value) (fs : List Fil) (pv : Value) (path : List Int) (s : Bs) (w : World) (h : FilsIn w (fun _ => True) v fs ∧ ShortT maxLen fs) (hp : IntsIn w pv path) (hs : s.length ≤ maxLen) :
    Calls Try.prog 11 #[.agg #[v], pv, .string (mk s)] w fun e w' => e = .returned (.bool true) ∧ Below w.heap.size w w' := by
  obtain ⟨hr, hz⟩ := h
  have Hr := Lib.hid hr
  have Hz := Lib.hid hz
  have Hp := Lib.hid hp
  obtain ⟨aa, ca, rfl, hlc, hm⟩ := hr.len
  obtain ⟨pa, pc, rfl, hpl, hpm⟩ := hp.len
  clear hr hz hm hp hpm
  unfold maxLen at hs
  by_cases hn0 : (1048576 : Int) < (path.length : Int)
  · go_enter Try.func11, Try.ntmps11
    go_wp2_with fail
    go_ret
    exact ⟨rfl, by (repeat (with_reducible first | exact Below.refl _ _ | assumption | refine ba ?_ _ | refine bd ?_ | refine bdN ?_ _ | refine bs ?_ (by first | exact Nat.le_refl _ | (dsimp only; omega) | (simp; done)) _ | refine bt ?_ (by assumption)))⟩
  have hq0 : path.length ≤ 1048576 := by omega
  by_cases hn1 : (1048576 : Int) < (s.length : Int)
  · go_enter Try.func11, Try.ntmps11
    go_wp2_with fail
    go_ret
    exact ⟨rfl, by (repeat (with_reducible first | exact Below.refl _ _ | assumption | refine ba ?_ _ | refine bd ?_ | refine bdN ?_ _ | refine bs ?_ (by first | exact Nat.le_refl _ | (dsimp only; omega) | (simp; done)) _ | refine bt ?_ (by assumption)))⟩
  go_enter Try.func11, Try.ntmps11
  go_wp2_with (go_at_call 12; refine (laws_szTree _ fs _ 1048576 _ (Hr.out.below (by (repeat (with_reducible first | exact Below.refl _ _ | assumption | refine ba ?_ _ | refine bd ?_ | refine bdN ?_ _ | refine bs ?_ (by first | exact Nat.le_refl _ | (dsimp only; omega) | (simp; done)) _ | refine bt ?_ (by assumption))))) Hz.out (by omega)).mono ?_; rintro _ w1 ⟨r, rfl, hr, hb1⟩; have Hx1 := Lib.hid ((Boxed.start w #[.slice aa fs.length ca] 24).step hb1); have hA : w1.cell? ⟨w.heap.size, 0, none⟩ = some (.slice aa fs.length ca) := Hx1.out.cell 0)
  · go_ret
    exact ⟨rfl, Hx1.out.below⟩
  · have hc : filsCost fs ≤ 1048576 := by omega
    have Hl := Lib.hid (costs_of hc)
    have Hs2 := Lib.hid (shortT_mono (B := 2000000) (by omega) (shortT_of hc))
    clear hr hc hb1
    go_wp2_with (go_at_call 15; refine (laws_toTree _ fs _ _ (Hr.out.below Hx1.out.below) Hl.out).mono ?_; rintro _ w2 ⟨v2, ps2, rfl, hp2, ho2, hb2⟩; have Hx2 := Lib.hid (Hx1.out.step hb2); have Ho2 := Lib.hid (show FilsIn w2 (fun _ => True) v2 fs by rw [← hp2]; exact ho2.fils (fun _ _ => trivial)); clear ho2 hp2 hb2 hA; have hA : w2.cell? ⟨w.heap.size, 0, none⟩ = some (.slice aa fs.length ca) := Hx2.out.cell 0)
    go_wp2_with (go_at_call 32; refine (laws_toIntS _ path _ (Hp.out.below Hx2.out.below) hq0).mono ?_; rintro _ w3 ⟨v3, rfl, hown3, hb3⟩; have H3 := Lib.hid (IntsIn.of_owns hown3); have Ho3 := Lib.hid (Ho2.out.below hb3); have Hx3 := Lib.hid (Hx2.out.step hb3); clear hown3 hb3 hA; have hA : w3.cell? ⟨w.heap.size, 0, none⟩ = some (.slice aa fs.length ca) := Hx3.out.cell 0)
    go_wp2_with (go_at_call 48; refine (spec_IsPackage _ fs (fun _ => True) _ path s _ Ho3.out Hs2.out H3.out (by omega)).mono ?_; rintro _ w4 ⟨rfl, hb4⟩; have Hx4 := Lib.hid (Hx3.out.step hb4); clear hA hb4; have hA : w4.cell? ⟨w.heap.size, 0, none⟩ = some (.slice aa fs.length ca) := Hx4.out.cell 0)
    go_wp2_with (go_at_call 15; refine (laws_toTree _ fs _ _ (Hr.out.below Hx4.out.below) Hl.out).mono ?_; rintro _ w5 ⟨v5, ps5, rfl, hp5, ho5, hb5⟩; have Hx5 := Lib.hid (Hx4.out.step hb5); clear hA; have hA : w5.cell? ⟨w.heap.size, 0, none⟩ = some (.slice aa fs.length ca) := Hx5.out.cell 0; obtain ⟨a5, c5, rfl⟩ := ho5.len; have hpl5 : ps5.length = fs.length := (by rw [← hp5, List.length_map]); rw [hpl5] at ho5 ⊢)
    have Ho5 := Lib.hid (show FilsIn w5 (fun _ => True) (.slice a5 fs.length c5) fs by have h := ho5.fils (D := fun _ => True) (fun _ _ => trivial); rw [hp5] at h; exact h)
    have Hy5 := Lib.hid (Boxed.start w5 #[.slice a5 fs.length c5] 32)
    have hz5 := Hx5.out.lt
    clear ho5 hp5 hb5 hpl5
    go_wp2_with (go_at_call 32; refine (laws_toIntS _ path _ (Hp.out.below (bt Hx5.out.below Hy5.out.below)) hq0).mono ?_; rintro _ w6 ⟨v6, rfl, hown6, hb6⟩; obtain ⟨a6, c6, hv6⟩ := owns_shape hown6; subst hv6; have H6 := Lib.hid (IntsIn.of_owns hown6); have Hy6 := Lib.hid (Hy5.out.step hb6); have Hx6 := Lib.hid (Hx5.out.step Hy6.out.below); clear hown6 hb6 hA; have hA : w6.cell? ⟨w.heap.size, 0, none⟩ = some (.slice aa fs.length ca) := Hx6.out.cell 0; have hB : w6.cell? ⟨w5.heap.size, 0, none⟩ = some (.slice a5 fs.length c5) := Hy6.out.cell 0)
    go_wp2_with (go_at_call 49; refine (impl_IsPackage _ fs (fun _ => True) _ path s _ (Ho5.out.below Hy6.out.below) Hs2.out H6.out (by omega)).mono ?_; rintro _ w7 ⟨rfl, hb7⟩; have H7 := Lib.hid (H6.out.below hb7); have Hy7 := Lib.hid (Hy6.out.step hb7); have Hx7 := Lib.hid (Hx6.out.step hb7); clear hb7 hA hB; have hA : w7.cell? ⟨w.heap.size, 0, none⟩ = some (.slice aa fs.length ca) := Hx7.out.cell 0; have hB : w7.cell? ⟨w5.heap.size, 0, none⟩ = some (.slice a5 fs.length c5) := Hy7.out.cell 0)
    have Ho7 := Lib.hid (Ho5.out.below Hy7.out.below)
    have hlA := Hx7.out.lt
    have hlB := Hy7.out.lt
    have Hk := Lib.hid (fun (w' : World) (hC : Below w7.heap.size w7 w') => (⟨(hC.cell (p := ⟨w.heap.size, 0, none⟩) hlA).trans hA, (hC.cell (p := ⟨w5.heap.size, 0, none⟩) hlB).trans hB, hC⟩ : w'.cell? ⟨w.heap.size, 0, none⟩ = some (.slice aa fs.length ca) ∧ w'.cell? ⟨w5.heap.size, 0, none⟩ = some (.slice a5 fs.length c5) ∧ Below w7.heap.size w7 w'))
    generalize isPack fs path s = ok at *
    have Hse := Lib.hid (show sameFils fs fs = true from decide_eq_true rfl)
    clear hA hB
    go_wp2_with fail
    go_region_held3 (fun w' => w'.cell? ⟨w.heap.size, 0, none⟩ = some (.slice aa fs.length ca) ∧ w'.cell? ⟨w5.heap.size, 0, none⟩ = some (.slice a5 fs.length c5) ∧ Below w7.heap.size w7 w')
      (exact Hk.out _ (by (repeat (with_reducible first | exact Below.refl _ _ | assumption | refine ba ?_ _ | refine bd ?_ | refine bdN ?_ _ | refine bs ?_ (by first | exact Nat.le_refl _ | (dsimp only; omega) | (simp; done)) _ | refine bt ?_ (by assumption)))))
      (first
        | (go_at_call 15; refine (laws_toTree _ fs _ _ (Hr.out.below (bt Hx7.out.below (by (repeat (with_reducible first | exact Below.refl _ _ | assumption | refine ba ?_ _ | refine bd ?_ | refine bdN ?_ _ | refine bs ?_ (by first | exact Nat.le_refl _ | (dsimp only; omega) | (simp; done)) _ | refine bt ?_ (by assumption)))))) Hl.out).mono ?_; rintro _ w8 ⟨v8, ps8, rfl, hp8, ho8, hb8⟩; have Ho8 := Lib.hid (show FilsIn w8 (fun _ => True) v8 fs by (have h := ho8.fils (D := fun _ => True) (fun _ _ => trivial); rw [hp8] at h; exact h)); clear ho8 hp8)
        | (go_at_call 18; refine (laws_eqTree _ _ fs fs (fun _ => True) (fun _ => True) _ (Ho7.out.below (by (repeat (with_reducible first | exact Below.refl _ _ | assumption | refine ba ?_ _ | refine bd ?_ | refine bdN ?_ _ | refine bs ?_ (by first | exact Nat.le_refl _ | (dsimp only; omega) | (simp; done)) _ | refine bt ?_ (by assumption))))) (Ho8.out.below (by (repeat (with_reducible first | exact Below.refl _ _ | assumption | refine ba ?_ _ | refine bd ?_ | refine bdN ?_ _ | refine bs ?_ (by first | exact Nat.le_refl _ | (dsimp only; omega) | (simp; done)) _ | refine bt ?_ (by assumption)))))).mono ?_; rintro _ w9 ⟨rfl, hb9⟩; rw [Hse.out]))
    have Hb9 := Lib.hid (show Below w7.heap.size w7 w9 by (repeat (with_reducible first | exact Below.refl _ _ | assumption | refine ba ?_ _ | refine bd ?_ | refine bdN ?_ _ | refine bs ?_ (by first | exact Nat.le_refl _ | (dsimp only; omega) | (simp; done)) _ | refine bt ?_ (by assumption))))
    go_wp2_with (go_at_call 32; refine (laws_toIntS _ path _ (Hp.out.below (bt Hx7.out.below Hb9.out)) hq0).mono ?_; rintro _ w10 ⟨v10, rfl, hown10, hb10⟩; have H10 := Lib.hid (IntsIn.of_owns hown10); have Hb10 := Lib.hid (bt Hb9.out hb10); clear hown10 hb10)
    go_wp2_with (go_at_call 35; refine (laws_eqIntS _ _ path path _ (H7.out.below Hb10.out) H10.out).mono ?_; rintro _ w11 ⟨rfl, hb11⟩; rw [decide_eq_true (rfl : path = path)])
    go_ret
    exact ⟨rfl, bt Hx7.out.below (bt Hb10.out hb11)⟩

/-! ### THE STEP TO THE ROW -/
set_option maxRecDepth 100000 in
theorem lifted (os : Os) (started : os.Started) (H : Type) (enc : TypeId × Value → H) :
    ReturnsInHanded {} Try.checked os 11 .any (Rows.fnExactIsPackageSpec.pre6 enc Try.prog Try.f11 Rows.fnExactIsPackageRow.domain false) (Rows.fnExactIsPackageSpec.post enc Try.prog Try.f11 false true false false) := by
  refine returnsInHanded_of_change (C := Try.checked) own started (by kernel_rfl) Try.func11
    (ChangeSpec.witness6 (enc := enc) (C := Try.checked) false ⟨#[], #[.agg #[.slice none 0 0], .slice none 0 0, .string ByteArray.empty], []⟩ 8 (by kernel_rfl) (by kernel_rfl) (by kernel_rfl) (by kernel_rfl)) ?_
  intro W base args ds gs before hval0 hW hcnd _
  have hval : ∀ (j : Nat) t v, Try.f11.params[j]? = some t → args[j]? = some v → Value.okWide Try.prog W .any base t v := hval0
  have hW' := hW
  obtain ⟨p, q, hA0, hV, rfl, hfz, hnd⟩ := hW
  have hA : DataW.TrodAll enc Try.prog W 0 (fun _ => true) true Try.f11.params.toList args.toList ds p := hA0
  rw [Try.params11] at hA hval
  obtain ⟨v0, vs0, d0, ds0, p0, q0, hargs, rfl, rfl, h0, r0⟩ := trodAll_cons hA
  obtain ⟨v1, vs1, d1, ds1, p1, q1, rfl, rfl, rfl, h1, r1⟩ := trodAll_cons r0
  obtain ⟨v2, vs2, d2, ds2, p2, q2, rfl, rfl, rfl, h2, r2⟩ := trodAll_cons r1
  obtain ⟨rfl, rfl, rfl⟩ := trodAll_nil r2
  obtain rfl : args = #[v0, v1, v2] := by cases args; simp_all
  obtain ⟨rfl, rfl⟩ := trodVars_none hV
  obtain ⟨cs0, rfl, _⟩ := okWide_struct Try.underlying24 (hval 0 24 v0 rfl rfl)
  have k0 := h0
  have lt0 : ∀ x ∈ p0, x.block < W.heap.size := by obtain ⟨m, hm⟩ := k0; exact DataW.trod_lt m _ _ _ hm
  obtain ⟨xs0, tv0, et0, w0⟩ : ∃ fs tv, cs0 = #[tv] ∧ FilsIn W (fun _ => True) tv fs ∧ ShortT maxLen fs := by
    obtain ⟨fuel, hf⟩ := h0
    obtain ⟨a', len', cap', fs, e0, e1, e2⟩ := read_tree hf
    exact ⟨fs, _, by rw [← Array.toList_inj]; simpa [Value.cells] using e0, e1, e2⟩
  subst et0
  obtain ⟨a1, len1, cap1, rfl⟩ := okWide_slice Try.underlying53 (hval 1 53 v1 rfl rfl)
  have k1 := h1
  have lt1 : ∀ x ∈ p1, x.block < W.heap.size := by obtain ⟨m, hm⟩ := k1; exact DataW.trod_lt m _ _ _ hm
  obtain ⟨xs1, w1⟩ : ∃ xs, IntsIn W (.slice a1 len1 cap1) xs := by
    obtain ⟨fuel, hf⟩ := h1
    exact ints_row Try.underlying53 Try.underlying3 (by kernel_rfl) hf
  obtain ⟨s2, rfl, rfl, rfl, ws2⟩ := open_string Try.underlying9 (hval 2 9 v2 rfl rfl) h2
  obtain ⟨l2, hl2⟩ := mk_of s2
  have w2 : l2.length ≤ maxLen := by rw [← mk_size, ← hl2]; exact ws2
  clear hA0 hval0
  rw [hl2]
  refine (walk tv0 xs0 _ xs1 l2 W w0 w1 w2).mono fun e W' ⟨he, bel⟩ => ?_
  subst he
  rw [← hl2]
  exact ⟨_, rfl, _, _, _, [], _, [], hW', trodAll_mk1 (shut_bool Try.underlying4 _), (trodAll_cons_mk (Below.trod laidOut (by kernel_rfl) (of_decide_eq_true (by kernel_rfl)) k0 bel lt0) (trodAll_cons_mk (Below.trod laidOut (by kernel_rfl) (of_decide_eq_true (by kernel_rfl)) k1 bel lt1) (trodAll_cons_mk (shut_string Try.underlying9 ws2) trodAll_mk0))), rfl, bel.frame _, fun h => by cases h⟩

theorem over : Rows.fnExactIsPackageRow.holds Try.pinned (OpenSpec.ofChange Rows.fnExactIsPackageSpec) :=
  OpenClaim.holds_of_wide 11 Try.f11 rfl rfl rfl rfl rfl rfl rfl ⟨rfl, rfl, rfl, rfl, rfl⟩ rfl rfl rfl rfl rfl (by kernel_rfl) Try.func11 (by kernel_rfl)
    (of_decide_eq_true (by kernel_rfl)) (by unfold Func.isWrapper; first | (rw [if_pos (by decide +kernel)]; kernel_rfl) | (rw [if_neg (by decide +kernel)]; exact ⟨rfl, rfl⟩))
    (fun os started H enc _ => lifted os started H enc)

/-- THE STATEMENT -/
theorem proved : Rows.FnExactIsPackageSaid := over
end Go.Proofs.Ytkmclfhnhcphoaa.FnExactIsPackage
