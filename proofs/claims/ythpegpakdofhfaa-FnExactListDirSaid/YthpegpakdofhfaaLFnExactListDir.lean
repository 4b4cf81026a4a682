/- FnExactListDir returns true for every argument. -/
import Derived.Test.YthpegpakdofhfaaListD
import Derived.Test.YthpegpakdofhfaaStrs
import Derived.Test.YthpegpakdofhfaaMarks2
import Derived.Test.YthpegpakdofhfaaEqTree
import Derived.Test.YthpegpakdofhfaaSzTree
import Derived.Test.YthpegpakdofhfaaToTree
import Derived.Test.YthpegpakdofhfaaReadIn
import Derived.Test.YthpegpakdofhfaaFrame
set_option linter.unusedVariables false
set_option linter.unusedSimpArgs false
namespace Go.Proofs.Ythpegpakdofhfaa.FnExactListDir
open Go.ChangeShapes Go.WideShapes Go.ChangeAt Go.RowKit Go.Proofs.Ythpegpakdofhfaa.Nm
open Go.ChangeMaps (open_string shut_string)

theorem mods_len (fs : List Fil) (root : Int) (p : Bs) : (listDir fs root p).length ≤ 12 := by
  unfold listDir
  split
  · rename_i h
    exact Nat.le_trans (sortUp_len _) (Nat.le_trans (entries_len _ _ _) (okTree_all (placed_at h).1).2.2)
  · simp

set_option maxRecDepth 100000 in
set_option maxHeartbeats 2000000 in
theorem walk (v : Value) (fs : List Fil) (root : Int) (p : Bs) (w : World) (h : FilsIn w (fun _ => True) v fs ∧ ShortT maxLen fs) (hroot : (Lit.int .i64 root).wf = true) (hp : p.length ≤ maxLen) :
    Calls Try.prog 10 #[.agg #[v], .int .i64 root, .string (mk p)] w fun e w' => e = .returned (.bool true) ∧ Below w.heap.size w w' := by
  obtain ⟨hr, hz⟩ := h
  have Hr := Lib.hid hr
  have Hz := Lib.hid hz
  obtain ⟨aa, ca, rfl, hlc, hm⟩ := hr.len
  clear hr hz hm
  have hxl := mods_len fs root p
  unfold maxLen at hp
  by_cases hn0 : (1048576 : Int) < (p.length : Int)
  · go_enter Try.func10, Try.ntmps10
    go_wp2_with fail
    go_ret
    exact ⟨rfl, by (repeat (with_reducible first | exact Below.refl _ _ | assumption | refine ba ?_ _ | refine bd ?_ | refine bdN ?_ _ | refine bs ?_ (by first | exact Nat.le_refl _ | (dsimp only; omega) | (simp; done)) _ | refine bt ?_ (by assumption)))⟩
  go_enter Try.func10, Try.ntmps10
  go_wp2_with (go_at_call 19; refine (laws_szTree _ fs _ 1048576 _ (Hr.out.below (by (repeat (with_reducible first | exact Below.refl _ _ | assumption | refine ba ?_ _ | refine bd ?_ | refine bdN ?_ _ | refine bs ?_ (by first | exact Nat.le_refl _ | (dsimp only; omega) | (simp; done)) _ | refine bt ?_ (by assumption))))) Hz.out (by omega)).mono ?_; rintro _ w1 ⟨r, rfl, hr, hb1⟩; have Hx1 := Lib.hid ((Boxed.start w #[.slice aa fs.length ca] 31).step hb1); have hA1 : w1.cell? ⟨w.heap.size, 0, none⟩ = some (.slice aa fs.length ca) := Hx1.out.cell 0)
  · go_ret
    exact ⟨rfl, Hx1.out.below⟩
  · have hc : filsCost fs ≤ 1048576 := by omega
    have Hl := Lib.hid (costs_of hc)
    have Hs8 := Lib.hid (shortT_mono (B := 2000000) (by omega) (shortT_of hc))
    have Hend := Lib.hid (end_of hc)
    have Hb1 := Lib.hid hb1
    clear hr hc hb1
    go_wp2_with (go_at_call 21; refine (laws_toTree _ fs _ _ (Hr.out.below Hx1.out.below) Hl.out).mono ?_; rintro _ w2 ⟨v2, ps2, rfl, hp2, ho2, hb2⟩; have Hx2 := Lib.hid (Hx1.out.step hb2); have hA2 : w2.cell? ⟨w.heap.size, 0, none⟩ = some (.slice aa fs.length ca) := Hx2.out.cell 0)
    have Ho2 := Lib.hid (show FilsIn w2 (fun _ => True) v2 fs by rw [← hp2]; exact ho2.fils (fun _ _ => trivial))
    clear ho2 hp2 hb2 hA1
    go_wp2_with (go_at_call 41; refine (spec_ListDir _ fs (fun _ => True) root p _ Ho2.out Hs8.out (by omega)).mono ?_; rintro _ w3 ⟨v0, rfl, hown0, hb3⟩; have Hx3 := Lib.hid (Hx2.out.step hb3); have hA3 : w3.cell? ⟨w.heap.size, 0, none⟩ = some (.slice aa fs.length ca) := Hx3.out.cell 0)
    have Hr0 := Lib.hid (Reads.of_owns hown0)
    clear hb3 hA2 hown0
    go_wp2_with (go_at_call 21; refine (laws_toTree _ fs _ _ (Hr.out.below Hx3.out.below) Hl.out).mono ?_; rintro _ w4 ⟨v4, ps4, rfl, hp4, ho4, hb4⟩; have Hx4 := Lib.hid (Hx3.out.step hb4); have hA4 : w4.cell? ⟨w.heap.size, 0, none⟩ = some (.slice aa fs.length ca) := Hx4.out.cell 0; obtain ⟨a4, c4, rfl⟩ := ho4.len; have hpl : ps4.length = fs.length := (by rw [← hp4, List.length_map]); rw [hpl] at ho4 ⊢)
    have Hf4 := Lib.hid (show FilsIn w4 (fun _ => True) (.slice a4 fs.length c4) fs by have h := ho4.fils (D := fun _ => True) (fun _ _ => trivial); rw [hp4] at h; exact h)
    have Ho4 := Lib.hid ho4
    have Hp4 := Lib.hid hp4
    have Hb4 := Lib.hid hb4
    clear ho4 hp4 hb4 hA3
    go_wp2_with (go_at_call 42; refine (impl_ListDir _ fs (fun _ => True) root p _ (Hf4.out.below (by (repeat (with_reducible first | exact Below.refl _ _ | assumption | refine ba ?_ _ | refine bd ?_ | refine bdN ?_ _ | refine bs ?_ (by first | exact Nat.le_refl _ | (dsimp only; omega) | (simp; done)) _ | refine bt ?_ (by assumption))))) Hs8.out (by omega)).mono ?_; rintro _ w5 ⟨v5, rfl, hown5, hb5⟩; have Hy5 := Lib.hid ((Boxed.start w4 #[.slice a4 fs.length c4] 36).step hb5); have hB5 : w5.cell? ⟨w4.heap.size, 0, none⟩ = some (.slice a4 fs.length c4) := Hy5.out.cell 0; have Hx5 := Lib.hid (Hx4.out.step Hy5.out.below); have hA5 : w5.cell? ⟨w.heap.size, 0, none⟩ = some (.slice aa fs.length ca) := Hx5.out.cell 0)
    obtain ⟨xs, hxs⟩ : ∃ xs, xs = listDir fs root p := ⟨_, rfl⟩
    rw [← hxs] at hxl hown5 Hr0
    have Hxs := Lib.hid hxs
    have Hown5 := Lib.hid (owns_mono hown5 (show w4.heap.size ≤ _ by simp))
    have Hc5 := Lib.hid (Hb4.out.trans (Hy5.out.below.mono Hb4.out.size))
    have Ho5 := Lib.hid (Ho4.out.below Hy5.out.below)
    have Hf5 := Lib.hid (Hf4.out.below Hy5.out.below)
    have hlA := Hx5.out.lt
    have hlB := Hy5.out.lt
    have hl3 := Hx3.out.lt
    have hl34 := Hb4.out.size
    clear hA4 hb5 hown5 hxs
    go_wp2_with (go_at_call 43; refine (laws_eqStringS v5 v0 xs xs w5 (Reads.of_owns Hown5.out) (Hr0.out.below Hc5.out) (by omega) (by omega)).mono ?_; rintro _ w6 ⟨rfl, hb6⟩; rw [decide_eq_true (rfl : xs = xs)]; have hA6 := (hb6.cell (p := ⟨w.heap.size, 0, none⟩) hlA).trans hA5; have hB6 := (hb6.cell (p := ⟨w4.heap.size, 0, none⟩) hlB).trans hB5)
    have Hb6 := Lib.hid hb6
    have hz6 := hb6.size
    clear hb6 hA5 hB5
    have Hk := Lib.hid (fun (w' : World) (hB : Below w6.heap.size w6 w') => (⟨(hB.cell (p := ⟨w.heap.size, 0, none⟩) (by dsimp only; omega)).trans hA6, (hB.cell (p := ⟨w4.heap.size, 0, none⟩) (by dsimp only; omega)).trans hB6, hB⟩ : w'.cell? ⟨w.heap.size, 0, none⟩ = some (.slice aa fs.length ca) ∧ w'.cell? ⟨w4.heap.size, 0, none⟩ = some (.slice a4 fs.length c4) ∧ Below w6.heap.size w6 w'))
    have Hse := Lib.hid (show sameFils fs fs = true from decide_eq_true rfl)
    go_wp2_with fail
    go_region_held3 (fun w' => w'.cell? ⟨w.heap.size, 0, none⟩ = some (.slice aa fs.length ca) ∧ w'.cell? ⟨w4.heap.size, 0, none⟩ = some (.slice a4 fs.length c4) ∧ Below w6.heap.size w6 w')
      (exact Hk.out _ (by (repeat (with_reducible first | exact Below.refl _ _ | assumption | refine ba ?_ _ | refine bd ?_ | refine bdN ?_ _ | refine bs ?_ (by first | exact Nat.le_refl _ | (dsimp only; omega) | (simp; done)) _ | refine bt ?_ (by assumption)))))
      (first
        | (go_at_call 21; refine (laws_toTree _ fs _ _ (Hr.out.below (bt Hx5.out.below (bt Hb6.out (by (repeat (with_reducible first | exact Below.refl _ _ | assumption | refine ba ?_ _ | refine bd ?_ | refine bdN ?_ _ | refine bs ?_ (by first | exact Nat.le_refl _ | (dsimp only; omega) | (simp; done)) _ | refine bt ?_ (by assumption))))))) Hl.out).mono ?_; rintro _ w7 ⟨v7, ps7, rfl, hp7, ho7, hb7⟩; have Ho7 := Lib.hid (show FilsIn w7 (fun _ => True) v7 fs by (have h := ho7.fils (D := fun _ => True) (fun _ _ => trivial); rw [hp7] at h; exact h)); clear ho7 hp7)
        | (go_at_call 23; refine (laws_eqTree _ _ fs fs (fun _ => True) (fun _ => True) _ (Hf5.out.below (bt Hb6.out (by (repeat (with_reducible first | exact Below.refl _ _ | assumption | refine ba ?_ _ | refine bd ?_ | refine bdN ?_ _ | refine bs ?_ (by first | exact Nat.le_refl _ | (dsimp only; omega) | (simp; done)) _ | refine bt ?_ (by assumption)))))) (Ho7.out.below (by (repeat (with_reducible first | exact Below.refl _ _ | assumption | refine ba ?_ _ | refine bd ?_ | refine bdN ?_ _ | refine bs ?_ (by first | exact Nat.le_refl _ | (dsimp only; omega) | (simp; done)) _ | refine bt ?_ (by assumption)))))).mono ?_; rintro _ w8 ⟨rfl, hb8⟩; rw [Hse.out]))
    have Hb8 := Lib.hid (show Below w6.heap.size w6 w8 by (repeat (with_reducible first | exact Below.refl _ _ | assumption | refine ba ?_ _ | refine bd ?_ | refine bdN ?_ _ | refine bs ?_ (by first | exact Nat.le_refl _ | (dsimp only; omega) | (simp; done)) _ | refine bt ?_ (by assumption))))
    have H58 := Lib.hid (Hb6.out.trans (Hb8.out.mono hz6))
    have Hown8 := Lib.hid (owns_below Hown5.out H58.out)
    have Ho8 := Lib.hid (Ho5.out.below H58.out)
    have hz3 := Hc5.out.size
    have hz5 := Hy5.out.lt
    have C8 := Lib.hid (Hc5.out.trans (H58.out.mono hz3))
    have hz8 := C8.out.size
    have hz58 := H58.out.size
    have Hge := Lib.hid (blkF_ge Ho4.out.1 (fun p hp => ⟨_, _, _, _, Ho4.out.2.1 p hp⟩))
    have Hx3c := Lib.hid (Hx3.out.cell 0)
    have hA8 : w8.cell? ⟨w.heap.size, 0, none⟩ = some (.slice aa fs.length ca) := (C8.out.cell (p := ⟨w.heap.size, 0, none⟩) hl3).trans Hx3c.out
    have hB8 := (Hk.out w8 Hb8.out).2.1
    have hps : ps4.length ≤ 9000000 := by have := Hend.out.2; have e : ps4.length = fs.length := by rw [← Hp4.out, List.length_map]
                                          omega
    clear hA6 hB6
    go_wp2_with (go_at_call 31; refine (laws_markTree w3.heap.size _ ps4 1 _ Ho8.out (by omega) (by rw [Hp4.out]; exact Hend.out.1) hps).mono ?_; rintro _ w9 ⟨rfl, _, ht9⟩; have hk0 : ¬ ((endF 1 (ps4.map (·.1)) : Nat) : Int) < 0 := Int.not_lt.2 (Int.natCast_nonneg _); have Ht9 := Lib.hid ht9; clear ht9)
    have Hown9 := Lib.hid (owns_turned_all (B := w4.heap.size) Hown8.out Ht9.out (fun b hb => (Hge.out b hb).2))
    have C9 := Lib.hid (C8.out.trans (Ht9.out.below hz8 (fun b hb => (Hge.out b hb).1)))
    have hz9 := Ht9.out.size
    clear hA8 hB8
    go_wp2_with (go_at_call 43; refine (laws_eqStringS v5 v0 xs xs _ (Reads.of_owns Hown9.out) (Hr0.out.below C9.out) (by omega) (by omega)).mono ?_; rintro _ w10 ⟨rfl, hb10⟩; rw [decide_eq_true (rfl : xs = xs)])
    have Hown10 := Lib.hid (owns_below Hown9.out hb10)
    have C10 := Lib.hid (C9.out.trans (hb10.mono C9.out.size))
    have hz10 := hb10.size
    clear hb10 hk0
    go_wp2_with (go_at_call 44; refine (laws_markStringS w4.heap.size v5 xs 1 _ Hown10.out (by omega) (by omega) (by omega)).mono ?_; rintro _ w11 ⟨rfl, hown11, hb11⟩)
    have hml := marks_len 1 xs.length
    have Hr11 := Lib.hid (Reads.of_owns (xs := marks 1 xs.length) (by rw [hml]; exact hown11))
    have C11 := Lib.hid (C10.out.trans (hb11.mono hl34))
    clear hml hown11 hb11
    go_wp2_with (go_at_call 45; refine (laws_heldStringS v5 xs.length 1 _ Hr11.out (by omega) (by omega)).mono ?_; rintro _ w12 ⟨rfl, hb12⟩; have hA12 : w12.cell? ⟨w.heap.size, 0, none⟩ = some (.slice aa fs.length ca) := ((C11.out.trans (hb12.mono C11.out.size)).cell (p := ⟨w.heap.size, 0, none⟩) hl3).trans Hx3c.out)
    have C12 := Lib.hid (C11.out.trans (hb12.mono C11.out.size))
    have Hr12 := Lib.hid (Hr11.out.below hb12)
    have Hw12 := Lib.hid (Hx3.out.below.trans (C12.out.mono (by omega)))
    clear hb12
    go_wp2_with (first
      | (go_at_call 21; refine (laws_toTree _ fs _ _ (Hr.out.below Hw12.out) Hl.out).mono ?_; rintro _ w13 ⟨v13, ps13, rfl, hp13, ho13, hb13⟩; have Ho13 := Lib.hid (show FilsIn w13 (fun _ => True) v13 fs by rw [← hp13]; exact ho13.fils (fun _ _ => trivial)); clear ho13 hp13)
      | (go_at_call 42; refine (impl_ListDir _ fs (fun _ => True) root p _ Ho13.out Hs8.out (by omega)).mono ?_; rintro _ w14 ⟨v14, rfl, hown14, hb14⟩))
    rw [← Hxs.out] at hown14
    have Hr14 := Lib.hid (Reads.of_owns hown14)
    have Hb14 := Lib.hid (bt hb13 hb14)
    have C14 := Lib.hid (C12.out.trans (Hb14.out.mono C12.out.size))
    clear hown14 hb13 hb14 hA12
    go_wp2_with (go_at_call 43; refine (laws_eqStringS v14 v0 xs xs _ Hr14.out (Hr0.out.below C14.out) (by omega) (by omega)).mono ?_; rintro _ w15 ⟨rfl, hb15⟩; rw [decide_eq_true (rfl : xs = xs)])
    have Hb15 := Lib.hid (bt Hb14.out hb15)
    clear hb15
    go_wp2_with (go_at_call 45; refine (laws_heldStringS v5 xs.length 1 _ (Hr12.out.below Hb15.out) (by omega) (by omega)).mono ?_; rintro _ w16 ⟨rfl, hb16⟩)
    have Hfin := Lib.hid (bt Hw12.out (bt Hb15.out hb16))
    clear hb16
    go_wp2_with fail
    go_ret
    exact ⟨rfl, Hfin.out⟩

/-! ### THE STEP TO THE ROW -/
set_option maxRecDepth 100000 in
theorem lifted (os : Os) (started : os.Started) (H : Type) (enc : TypeId × Value → H) :
    ReturnsInHanded {} Try.checked os 10 .any (Rows.fnExactListDirSpec.pre6 enc Try.prog Try.f10 Rows.fnExactListDirRow.domain false) (Rows.fnExactListDirSpec.post enc Try.prog Try.f10 false true false false) := by
  refine returnsInHanded_of_change (C := Try.checked) own started (by kernel_rfl) Try.func10
    (ChangeSpec.witness6 (enc := enc) (C := Try.checked) false ⟨#[], #[.agg #[.slice none 0 0], .int .i64 0, .string ByteArray.empty], []⟩ 8 (by kernel_rfl) (by kernel_rfl) (by kernel_rfl) (by kernel_rfl)) ?_
  intro W base args ds gs before hval0 hW hcnd _
  have hval : ∀ (j : Nat) t v, Try.f10.params[j]? = some t → args[j]? = some v → Value.okWide Try.prog W .any base t v := hval0
  have hW' := hW
  obtain ⟨p, q, hA0, hV, rfl, hfz, hnd⟩ := hW
  have hA : DataW.TrodAll enc Try.prog W 0 (fun _ => true) true Try.f10.params.toList args.toList ds p := hA0
  rw [Try.params10] at hA hval
  obtain ⟨v0, vs0, d0, ds0, p0, q0, hargs, rfl, rfl, h0, r0⟩ := trodAll_cons hA
  obtain ⟨v1, vs1, d1, ds1, p1, q1, rfl, rfl, rfl, h1, r1⟩ := trodAll_cons r0
  obtain ⟨v2, vs2, d2, ds2, p2, q2, rfl, rfl, rfl, h2, r2⟩ := trodAll_cons r1
  obtain ⟨rfl, rfl, rfl⟩ := trodAll_nil r2
  obtain rfl : args = #[v0, v1, v2] := by cases args; simp_all
  obtain ⟨rfl, rfl⟩ := trodVars_none hV
  obtain ⟨cs0, rfl, _⟩ := okWide_struct Try.underlying31 (hval 0 31 v0 rfl rfl)
  have k0 := h0
  have lt0 : ∀ x ∈ p0, x.block < W.heap.size := by obtain ⟨m, hm⟩ := k0; exact DataW.trod_lt m _ _ _ hm
  obtain ⟨xs0, tv0, et0, w0⟩ : ∃ fs tv, cs0 = #[tv] ∧ FilsIn W (fun _ => True) tv fs ∧ ShortT maxLen fs := by
    obtain ⟨fuel, hf⟩ := h0
    obtain ⟨a', len', cap', fs, e0, e1, e2⟩ := read_tree hf
    exact ⟨fs, _, by rw [← Array.toList_inj]; simpa [Value.cells] using e0, e1, e2⟩
  subst et0
  obtain ⟨n1, rfl, rfl, rfl, w1⟩ := open_int Try.underlying3 (hval 1 3 v1 rfl rfl) h1
  obtain ⟨s2, rfl, rfl, rfl, ws2⟩ := open_string Try.underlying9 (hval 2 9 v2 rfl rfl) h2
  obtain ⟨l2, hl2⟩ := mk_of s2
  have w2 : l2.length ≤ maxLen := by rw [← mk_size, ← hl2]; exact ws2
  clear hA0 hval0
  rw [hl2]
  refine (walk tv0 xs0 n1 l2 W w0 w1 w2).mono fun e W' ⟨he, bel⟩ => ?_
  subst he
  rw [← hl2]
  exact ⟨_, rfl, _, _, _, [], _, [], hW', trodAll_mk1 (shut_bool Try.underlying4 _), (trodAll_cons_mk (Below.trod laidOut (by kernel_rfl) (of_decide_eq_true (by kernel_rfl)) k0 bel lt0) (trodAll_cons_mk (shut_int Try.underlying3 w1) (trodAll_cons_mk (shut_string Try.underlying9 ws2) trodAll_mk0))), rfl, bel.frame _, fun h => by cases h⟩

theorem over : Rows.fnExactListDirRow.holds Try.pinned (OpenSpec.ofChange Rows.fnExactListDirSpec) :=
  OpenClaim.holds_of_wide 10 Try.f10 rfl rfl rfl rfl rfl rfl rfl ⟨rfl, rfl, rfl, rfl, rfl⟩ rfl rfl rfl rfl rfl (by kernel_rfl) Try.func10 (by kernel_rfl)
    (of_decide_eq_true (by kernel_rfl)) (by unfold Func.isWrapper; first | (rw [if_pos (by decide +kernel)]; kernel_rfl) | (rw [if_neg (by decide +kernel)]; exact ⟨rfl, rfl⟩))
    (fun os started H enc _ => lifted os started H enc)

/-- THE STATEMENT -/
theorem proved : Rows.FnExactListDirSaid := over
end Go.Proofs.Ythpegpakdofhfaa.FnExactListDir
