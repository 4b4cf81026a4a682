/- FnExactJoinParts returns true for every argument. -/
import Derived.Test.YtpopbcidnhepiacStrs
import Derived.Test.YtpopbcidnhepiacFrame
set_option linter.unusedVariables false
set_option linter.unusedSimpArgs false
namespace Go.Proofs.Ytpopbcidnhepiac.FnExactJoinParts
open Go.ChangeShapes Go.WideShapes Go.ChangeAt Go.RowKit Go.Proofs.Ytpopbcidnhepiac.Nm
open Go.ChangeMaps (open_string shut_string)

theorem join_tot (xs : List Bs) : (join xs).length ≤ xs.length + tot xs := by
  cases xs with
  | nil => simp [join]
  | cons p ps =>
    simp only [join, tot, List.length_append, List.map_cons, List.sum_cons, List.length_cons]
    have : (ps.flatMap (fun q => (46 : UInt8) :: q)).length = ps.length + (ps.map List.length).sum := by
      induction ps with
      | nil => simp
      | cons a rest ih => simp only [List.flatMap_cons, List.length_append, List.length_cons, List.map_cons, List.sum_cons, ih]; omega
    omega
theorem part_tot (xs : List Bs) : ∀ p ∈ xs, p.length ≤ tot xs := by
  induction xs with
  | nil => simp
  | cons a rest ih =>
    intro p hp
    simp only [tot, List.map_cons, List.sum_cons] at ih ⊢
    rcases List.mem_cons.1 hp with rfl | hp
    · omega
    · have := ih p hp; omega

set_option maxRecDepth 100000 in
set_option maxHeartbeats 1000000 in
theorem walk (v : Value) (xs : List Bs) (w : World) (w0 : ReadsIn w v xs ∧ ∀ p ∈ xs, p.length ≤ maxLen) :
    Calls Try.prog 6 #[v] w fun e w' => e = .returned (.bool true) ∧ Below w.heap.size w w' := by
  have W0 := Lib.hid w0
  have Hp := Lib.hid (part_tot xs)
  have Hj := Lib.hid (join_tot xs)
  clear w0
  go_enter Try.func6, Try.ntmps6
  go_wp2_with fail
  refine (laws_szStringS v xs 1048576 w W0.out.1 W0.out.2 (by omega)).mono ?_
  rintro e w1 ⟨r, rfl, hrr, rfl⟩
  rcases hrr with ⟨hr0, htot⟩ | rfl
  · have hxl : xs.length ≤ 1048576 := by omega
    have htl : tot xs ≤ 1048576 := by omega
    have Hs := Lib.hid (fun p (hp : p ∈ xs) => Nat.le_trans (Hp.out p hp) htl)
    have Hj2 := Lib.hid (Nat.le_trans Hj.out htot)
    clear htot Hp Hj
    go_wp2_with fail
    refine (laws_toStringS v xs w W0.out.1 hxl).mono ?_
    rintro e w1 ⟨v1, rfl, hown1, hb1⟩
    have Hr1 := Lib.hid (Reads.of_owns hown1)
    have Hb1 := Lib.hid hb1
    clear hown1 hb1
    go_wp2_with fail
    refine (spec_JoinParts v1 xs w1 Hr1.out (by omega) (Nat.le_trans Hj2.out (by omega))).mono ?_
    rintro e w2 ⟨rfl, hb2⟩
    have Hb2 := Lib.hid (bt Hb1.out hb2)
    clear hb2
    obtain ⟨q, hq⟩ : ∃ q, q = joinParts xs := ⟨_, rfl⟩
    rw [← hq]
    have Hq := Lib.hid hq
    clear hq
    go_wp2_with fail
    refine (laws_toStringS v xs w2 (W0.out.1.below Hb2.out) hxl).mono ?_
    rintro e w3 ⟨v3, rfl, hown3, hb3⟩
    have Hr3 := Lib.hid (Reads.of_owns hown3)
    have Hb3 := Lib.hid (bt Hb2.out hb3)
    clear hown3 hb3
    go_wp2_with fail
    refine (impl_JoinParts v3 xs w3 Hr3.out (fun p hp => Nat.le_trans (Hs.out p hp) (by omega))).mono ?_
    rintro e w4 ⟨rfl, hb4⟩
    have Hr4 := Lib.hid (Hr3.out.below hb4)
    have Hb4 := Lib.hid (bt Hb3.out hb4)
    clear hb4
    rw [← Hq.out]
    go_wp2_with fail
    refine (laws_toStringS v xs w4 (W0.out.1.below Hb4.out) hxl).mono ?_
    rintro e w5 ⟨v5, rfl, hown5, hb5⟩
    have Hr5 := Lib.hid (Reads.of_owns hown5)
    have Hr45 := Lib.hid (Hr4.out.below hb5)
    have Hb5 := Lib.hid (bt Hb4.out hb5)
    clear hown5 hb5
    go_wp2_with fail
    refine (laws_eqStringS v3 v5 xs xs w5 Hr45.out Hr5.out (by omega) (by omega)).mono ?_
    rintro e w6 ⟨rfl, hb6⟩
    rw [decide_eq_true (rfl : xs = xs)]
    have Hb6 := Lib.hid (bt Hb5.out hb6)
    clear hb6
    go_wp2_with fail
    go_ret
    exact ⟨rfl, Hb6.out⟩
  · go_wp2_with fail
    go_ret
    exact ⟨rfl, Below.refl _ _⟩

/-! ### THE STEP TO THE ROW -/
set_option maxRecDepth 100000 in
theorem lifted (os : Os) (started : os.Started) (H : Type) (enc : TypeId × Value → H) :
    ReturnsInHanded {} Try.checked os 6 .any (Rows.fnExactJoinPartsSpec.pre6 enc Try.prog Try.f6 Rows.fnExactJoinPartsRow.domain false) (Rows.fnExactJoinPartsSpec.post enc Try.prog Try.f6 false true false false) := by
  refine returnsInHanded_of_change (C := Try.checked) own started (by kernel_rfl) Try.func6
    (ChangeSpec.witness6 (enc := enc) (C := Try.checked) false ⟨#[], #[.slice none 0 0], []⟩ 8 (by kernel_rfl) (by kernel_rfl) (by kernel_rfl) (by kernel_rfl)) ?_
  intro W base args ds gs before hval0 hW hcnd _
  have hval : ∀ (j : Nat) t v, Try.f6.params[j]? = some t → args[j]? = some v → Value.okWide Try.prog W .any base t v := hval0
  have hW' := hW
  obtain ⟨p, q, hA0, hV, rfl, hfz, hnd⟩ := hW
  have hA : DataW.TrodAll enc Try.prog W 0 (fun _ => true) true Try.f6.params.toList args.toList ds p := hA0
  rw [Try.params6] at hA hval
  obtain ⟨v0, vs0, d0, ds0, p0, q0, hargs, rfl, rfl, h0, r0⟩ := trodAll_cons hA
  obtain ⟨rfl, rfl, rfl⟩ := trodAll_nil r0
  obtain rfl : args = #[v0] := by cases args; simp_all
  obtain ⟨rfl, rfl⟩ := trodVars_none hV
  obtain ⟨a0, len0, cap0, rfl⟩ := okWide_slice Try.underlying23 (hval 0 23 v0 rfl rfl)
  have k0 := h0
  have lt0 : ∀ x ∈ p0, x.block < W.heap.size := by obtain ⟨m, hm⟩ := k0; exact DataW.trod_lt m _ _ _ hm
  obtain ⟨xs0, w0⟩ : ∃ xs, ReadsIn W (.slice a0 len0 cap0) xs ∧ ∀ p ∈ xs, p.length ≤ maxLen := by
    obtain ⟨fuel, hf⟩ := h0
    obtain ⟨xs, e1, _, e2⟩ := strings_row Try.underlying23 Try.underlying9 (by kernel_rfl) hf
    exact ⟨xs, e1, e2⟩
  clear hA0 hval0
  refine (walk _ xs0 W w0).mono fun e W' ⟨he, bel⟩ => ?_
  subst he
  exact ⟨_, rfl, _, _, _, [], _, [], hW', trodAll_mk1 (shut_bool Try.underlying4 _), (trodAll_cons_mk (Below.trod laidOut (by kernel_rfl) (of_decide_eq_true (by kernel_rfl)) k0 bel lt0) trodAll_mk0), rfl, bel.frame _, fun h => by cases h⟩

theorem over : Rows.fnExactJoinPartsRow.holds Try.pinned (OpenSpec.ofChange Rows.fnExactJoinPartsSpec) :=
  OpenClaim.holds_of_wide 6 Try.f6 rfl rfl rfl rfl rfl rfl rfl ⟨rfl, rfl, rfl, rfl, rfl⟩ rfl rfl rfl rfl rfl (by kernel_rfl) Try.func6 (by kernel_rfl)
    (of_decide_eq_true (by kernel_rfl)) (by unfold Func.isWrapper; first | (rw [if_pos (by decide +kernel)]; kernel_rfl) | (rw [if_neg (by decide +kernel)]; exact ⟨rfl, rfl⟩))
    (fun os started H enc _ => lifted os started H enc)

/-- THE STATEMENT -/
theorem proved : Rows.FnExactJoinPartsSaid := over
end Go.Proofs.Ytpopbcidnhepiac.FnExactJoinParts
