/- FnRemoveFile returns true for every code. Written by mklaws.py. -/
import Derived.Test.YtoleklppgmeflaaDrawK
import Derived.Test.YtoleklppgmeflaaTrees
import Derived.Test.YtoleklppgmeflaaAdds2
import Derived.Test.YtoleklppgmeflaaSRem
import Derived.Test.YtoleklppgmeflaaEqLaw
import Derived.Test.YtoleklppgmeflaaPlainG
import Derived.Test.YtoleklppgmeflaaFrame
set_option linter.unusedVariables false
set_option linter.unusedSimpArgs false
namespace Go.Proofs.Ytoleklppgmeflaa.FnRemoveFile
open Go.Sort Go.ChangeShapes Go.WideShapes Go.ChangeAt Go.RowKit Go.Proofs.Ytoleklppgmeflaa.Nm

theorem erase_at {fs us : List Fil} {i k j : Nat} (h : us = fs.eraseIdx i) (hk : k < us.length) (hj : j < fs.length) (hc : (k < i ∧ j = k) ∨ (i ≤ k ∧ j = k + 1)) : us[k] = fs[j] := by
  subst h
  rw [List.getElem_eraseIdx]
  rcases hc with ⟨h1, rfl⟩ | ⟨h1, rfl⟩
  · rw [dif_pos h1]
  · rw [dif_neg (by omega)]
theorem rem_facts {fs us : List Fil} {ri : Int} (h : remFil fs ri = (us, true)) : ∃ (i : Nat) (hi : i < fs.length), ri = (i : Int) ∧ us = fs.eraseIdx i := by
  unfold remFil inr at h
  split at h
  · rename_i hc
    simp only [Bool.and_eq_true, decide_eq_true_eq] at hc
    obtain ⟨i, rfl⟩ := Int.eq_ofNat_of_zero_le hc.2.1
    simp only [Int.toNat_natCast, Prod.mk.injEq, and_true] at h
    exact ⟨i, by omega, rfl, h.symm⟩
  · simp at h
set_option maxRecDepth 100000 in
set_option maxHeartbeats 4000000 in
theorem walk (a : Option Addr) (n cap : Nat) (w : World) (hc : Code w w.heap.size a n cap) :
    Calls Try.prog 5 #[.slice a n cap] w fun e w' => e = .returned (.bool true) ∧ Below w.heap.size w w' := by
  by_cases hn : (1048576 : Int) < (n : Int)
  · go_enter Try.func5, Try.ntmps5
    go_wp2_with fail
    go_ret
    exact ⟨rfl, Below.refl _ _⟩
  have Hc := Lib.hid hc
  clear hc
  go_enter Try.func5, Try.ntmps5
  go_wp2_with fail
  refine (spec_DrawRemoveFile a n cap w Hc.out).mono ?_
  rintro e w1 ⟨v, ps, ri, rfl, ⟨hrows, hsh, hl, hb5, hb1⟩⟩
  obtain ⟨va, vc, rfl⟩ := hrows.len
  have HR := Lib.hid hrows
  obtain ⟨fs, hfs⟩ : ∃ fs, fs = ps.map (·.1) := ⟨_, rfl⟩
  have Hfs := Lib.hid hfs
  have hfl : fs.length = ps.length := by rw [hfs, List.length_map]
  have HF := Lib.hid (show FilsIn w1 (fun _ => True) (.slice va ps.length vc) fs by rw [hfs]; exact hrows.fils)
  have Hz8 := Lib.hid (show ShortT 8000000 fs by rw [hfs]; exact shortT_mono (by omega) hsh)
  have Hz3 := Lib.hid (show ShortT 3000000 fs by rw [hfs]; exact shortT_mono (by omega) hsh)
  have Hz2 := Lib.hid (show ShortT 2000000 fs by rw [hfs]; exact shortT_mono (by omega) hsh)
  have Hs8 := Lib.hid (show ShortT 8 fs by rw [hfs]; exact hsh)
  have Hb5 := Lib.hid (show ∀ f ∈ fs, f.body.length ≤ 5 by rw [hfs]; intro f hf; obtain ⟨p, hp, rfl⟩ := List.mem_map.1 hf; exact hb5 p hp)
  have Hb1 := Lib.hid hb1
  have B0 := Boxed.start w1 #[.slice va ps.length vc] 25
  have hl11 : fs.length ≤ 11 := by omega
  clear hrows hsh hb5 hb1 hfs
  generalize ps.length = pn at *
  subst hfl
  have X1 := Lib.hid B0
  clear B0
  have Hb5p := Lib.hid (show ∀ p ∈ ps, p.1.body.length ≤ 1048576 from fun p hp => Nat.le_trans (Hb5.out p.1 (by rw [Hfs.out]; exact List.mem_map.2 ⟨p, hp, rfl⟩)) (by omega))
  have hpl : ps.length ≤ 11 := by have := congrArg List.length Hfs.out; rw [List.length_map] at this; omega
  obtain ⟨us, ok, hrem⟩ : ∃ us ok, remFil (ps.map (·.1)) ri = (us, ok) := ⟨_, _, rfl⟩
  have Hrem := Lib.hid hrem
  have Hse := Lib.hid (show sameFils us us = true from decide_eq_true rfl)
  have Hfa := Lib.hid (fun (h : ok = true) => rem_facts (show remFil fs ri = (us, true) by rw [Hfs.out, hrem, h]))
  have hul : us.length ≤ 12 := by
    have := (remFil_fine (ps.map (·.1)) ri).2
    rw [hrem] at this
    exact this
  clear hrem
  go_wp2_with fail
  refine (impl_RemoveFile _ ps ri _ ⟨owns_mono (HR.out.below X1.out.below).1 (Nat.zero_le _), fun p hp => owns_mono ((HR.out.below X1.out.below).2 p hp) (Nat.zero_le _)⟩ (by rw [← Hfs.out]; exact Hz2.out) (by omega)).mono ?_
  rintro _ w2 ⟨v2, qs, rfl, hq, ho2, hb2⟩
  rw [Hrem.out] at hq ⊢
  dsimp only at hq ⊢
  have hql : qs.length = us.length := by rw [← hq, List.length_map]
  have HU := Lib.hid (show FilsIn w2 (fun _ => True) v2 us by rw [← hq]; exact ho2.fils (fun _ _ => trivial))
  obtain ⟨a2, c2, rfl⟩ := ho2.len
  have X2 := Lib.hid (X1.out.step hb2)
  have x2 : w2.cell? ⟨w1.heap.size, 0, none⟩ = some (.slice va fs.length vc) := X2.out.cell 0
  have hz2 := X2.out.lt
  have hbb2 := hb2.size
  clear ho2 hb2 hq
  generalize qs.length = qn at *
  subst hql
  have C2 := Lib.hid (Boxed.start w2 #[.slice a2 us.length c2] 25)
  have X3 := Lib.hid (X2.out.step C2.out.below)
  have x3 : (w2.alloc (.cells #[.slice a2 us.length c2] 25)).cell? ⟨w1.heap.size, 0, none⟩ = some (.slice va fs.length vc) := X3.out.cell 0
  go_wp2_with fail
  refine (spec_RemoveFile _ ps ri _ ⟨owns_mono (HR.out.below X3.out.below).1 (Nat.zero_le _), fun p hp => owns_mono ((HR.out.below X3.out.below).2 p hp) (Nat.zero_le _)⟩ (by rw [← Hfs.out]; exact Hz2.out) (by omega) Hb5p.out).mono ?_
  rintro _ w4 ⟨v4, rs, rfl, hq4, ho4, hb4⟩
  rw [Hrem.out] at hq4 ⊢
  dsimp only at hq4 ⊢
  have hrl : rs.length = us.length := by rw [← hq4, List.length_map]
  have HV := Lib.hid (show FilsIn w4 (fun _ => True) v4 us by rw [← hq4]; exact ho4.fils (fun _ _ => trivial))
  obtain ⟨a4, c4, rfl⟩ := ho4.len
  have X4 := Lib.hid (X3.out.step hb4)
  have C4 := Lib.hid (C2.out.step hb4)
  have x4 : w4.cell? ⟨w1.heap.size, 0, none⟩ = some (.slice va fs.length vc) := X4.out.cell 0
  have u4 : w4.cell? ⟨w2.heap.size, 0, none⟩ = some (.slice a2 us.length c2) := C4.out.cell 0
  have hz4 : w2.heap.size < w4.heap.size := C4.out.lt
  have hz4' : w1.heap.size < w4.heap.size := X4.out.lt
  clear ho4 hb4 hq4 x2 x3
  generalize rs.length = rn at *
  subst hrl
  have D4 := Lib.hid (Boxed.start w4 #[.slice a4 us.length c4] 25)
  go_wp2_with fail
  refine (laws_equalTree _ _ us us (fun _ => True) (fun _ => True) _ (HU.out.below (bt C4.out.below (by (repeat (with_reducible first | exact Below.refl _ _ | assumption | refine ba ?_ _ | refine bd ?_ | refine bdN ?_ _ | refine bs ?_ (by first | exact Nat.le_refl _ | (dsimp only; omega) | (simp; done)) _ | refine bt ?_ (by assumption)))))) (HV.out.below (by (repeat (with_reducible first | exact Below.refl _ _ | assumption | refine ba ?_ _ | refine bd ?_ | refine bdN ?_ _ | refine bs ?_ (by first | exact Nat.le_refl _ | (dsimp only; omega) | (simp; done)) _ | refine bt ?_ (by assumption)))))).mono ?_
  rintro _ w5 ⟨rfl, hb5⟩
  rw [Hse.out]
  have D5 := Lib.hid (D4.out.step hb5)
  have X5 := Lib.hid (X4.out.step D5.out.below)
  have C5 := Lib.hid (C4.out.step D5.out.below)
  have x5 : w5.cell? ⟨w1.heap.size, 0, none⟩ = some (.slice va fs.length vc) := X5.out.cell 0
  have u5 : w5.cell? ⟨w2.heap.size, 0, none⟩ = some (.slice a2 us.length c2) := C5.out.cell 0
  have d5 : w5.cell? ⟨w4.heap.size, 0, none⟩ = some (.slice a4 us.length c4) := D5.out.cell 0
  clear hb5 x4 u4
  cases ok
  · go_wp2_with fail
    refine (laws_equalTree _ _ us us (fun _ => True) (fun _ => True) _ (HU.out.below C5.out.below) (HV.out.below D5.out.below)).mono ?_
    rintro _ w6 ⟨rfl, hb6⟩
    rw [Hse.out]
    have X6 := Lib.hid (X5.out.step hb6)
    clear hb6
    go_wp2_with fail
    go_ret
    exact ⟨rfl, bt Hb1.out X6.out.below⟩
  · obtain ⟨i, hi, hri, hue⟩ := Hfa.out rfl
    have hul2 : us.length = fs.length - 1 := by rw [hue, List.length_eraseIdx, if_pos hi]
    have Hue := Lib.hid hue
    subst hri
    clear hue
    go_wp2_with fail
    go_loopw [9] (fun iv wr => ∃ k : Nat, k ≤ us.length ∧ iv = .int .i64 k ∧ Below w5.heap.size w5 wr) (fun iv _ => us.length - (intOf iv).toNat)
    case atStart => exact ⟨0, by omega, rfl, Below.refl _ _⟩
    case round =>
      obtain ⟨k, hk, rfl, hbel⟩ := hrel
      have XR := Lib.hid (X5.out.step hbel)
      have CR := Lib.hid (C5.out.step hbel)
      have xr : wr.cell? ⟨w1.heap.size, 0, none⟩ = some (.slice va fs.length vc) := XR.out.cell 0
      have ur : wr.cell? ⟨w2.heap.size, 0, none⟩ = some (.slice a2 us.length c2) := CR.out.cell 0
      have Hbel := Lib.hid hbel
      clear x5 u5 d5 hbel
      by_cases hlt : k < us.length
      · by_cases hki : i ≤ k
        · have hge : (i : Int) ≤ (k : Int) := by omega
          have hgd : decide ((i : Int) ≤ (k : Int)) = true := decide_eq_true hge
          have hj : k + 1 < fs.length := by omega
          have Heq := Lib.hid (erase_at Hue.out hlt hj (.inr ⟨hki, rfl⟩))
          obtain ⟨b, off, cap1, bv, e, hD, hb, hbody, c0, c1, c2', c3, c4', c5⟩ := (HU.out.below CR.out.below).at_ hlt
          obtain ⟨b', off', cap2, bv', e', hD', hb', hbody', d0, d1, d2, d3, d4, d5⟩ := (HF.out.below XR.out.below).at_ hj
          simp only [Value.slice.injEq] at e e'
          obtain ⟨rfl, _, rfl⟩ := e
          obtain ⟨rfl, _, rfl⟩ := e'
          obtain ⟨ba1, bc1, rfl, _, _⟩ := hbody.len
          obtain ⟨ba2, bc2, rfl, _, _⟩ := hbody'.len
          have Hbo := Lib.hid hbody
          have Hbo' := Lib.hid hbody'
          obtain ⟨f, hf⟩ : ∃ f, f = fs[k + 1] := ⟨_, rfl⟩
          obtain ⟨f2, hf2⟩ : ∃ f, f = us[k] := ⟨_, rfl⟩
          have hff : f2 = f := by rw [hf, hf2]; exact Heq.out
          rw [← hf] at d0 d1 d2 d3 d4 d5 Hbo'
          rw [← hf2] at c0 c1 c2' c3 c4' c5 Hbo
          subst hff
          clear hf hf2 hbody hbody' Heq
          obtain ⟨fr, fp, fn, fi, fst, fb⟩ := f2
          dsimp only at c0 c1 c2' c3 c4' c5 d0 d1 d2 d3 d4 d5
          have hk1 : (k : Int) < (us.length : Int) := by omega
          have hk0 : (0 : Int) ≤ (k : Int) := by omega
          have hj1 : (k : Int) + 1 < (fs.length : Int) := by omega
          have hj0 : (0 : Int) ≤ (k : Int) + 1 := by omega
          have hjn : ((k : Int) + 1).toNat = k + 1 := by omega
          have hjw : IntKind.i64.wrap ((k : Int) + 1) = (k : Int) + 1 := IntWalk.i64_in _ (by omega)
          have Hsf := Lib.hid (show sameFil ⟨fr, fp, fn, fi, fst, fb⟩ ⟨fr, fp, fn, fi, fst, fb⟩ = true from decide_eq_true rfl)
          go_wp2_with fail
          go_still_tail 10, (by kernel_rfl)
          go_wp2_with (go_at_call 23; refine (laws_equalFile _ _ _ _ _ _ fb _ _ _ _ _ _ fb (fun _ => True) (fun _ => True) _ (Hbo.out.below (by (repeat (with_reducible first | exact Below.refl _ _ | assumption | refine ba ?_ _ | refine bd ?_ | refine bdN ?_ _ | refine bs ?_ (by first | exact Nat.le_refl _ | (dsimp only; omega) | (simp; done)) _ | refine bt ?_ (by assumption))))) (Hbo'.out.below (by (repeat (with_reducible first | exact Below.refl _ _ | assumption | refine ba ?_ _ | refine bd ?_ | refine bdN ?_ _ | refine bs ?_ (by first | exact Nat.le_refl _ | (dsimp only; omega) | (simp; done)) _ | refine bt ?_ (by assumption)))))).mono ?_; rintro _ w7 ⟨rfl, hb7⟩; rw [Hsf.out])
          go_roundw
          case rel => exact ⟨k + 1, by omega, by go_num, bt Hbel.out (by (repeat (with_reducible first | exact Below.refl _ _ | assumption | refine ba ?_ _ | refine bd ?_ | refine bdN ?_ _ | refine bs ?_ (by first | exact Nat.le_refl _ | (dsimp only; omega) | (simp; done)) _ | refine bt ?_ (by assumption))))⟩
          case measure => simp [intOf]; omega
        · have hge : ¬ (i : Int) ≤ (k : Int) := by omega
          have hgd : decide ((i : Int) ≤ (k : Int)) = false := decide_eq_false hge
          have hj : k < fs.length := by omega
          have Heq := Lib.hid (erase_at Hue.out hlt hj (.inl ⟨by omega, rfl⟩))
          obtain ⟨b, off, cap1, bv, e, hD, hb, hbody, c0, c1, c2', c3, c4', c5⟩ := (HU.out.below CR.out.below).at_ hlt
          obtain ⟨b', off', cap2, bv', e', hD', hb', hbody', d0, d1, d2, d3, d4, d5⟩ := (HF.out.below XR.out.below).at_ hj
          simp only [Value.slice.injEq] at e e'
          obtain ⟨rfl, _, rfl⟩ := e
          obtain ⟨rfl, _, rfl⟩ := e'
          obtain ⟨ba1, bc1, rfl, _, _⟩ := hbody.len
          obtain ⟨ba2, bc2, rfl, _, _⟩ := hbody'.len
          have Hbo := Lib.hid hbody
          have Hbo' := Lib.hid hbody'
          obtain ⟨f, hf⟩ : ∃ f, f = fs[k] := ⟨_, rfl⟩
          obtain ⟨f2, hf2⟩ : ∃ f, f = us[k] := ⟨_, rfl⟩
          have hff : f2 = f := by rw [hf, hf2]; exact Heq.out
          rw [← hf] at d0 d1 d2 d3 d4 d5 Hbo'
          rw [← hf2] at c0 c1 c2' c3 c4' c5 Hbo
          subst hff
          clear hf hf2 hbody hbody' Heq
          obtain ⟨fr, fp, fn, fi, fst, fb⟩ := f2
          dsimp only at c0 c1 c2' c3 c4' c5 d0 d1 d2 d3 d4 d5
          have hk1 : (k : Int) < (us.length : Int) := by omega
          have hk0 : (0 : Int) ≤ (k : Int) := by omega
          have hj1 : (k : Int) < (fs.length : Int) := by omega
          have Hsf := Lib.hid (show sameFil ⟨fr, fp, fn, fi, fst, fb⟩ ⟨fr, fp, fn, fi, fst, fb⟩ = true from decide_eq_true rfl)
          go_wp2_with fail
          go_still_tail 10, (by kernel_rfl)
          go_wp2_with (go_at_call 23; refine (laws_equalFile _ _ _ _ _ _ fb _ _ _ _ _ _ fb (fun _ => True) (fun _ => True) _ (Hbo.out.below (by (repeat (with_reducible first | exact Below.refl _ _ | assumption | refine ba ?_ _ | refine bd ?_ | refine bdN ?_ _ | refine bs ?_ (by first | exact Nat.le_refl _ | (dsimp only; omega) | (simp; done)) _ | refine bt ?_ (by assumption))))) (Hbo'.out.below (by (repeat (with_reducible first | exact Below.refl _ _ | assumption | refine ba ?_ _ | refine bd ?_ | refine bdN ?_ _ | refine bs ?_ (by first | exact Nat.le_refl _ | (dsimp only; omega) | (simp; done)) _ | refine bt ?_ (by assumption)))))).mono ?_; rintro _ w7 ⟨rfl, hb7⟩; rw [Hsf.out])
          go_roundw
          case rel => exact ⟨k + 1, by omega, by go_num, bt Hbel.out (by (repeat (with_reducible first | exact Below.refl _ _ | assumption | refine ba ?_ _ | refine bd ?_ | refine bdN ?_ _ | refine bs ?_ (by first | exact Nat.le_refl _ | (dsimp only; omega) | (simp; done)) _ | refine bt ?_ (by assumption))))⟩
          case measure => simp [intOf]; omega
      · obtain rfl : k = us.length := by omega
        have hfi : ((us.length : Nat) : Int) = (fs.length : Int) - 1 := by omega
        go_wp2_with fail
        go_ret
        exact ⟨ret_bool (by first | rfl | (simp; omega) | simp_all), bt Hb1.out XR.out.below⟩

/-! ### THE STEP TO THE ROW -/
set_option maxRecDepth 100000 in
theorem lifted (os : Os) (started : os.Started) (H : Type) (enc : TypeId × Value → H) :
    ReturnsInHanded {} Try.checked os 5 .any (Rows.fnRemoveFileSpec.pre6 enc Try.prog Try.f5 Rows.fnRemoveFileRow.domain false) (Rows.fnRemoveFileSpec.post enc Try.prog Try.f5 false true false false) := by
  refine returnsInHanded_of_change (C := Try.checked) own started (by kernel_rfl) Try.func5
    (ChangeSpec.witness6 (enc := enc) (C := Try.checked) false ⟨#[], #[.slice none 0 0], []⟩ 8 (by kernel_rfl) (by kernel_rfl) (by kernel_rfl) (by kernel_rfl)) ?_
  intro W base args ds gs before hval0 hW hcnd _
  have hval : ∀ (j : Nat) t v, Try.f5.params[j]? = some t → args[j]? = some v → Value.okWide Try.prog W .any base t v := hval0
  have hW' := hW
  obtain ⟨p, q, hA0, hV, rfl, hfz, hnd⟩ := hW
  have hA : DataW.TrodAll enc Try.prog W 0 (fun _ => true) true Try.f5.params.toList args.toList ds p := hA0
  rw [Try.params5] at hA hval
  obtain ⟨v0, vs0, d0, ds0, p0, q0, hargs, rfl, rfl, h0, r0⟩ := trodAll_cons hA
  obtain ⟨rfl, rfl, rfl⟩ := trodAll_nil r0
  obtain rfl : args = #[v0] := by cases args; simp_all
  obtain ⟨rfl, rfl⟩ := trodVars_none hV
  obtain ⟨a0, len0, cap0, rfl⟩ := okWide_slice Try.underlying22 (hval 0 22 v0 rfl rfl)
  have k0 := h0
  have lt0 : ∀ x ∈ p0, x.block < W.heap.size := by obtain ⟨m, hm⟩ := k0; exact DataW.trod_lt m _ _ _ hm
  have w0 : Code W W.heap.size a0 len0 cap0 := by
    obtain ⟨fuel, hf⟩ := h0
    rcases open_ints Try.underlying22 Try.underlying5 (by kernel_rfl) hf with ⟨hcs, _⟩ | ⟨x, l, c, zs, hcs, _, hl, hm, hz, _, hcell, hwz⟩
    · simp [Value.cells] at hcs
      obtain ⟨rfl, rfl, rfl⟩ := hcs
      exact .inl ⟨rfl, by unfold maxLen; omega⟩
    · simp [Value.cells] at hcs
      obtain ⟨rfl, rfl, rfl⟩ := hcs
      exact code_row W _ _ _ zs hl hm (by simpa using hz) hcell hwz
  clear hA0 hval0
  refine (walk a0 len0 cap0 W w0).mono fun e W' ⟨he, bel⟩ => ?_
  subst he
  exact ⟨_, rfl, _, _, _, [], _, [], hW', trodAll_mk1 (shut_bool Try.underlying4 _), (trodAll_cons_mk (Below.trod laidOut (by kernel_rfl) (of_decide_eq_true (by kernel_rfl)) k0 bel lt0) trodAll_mk0), rfl, bel.frame _, fun h => by cases h⟩

theorem over : Rows.fnRemoveFileRow.holds Try.pinned (OpenSpec.ofChange Rows.fnRemoveFileSpec) :=
  OpenClaim.holds_of_wide 5 Try.f5 rfl rfl rfl rfl rfl rfl rfl ⟨rfl, rfl, rfl, rfl, rfl⟩ rfl rfl rfl rfl rfl (by kernel_rfl) Try.func5 (by kernel_rfl)
    (of_decide_eq_true (by kernel_rfl)) (by unfold Func.isWrapper; first | (rw [if_pos (by decide +kernel)]; kernel_rfl) | (rw [if_neg (by decide +kernel)]; exact ⟨rfl, rfl⟩))
    (fun os started H enc _ => lifted os started H enc)

/-- THE STATEMENT -/
theorem proved : Rows.FnRemoveFileSaid := over
end Go.Proofs.Ytoleklppgmeflaa.FnRemoveFile
