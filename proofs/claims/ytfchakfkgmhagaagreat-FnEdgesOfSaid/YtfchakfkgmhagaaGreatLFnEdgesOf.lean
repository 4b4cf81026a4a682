/- FnEdgesOf returns true for every code. Written by mkp7.py. -/
import Derived.Test.YtfchakfkgmhagaaGreatDrawQ
import Derived.Test.YtfchakfkgmhagaaGreatLooks
import Derived.Test.YtfchakfkgmhagaaGreatSGraph
import Derived.Test.YtfchakfkgmhagaaGreatPlainE
import Derived.Test.YtfchakfkgmhagaaGreatTexts
import Derived.Test.YtfchakfkgmhagaaGreatEqRise
import Derived.Test.YtfchakfkgmhagaaGreatFrame
import Derived.Test.YtfchakfkgmhagaaGreatFacts
import Derived.Deep.RegionHeld3
set_option linter.unusedVariables false
set_option linter.unusedSimpArgs false
namespace Go.Proofs.YtfchakfkgmhagaaGreat.FnEdgesOf
open Go.Sort Go.ChangeShapes Go.WideShapes Go.ChangeAt Go.RowKit Go.Proofs.YtfchakfkgmhagaaGreat.Nm

theorem parentOf_shorter (p : Bs) : (parentOf p).length ≤ p.length := by
  unfold parentOf
  split
  · exact parent_len p
  · simp
theorem len_of {x : Bs} (h : vn x = true) : x.length ≤ 8000000 := Nat.le_trans (vn_len h) (by omega)
set_option maxRecDepth 100000 in
set_option maxHeartbeats 8000000 in
theorem walk (a : Option Addr) (n cap : Nat) (w : World) (hc : Code w w.heap.size a n cap) :
    Calls Tryz.prog 13 #[.slice a n cap] w fun e w' => e = .returned (.bool true) ∧ Below w.heap.size w w' := by
  by_cases hn : (1048576 : Int) < (n : Int)
  · go_enter Tryz.func13, Tryz.ntmps13
    go_wp2_with fail
    go_ret
    exact ⟨rfl, Below.refl _ _⟩
  have Hc := Lib.hid hc
  clear hc
  have hf0 := fld0
  have hf1 := fld1
  go_enter Tryz.func13, Tryz.ntmps13
  go_wp2_with fail
  refine (spec_DrawEdgesOf a n cap w Hc.out).mono ?_
  rintro e w1 ⟨v, ps, pv, xs, s, rfl, ⟨hrows, hsh, hl, hb5, hb1⟩, hp, hx3, hs17⟩
  obtain ⟨va, vc, rfl⟩ := hrows.len
  have HR := Lib.hid hrows
  obtain ⟨fs, hfs⟩ : ∃ fs, fs = ps.map (·.1) := ⟨_, rfl⟩
  have Hfs := Lib.hid hfs
  have hfl : fs.length = ps.length := by rw [hfs, List.length_map]
  have HF := Lib.hid (show FilsIn w1 (fun _ => True) (.slice va ps.length vc) fs by rw [hfs]; exact hrows.fils)
  have Hz8 := Lib.hid (show ShortT 8000000 fs by rw [hfs]; exact shortT_mono (by omega) hsh)
  have Hz2 := Lib.hid (show ShortT 2000000 fs by rw [hfs]; exact shortT_mono (by omega) hsh)
  have Hb1 := Lib.hid hb1
  have B0 := Boxed.start w1 #[.slice va ps.length vc] 31
  have hl11 : fs.length ≤ 11 := by omega
  clear hrows hsh hb5 hb1 hfs
  generalize ps.length = pn at *
  subst hfl
  have X1 := Lib.hid B0
  clear B0
  obtain ⟨pa, pc, rfl⟩ := hp.len
  have HP := Lib.hid hp.ints
  clear hp
  obtain ⟨ns, hns⟩ : ∃ x, x = edgesOf fs xs s := ⟨_, rfl⟩
  have hnl : ns.length ≤ 24 := by rw [hns]; exact (edgesOf_ok _ _ _).2.2
  have Hns := Lib.hid hns
  clear hns
  go_wp2_with fail
  refine (impl_EdgesOf _ fs (fun _ => True) _ xs s _ (HF.out.below X1.out.below) Hz2.out (HP.out.below X1.out.below) (by omega)).mono ?_
  rintro _ w2 ⟨v2, rfl, hown2, hb2⟩
  rw [← Hns.out] at hown2
  have R2 := Lib.hid (Reads.of_owns hown2)
  obtain ⟨a2, c2, rfl⟩ := owns_shape hown2
  have X2 := Lib.hid (X1.out.step hb2)
  have x2 : w2.cell? ⟨w1.heap.size, 0, none⟩ = some (.slice va fs.length vc) := X2.out.cell 0
  clear hb2 hown2
  go_wp2_with fail
  refine (spec_EdgesOf _ fs (fun _ => True) _ xs s _ (HF.out.below X2.out.below) Hz2.out (HP.out.below X2.out.below) (by omega)).mono ?_
  rintro _ w3 ⟨v3, rfl, hown3, hb3⟩
  rw [← Hns.out] at hown3
  have R3 := Lib.hid (Reads.of_owns hown3)
  obtain ⟨a3, c3, rfl⟩ := owns_shape hown3
  have X3 := Lib.hid (X2.out.step hb3)
  have x3 : w3.cell? ⟨w1.heap.size, 0, none⟩ = some (.slice va fs.length vc) := X3.out.cell 0
  have R2 := Lib.hid (Reads.below R2.out hb3)
  clear hb3 hown3 x2
  go_wp2_with fail
  refine (laws_equalTexts _ _ ns ns _ R2.out R3.out (by omega) (by omega)).mono ?_
  rintro _ w4 ⟨rfl, hb4⟩
  rw [decide_eq_true rfl]
  have X4 := Lib.hid (X3.out.step hb4)
  have x4 : w4.cell? ⟨w1.heap.size, 0, none⟩ = some (.slice va fs.length vc) := X4.out.cell 0
  have R2 := Lib.hid (Reads.below R2.out hb4)
  clear hb4 x3
  rcases (show canFind fs xs s = true ∨ canFind fs xs s = false by cases canFind fs xs s <;> simp) with hcf | hcf
  · have Hcf := Lib.hid hcf
    clear hcf
    go_wp2_with fail
    refine (impl_CanFind _ fs (fun _ => True) _ xs s _ (HF.out.below X4.out.below) Hz2.out (HP.out.below X4.out.below) (by omega)).mono ?_
    rintro _ w5 ⟨rfl, hb5⟩
    rw [Hcf.out]
    have X5 := Lib.hid (X4.out.step hb5)
    have x5 : w5.cell? ⟨w1.heap.size, 0, none⟩ = some (.slice va fs.length vc) := X5.out.cell 0
    have R2 := Lib.hid (Reads.below R2.out hb5)
    clear hb5 x4
    have Hok := Lib.hid (show ∀ x ∈ ns, vn x = true by rw [Hns.out]; exact (edgesOf_ok fs xs s).1)
    have Hah := Lib.hid (show Ahead ns by rw [Hns.out]; exact ahead_full _)
    have Hwi := Lib.hid (show ∀ x ∈ needsOf fs xs s, x ∈ ns by rw [Hns.out]; exact needs_in_edges fs xs s)
    have hnl8 := (needsOf_ok fs xs s).2.2
    generalize hms : needsOf fs xs s = ms at *
    have Hms := Lib.hid hms
    clear hms
    go_wp2_with fail
    go_loopw [7] (fun iv wr => ∃ k : Nat, k ≤ ns.length ∧ iv = .int .i64 k ∧ Boxed w1 #[.slice va fs.length vc] 31 wr ∧ Reads wr (.slice a2 ns.length c2) ns) (fun iv _ => ns.length - (intOf iv).toNat)
    case atStart => exact ⟨0, by omega, rfl, X5.out, R2.out⟩
    case round =>
      obtain ⟨k, hk, rfl, hbx, hrd⟩ := hrel
      have XR := Lib.hid hbx
      have RR := Lib.hid hrd
      have xr : wr.cell? ⟨w1.heap.size, 0, none⟩ = some (.slice va fs.length vc) := XR.out.cell 0
      clear hbx hrd R2 x5
      by_cases hlt : k < ns.length
      · obtain ⟨b1, o1, c1, e1, _, _, hb1, hc1⟩ := Reads.some RR.out (by omega)
        simp only [Value.slice.injEq] at e1
        obtain ⟨rfl, _, rfl⟩ := e1
        have hcell := hc1 k hlt
        have hvl := len_of (Hok.out _ (List.getElem_mem hlt))
        have hk1 : (k : Int) < (ns.length : Int) := by omega
        have hk0' : (0 : Int) ≤ (k : Int) := by omega
        have Ha1 := Lib.hid (Hah.out k ns[k] (List.getElem?_eq_getElem hlt))
        clear hc1
        generalize ns[k] = nm at *
        obtain ⟨p, hp⟩ : ∃ p, p = parentOf nm := ⟨_, rfl⟩
        rw [← hp] at Ha1
        have Hp := Lib.hid hp
        clear hp
        by_cases h0 : p = []
        · have Hp0 := Lib.hid (Hp.out.symm.trans h0)
          go_wp2_with (go_at_call 54; refine (impl_ParentOf nm _ (by omega)).mono ?_; rintro _ w7 ⟨rfl, hb7⟩; rw [Hp0.out]; have Hb7 := Lib.hid (show Below wr.heap.size wr w7 by (repeat (with_reducible first | exact Below.refl _ _ | assumption | refine ba ?_ _ | refine bd ?_ | refine bdN ?_ _ | refine bs ?_ (by first | exact Nat.le_refl _ | (dsimp only; omega) | (simp; done)) _ | refine bt ?_ (by assumption)))); clear hb7)
          go_roundw
          case rel => exact ⟨k + 1, by omega, by go_num, XR.out.step Hb7.out, Reads.below RR.out Hb7.out⟩
          case measure => simp [intOf]; omega
        · have hie : List.isEmpty p = false := by simp [List.isEmpty_iff, h0]
          have Hta := Lib.hid (fun (W : World) (e : Ending) (W' : World) (h : TextAtX ns p W e W') => (show ∃ k' : Nat, k' < k ∧ e = .returned (.int .i64 (k' : Int)) ∧ W = W' by
            obtain ⟨j, hj, hjk⟩ := Ha1.out.resolve_left h0
            obtain ⟨i, rfl, rfl, ⟨k', rfl, h1, h2⟩ | ⟨_, h2⟩⟩ := h
            · refine ⟨k', ?_, rfl, rfl⟩
              rcases Nat.lt_or_ge j k' with h3 | h3
              · exact absurd hjk (h2 j h3)
              · omega
            · exact absurd (List.mem_of_getElem? hjk) h2))
          have hpl : p.length ≤ 8000000 := by
            have h1 := parentOf_shorter nm
            rw [← Hp.out] at h1; omega
          clear h0 Ha1
          go_wp2_with (first
            | (go_at_call 54; refine (impl_ParentOf nm _ (by omega)).mono ?_; rintro _ w7 ⟨rfl, hb7⟩; rw [← Hp.out]; have Hb7 := Lib.hid (show Below wr.heap.size wr w7 by (repeat (with_reducible first | exact Below.refl _ _ | assumption | refine ba ?_ _ | refine bd ?_ | refine bdN ?_ _ | refine bs ?_ (by first | exact Nat.le_refl _ | (dsimp only; omega) | (simp; done)) _ | refine bt ?_ (by assumption)))); have R7 := Lib.hid (Reads.below RR.out Hb7.out); clear hb7)
            | (go_at_call 51; refine (laws_textAtX _ ns p _ R7.out (by omega)).mono ?_; intro e8 w8 h8; obtain ⟨k8, hk8, rfl, rfl⟩ := Hta.out _ _ _ h8; have hk80 : (decide ((k8 : Int) < 0)) = false := (by simp); have hk8k : (decide ((k : Int) < (k8 : Int))) = false := (by simp; omega)))
          all_goals
            go_roundw
            case rel => exact ⟨k + 1, by omega, by go_num, XR.out.step Hb7.out, Reads.below RR.out Hb7.out⟩
            case measure => simp [intOf]; omega
      · go_wp2_with fail
        refine (impl_NeedsOf _ fs (fun _ => True) _ xs s _ (HF.out.below XR.out.below) Hz2.out (HP.out.below XR.out.below) (by omega)).mono ?_
        rintro _ w6 ⟨v6, rfl, hown6, hb6⟩
        rw [Hms.out] at hown6
        have R6 := Lib.hid (Reads.of_owns hown6)
        obtain ⟨a6, c6, rfl⟩ := owns_shape hown6
        have X6 := Lib.hid (XR.out.step hb6)
        have R2 := Lib.hid (Reads.below RR.out hb6)
        clear hb6 hown6 xr
        go_wp2_with fail
        refine (laws_withinTexts _ _ ms ns _ R6.out R2.out (by omega) (by omega) Hwi.out).mono ?_
        rintro _ _ ⟨rfl, rfl⟩
        go_wp2_with fail
        go_ret
        exact ⟨rfl, bt Hb1.out X6.out.below⟩
  · have Hcf := Lib.hid hcf
    clear hcf
    go_wp2_with fail
    refine (impl_CanFind _ fs (fun _ => True) _ xs s _ (HF.out.below X4.out.below) Hz2.out (HP.out.below X4.out.below) (by omega)).mono ?_
    rintro _ w5 ⟨rfl, hb5⟩
    rw [Hcf.out]
    have X5 := Lib.hid (X4.out.step hb5)
    have x5 : w5.cell? ⟨w1.heap.size, 0, none⟩ = some (.slice va fs.length vc) := X5.out.cell 0
    have R2 := Lib.hid (Reads.below R2.out hb5)
    clear hb5 x4
    go_wp2_with fail
    refine (spec_EdgesOf _ fs (fun _ => True) _ xs s _ (HF.out.below X5.out.below) Hz2.out (HP.out.below X5.out.below) (by omega)).mono ?_
    rintro _ w6 ⟨v6, rfl, hown6, hb6⟩
    rw [← Hns.out] at hown6
    have R6 := Lib.hid (Reads.of_owns hown6)
    obtain ⟨a6, c6, rfl⟩ := owns_shape hown6
    have X6 := Lib.hid (X5.out.step hb6)
    have R2 := Lib.hid (Reads.below R2.out hb6)
    clear hb6 hown6 x5
    go_wp2_with fail
    refine (laws_equalTexts _ _ ns ns _ R2.out R6.out (by omega) (by omega)).mono ?_
    rintro _ w7 ⟨rfl, hb7⟩
    rw [decide_eq_true rfl]
    have X7 := Lib.hid (X6.out.step hb7)
    clear hb7
    go_wp2_with fail
    go_ret
    exact ⟨rfl, bt Hb1.out X7.out.below⟩

/-! ### THE STEP TO THE ROW -/
set_option maxRecDepth 100000 in
theorem lifted (os : Os) (started : os.Started) (H : Type) (enc : TypeId × Value → H) :
    ReturnsInHanded {} Tryz.checked os 13 .any (Rows.fnEdgesOfSpec.pre6 enc Tryz.prog Tryz.f13 Rows.fnEdgesOfRow.domain false) (Rows.fnEdgesOfSpec.post enc Tryz.prog Tryz.f13 false true false false) := by
  refine returnsInHanded_of_change (C := Tryz.checked) own started (by kernel_rfl) Tryz.func13
    (ChangeSpec.witness6 (enc := enc) (C := Tryz.checked) false ⟨#[], #[.slice none 0 0], []⟩ 8 (by kernel_rfl) (by kernel_rfl) (by kernel_rfl) (by kernel_rfl)) ?_
  intro W base args ds gs before hval0 hW hcnd _
  have hval : ∀ (j : Nat) t v, Tryz.f13.params[j]? = some t → args[j]? = some v → Value.okWide Tryz.prog W .any base t v := hval0
  have hW' := hW
  obtain ⟨p, q, hA0, hV, rfl, hfz, hnd⟩ := hW
  have hA : DataW.TrodAll enc Tryz.prog W 0 (fun _ => true) true Tryz.f13.params.toList args.toList ds p := hA0
  rw [Tryz.params13] at hA hval
  obtain ⟨v0, vs0, d0, ds0, p0, q0, hargs, rfl, rfl, h0, r0⟩ := trodAll_cons hA
  obtain ⟨rfl, rfl, rfl⟩ := trodAll_nil r0
  obtain rfl : args = #[v0] := by cases args; simp_all
  obtain ⟨rfl, rfl⟩ := trodVars_none hV
  obtain ⟨a0, len0, cap0, rfl⟩ := okWide_slice Tryz.underlying48 (hval 0 48 v0 rfl rfl)
  have k0 := h0
  have lt0 : ∀ x ∈ p0, x.block < W.heap.size := by obtain ⟨m, hm⟩ := k0; exact DataW.trod_lt m _ _ _ hm
  have w0 : Code W W.heap.size a0 len0 cap0 := by
    obtain ⟨fuel, hf⟩ := h0
    rcases open_ints Tryz.underlying48 Tryz.underlying5 (by kernel_rfl) hf with ⟨hcs, _⟩ | ⟨x, l, c, zs, hcs, _, hl, hm, hz, _, hcell, hwz⟩
    · simp [Value.cells] at hcs
      obtain ⟨rfl, rfl, rfl⟩ := hcs
      exact .inl ⟨rfl, by unfold maxLen; omega⟩
    · simp [Value.cells] at hcs
      obtain ⟨rfl, rfl, rfl⟩ := hcs
      exact code_row W _ _ _ zs hl hm (by simpa using hz) hcell hwz
  clear hA0 hval0
  refine (walk a0 len0 cap0 W w0).mono fun e W' ⟨he, bel⟩ => ?_
  subst he
  exact ⟨_, rfl, _, _, _, [], _, [], hW', trodAll_mk1 (shut_bool Tryz.underlying4 _), (trodAll_cons_mk (Below.trod laidOut (by kernel_rfl) (of_decide_eq_true (by kernel_rfl)) k0 bel lt0) trodAll_mk0), rfl, bel.frame _, fun h => by cases h⟩

set_option maxRecDepth 100000 in
set_option maxHeartbeats 16000000 in
theorem closed : joinedFacts Tryz.pinned.checked.prog 13 Tryz.f13 Rows.fnEdgesOfSpec Rows.fnEdgesOfRow = true := by
  unfold joinedFacts
  simp only [Bool.and_eq_true]
  with_reducible repeat' apply And.intro
  rotate_left 25
  exact Facts.enter
  exact Facts.lifts
  exact Facts.make
  all_goals as_aux_lemma => exact of_decide_eq_true (by kernel_rfl)

theorem over : Rows.fnEdgesOfRow.holds Tryz.pinned (OpenSpec.ofChange Rows.fnEdgesOfSpec) :=
  OpenClaim.holds_of_wide 13 Tryz.f13 rfl rfl rfl rfl rfl rfl rfl ⟨rfl, rfl, rfl, rfl, rfl⟩ rfl rfl rfl rfl rfl (by kernel_rfl) Tryz.func13 closed
    (of_decide_eq_true (by kernel_rfl)) (by unfold Func.isWrapper; first | (rw [if_pos (by decide +kernel)]; kernel_rfl) | (rw [if_neg (by decide +kernel)]; exact ⟨rfl, rfl⟩))
    (fun os started H enc _ => lifted os started H enc)

/-- THE STATEMENT -/
theorem proved : Rows.FnEdgesOfSaid := over
end Go.Proofs.YtfchakfkgmhagaaGreat.FnEdgesOf
