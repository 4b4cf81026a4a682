/- FnReachOf returns true for every code. Written by mkp7.py. -/
import Derived.Test.YtcmnldomcpjlcaaGreatDrawZ

import Derived.Test.YtcmnldomcpjlcaaGreatLooks
import Derived.Test.YtcmnldomcpjlcaaGreatRangeC
import Derived.Test.YtcmnldomcpjlcaaGreatSReach
import Derived.Test.YtcmnldomcpjlcaaGreatTexts
import Derived.Test.YtcmnldomcpjlcaaGreatTexts
import Derived.Test.YtcmnldomcpjlcaaGreatFrame
import Derived.Test.YtcmnldomcpjlcaaGreatFacts
import Derived.Deep.RegionHeld3
set_option linter.unusedVariables false
set_option linter.unusedSimpArgs false
namespace Go.Proofs.YtcmnldomcpjlcaaGreat.FnReachOf
open Go.Sort Go.ChangeShapes Go.WideShapes Go.ChangeAt Go.RowKit Go.Proofs.YtcmnldomcpjlcaaGreat.Nm

set_option maxRecDepth 100000 in
set_option maxHeartbeats 8000000 in
theorem walk (a : Option Addr) (n cap : Nat) (w : World) (hc : Code w w.heap.size a n cap) :
    Calls Tryz.prog 8 #[.slice a n cap] w fun e w' => e = .returned (.bool true) ∧ Below w.heap.size w w' := by
  by_cases hn : (1048576 : Int) < (n : Int)
  · go_enter Tryz.func8, Tryz.ntmps8
    go_wp2_with fail
    go_ret
    exact ⟨rfl, Below.refl _ _⟩
  have Hc := Lib.hid hc
  clear hc
  have hf0 := fld0
  have hf1 := fld1
  go_enter Tryz.func8, Tryz.ntmps8
  go_wp2_with fail
  refine (spec_DrawReachOf a n cap w Hc.out).mono ?_
  rintro e w1 ⟨v, ps, pv, xs, s, rfl, ⟨hrows, hsh, hl, hb5, hb1⟩, hp, hx3, hs17⟩
  obtain ⟨va, vc, rfl⟩ := hrows.len
  have HR := Lib.hid hrows
  obtain ⟨fs, hfs⟩ : ∃ fs, fs = ps.map (·.1) := ⟨_, rfl⟩
  have Hfs := Lib.hid hfs
  have hfl : fs.length = ps.length := by rw [hfs, List.length_map]
  have HF := Lib.hid (show FilsIn w1 (fun _ => True) (.slice va ps.length vc) fs by rw [hfs]; exact hrows.fils)
  have Hz8 := Lib.hid (show ShortT 8000000 fs by rw [hfs]; exact shortT_mono (by omega) hsh)
  have Hz2 := Lib.hid (show ShortT 2000000 fs by rw [hfs]; exact shortT_mono (by omega) hsh)
  have Hb1 := Lib.hid hb1
  have B0 := Nm.Boxed.start w1 #[.slice va ps.length vc] 31
  have hl11 : fs.length ≤ 11 := by omega
  clear hrows hsh hb5 hb1 hfs
  generalize ps.length = pn at *
  subst hfl
  have X1 := Lib.hid B0
  clear B0
  obtain ⟨pa, pc, rfl⟩ := hp.len
  have HP := Lib.hid hp.ints
  clear hp
  obtain ⟨ns, hns⟩ : ∃ x, x = reachOf fs xs s := ⟨_, rfl⟩
  have hnl : ns.length ≤ 300 := by rw [hns]; exact (reachOf_facts _ _ _).1
  have Hns := Lib.hid hns
  clear hns
  go_wp2_with fail
  refine (impl_ReachOf _ fs (fun _ => True) _ xs s _ (HF.out.below X1.out.below) Hz2.out (HP.out.below X1.out.below) (by omega)).mono ?_
  rintro _ w2 ⟨v2, rfl, hown2, hb2⟩
  rw [← Hns.out] at hown2
  have R2 := Lib.hid (Reads.of_owns hown2)
  obtain ⟨a2, c2, rfl⟩ := owns_shape hown2
  have X2 := Lib.hid (X1.out.step hb2)
  have x2 : w2.cell? ⟨w1.heap.size, 0, none⟩ = some (.slice va fs.length vc) := X2.out.cell 0
  clear hb2 hown2
  go_wp2_with fail
  refine (spec_ReachOf _ fs (fun _ => True) _ xs s _ (HF.out.below X2.out.below) Hz2.out (HP.out.below X2.out.below) (by omega)).mono ?_
  rintro _ w3 ⟨v3, rfl, hown3, hb3⟩
  rw [← Hns.out] at hown3
  have R3 := Lib.hid (Reads.of_owns hown3)
  obtain ⟨a3, c3, rfl⟩ := owns_shape hown3
  have X3 := Lib.hid (X2.out.step hb3)
  have x3 : w3.cell? ⟨w1.heap.size, 0, none⟩ = some (.slice va fs.length vc) := X3.out.cell 0
  have R2 := Lib.hid (Reads.below R2.out hb3)
  clear hb3 hown3 x2
  go_wp2_with fail
  refine (laws_equalTexts _ _ ns ns _ R2.out R3.out (by omega) (by omega)).mono ?_
  rintro _ w4 ⟨rfl, hb4⟩
  rw [decide_eq_true rfl]
  have X4 := Lib.hid (X3.out.step hb4)
  have x4 : w4.cell? ⟨w1.heap.size, 0, none⟩ = some (.slice va fs.length vc) := X4.out.cell 0
  have R2 := Lib.hid (Reads.below R2.out hb4)
  clear hb4 x3
  by_cases h0 : ns = []
  · obtain rfl : ns = [] := h0
    go_wp2_with fail
    refine (spec_ReachOf _ fs (fun _ => True) _ xs s _ (HF.out.below X4.out.below) Hz2.out (HP.out.below X4.out.below) (by omega)).mono ?_
    rintro _ w5 ⟨v5, rfl, hown5, hb5⟩
    rw [← Hns.out] at hown5
    have R5 := Lib.hid (Reads.of_owns hown5)
    obtain ⟨a5, c5, rfl⟩ := owns_shape hown5
    have X5 := Lib.hid (X4.out.step hb5)
    have R2 := Lib.hid (Reads.below R2.out hb5)
    clear hb5 hown5 x4
    go_wp2_with fail
    refine (laws_equalTexts _ _ [] [] _ R2.out R5.out (by omega) (by omega)).mono ?_
    rintro _ w6 ⟨rfl, hb6⟩
    rw [decide_eq_true rfl]
    have X6 := Lib.hid (X5.out.step hb6)
    clear hb6
    go_wp2_with fail
    go_ret
    exact ⟨rfl, bt Hb1.out X6.out.below⟩
  · have hpos : 0 < ns.length := List.length_pos_iff.2 h0
    have hn0 : ((ns.length : Int) == 0) = false := by rw [beq_eq_false_iff_ne]; omega
    have hne := reachOf_ne (t := fs) (path := xs) (s := s) (by rw [← Hns.out]; exact h0)
    have Hcl := Lib.hid (show ∀ x ∈ ns, ∀ y ∈ edgesOf fs xs x, y ∈ ns by
      rw [Hns.out]
      intro x hx y hy
      rw [reachOf_mem hne.1] at hx ⊢
      exact reachAll_closed (okLook_tree hne.1) (namesAbove_nodup s) hx hy)
    have Hab := Lib.hid (show ∀ x ∈ namesAbove s, x ∈ ns by
      rw [Hns.out]
      intro x hx
      rw [reachOf_mem hne.1]
      exact reachAll_sub.subset hx)
    have Hup := Lib.hid (show Up ns by rw [Hns.out]; exact reachOf_up _ _ _)
    have Hvs := Lib.hid (show ∀ x ∈ ns, x.length ≤ 8000000 by rw [Hns.out]; exact fun x hx => Nat.le_trans (vn_len ((reachOf_facts fs xs s).2.1 x hx)) (by omega))
    clear h0 hne
    go_wp2_with fail
    go_loopw [7] (fun iv wr => ∃ k : Nat, k ≤ ns.length ∧ iv = .int .i64 k ∧ Nm.Boxed w1 #[.slice va fs.length vc] 31 wr ∧ Reads wr (.slice a2 ns.length c2) ns) (fun iv _ => ns.length - (intOf iv).toNat)
    case atStart => exact ⟨0, by omega, rfl, X4.out, R2.out⟩
    case round =>
      obtain ⟨k, hk, rfl, hbx, hrd⟩ := hrel
      have XR := Lib.hid hbx
      have RR := Lib.hid hrd
      have xr : wr.cell? ⟨w1.heap.size, 0, none⟩ = some (.slice va fs.length vc) := XR.out.cell 0
      have lr := XR.out.lt
      clear hbx hrd R2 x4
      by_cases hlt : k < ns.length
      · obtain ⟨gl, ol, cl, el, _, _, hgs, hcl⟩ := Reads.some RR.out (by omega)
        simp only [Value.slice.injEq] at el
        obtain ⟨rfl, _, rfl⟩ := el
        have hcell := hcl k hlt
        have hk1 : (k : Int) < (ns.length : Int) := by omega
        have hk0' : (0 : Int) ≤ (k : Int) := by omega
        clear hcl
        have hnl8 := Hvs.out _ (List.getElem_mem hlt)
        have Hsub0 := Lib.hid (Hcl.out _ (List.getElem_mem hlt))
        generalize ns[k] = nm at *
        have Hk := Lib.hid (fun (w' : World) (hC : Below wr.heap.size wr w') => (⟨(hC.cell (p := ⟨w1.heap.size, 0, none⟩) lr).trans xr, (hC.cell (p := ⟨gl, ol + k, none⟩) hgs).trans hcell, hC⟩ : w'.cell? ⟨w1.heap.size, 0, none⟩ = some (.slice va fs.length vc) ∧ w'.cell? ⟨gl, ol + k, none⟩ = some (.string (mk nm)) ∧ Below wr.heap.size wr w'))
        rcases (show canFind fs xs nm = true ∨ canFind fs xs nm = false by cases canFind fs xs nm <;> simp) with hcf | hcf
        · have Hcf := Lib.hid hcf
          have heL := (edgesOf_ok fs xs nm).2.2
          obtain ⟨es, hes⟩ : ∃ es, es = edgesOf fs xs nm := ⟨_, rfl⟩
          rw [← hes] at heL
          have Hsub := Lib.hid (show ∀ y ∈ es, y ∈ ns by rw [hes]; exact Hsub0.out)
          have Hes := Lib.hid hes.symm
          clear hcf hes
          go_wp2_with fail
          go_region_held3 (fun w' => w'.cell? ⟨w1.heap.size, 0, none⟩ = some (.slice va fs.length vc) ∧ w'.cell? ⟨gl, ol + k, none⟩ = some (.string (mk nm)) ∧ Below wr.heap.size wr w')
            (first | exact Hk.out _ Hb9.out | exact Hk.out _ Hb8.out | exact Hk.out _ (by (repeat (with_reducible first | exact Below.refl _ _ | assumption | refine ba ?_ _ | refine bd ?_ | refine bdN ?_ _ | refine bs ?_ (by first | exact Nat.le_refl _ | (dsimp only; omega) | (simp; done)) _ | refine bt ?_ (by assumption)))))
            (first
              | (go_at_call 41; refine (impl_CanFind _ fs (fun _ => True) _ xs nm _ (HF.out.below (bt XR.out.below (by (repeat (with_reducible first | exact Below.refl _ _ | assumption | refine ba ?_ _ | refine bd ?_ | refine bdN ?_ _ | refine bs ?_ (by first | exact Nat.le_refl _ | (dsimp only; omega) | (simp; done)) _ | refine bt ?_ (by assumption)))))) Hz2.out (HP.out.below (bt XR.out.below (by (repeat (with_reducible first | exact Below.refl _ _ | assumption | refine ba ?_ _ | refine bd ?_ | refine bdN ?_ _ | refine bs ?_ (by first | exact Nat.le_refl _ | (dsimp only; omega) | (simp; done)) _ | refine bt ?_ (by assumption)))))) (by omega)).mono ?_; rintro _ w8 ⟨rfl, hb8⟩; rw [Hcf.out]; have Hb8 := Lib.hid (show Below wr.heap.size wr w8 by (repeat (with_reducible first | exact Below.refl _ _ | assumption | refine ba ?_ _ | refine bd ?_ | refine bdN ?_ _ | refine bs ?_ (by first | exact Nat.le_refl _ | (dsimp only; omega) | (simp; done)) _ | refine bt ?_ (by assumption)))); clear hb8)
              | (go_at_call 43; refine (impl_EdgesOf _ fs (fun _ => True) _ xs nm _ (HF.out.below (bt XR.out.below (by first | exact Hb8.out | (have := Hb8.out; (repeat (with_reducible first | exact Below.refl _ _ | assumption | refine ba ?_ _ | refine bd ?_ | refine bdN ?_ _ | refine bs ?_ (by first | exact Nat.le_refl _ | (dsimp only; omega) | (simp; done)) _ | refine bt ?_ (by assumption))))))) Hz2.out (HP.out.below (bt XR.out.below (by first | exact Hb8.out | (have := Hb8.out; (repeat (with_reducible first | exact Below.refl _ _ | assumption | refine ba ?_ _ | refine bd ?_ | refine bdN ?_ _ | refine bs ?_ (by first | exact Nat.le_refl _ | (dsimp only; omega) | (simp; done)) _ | refine bt ?_ (by assumption))))))) (by omega)).mono ?_; rintro _ w9 ⟨v9, rfl, hown9, hb9⟩; rw [Hes.out] at hown9; have R9 := Lib.hid (Reads.of_owns hown9); have Hb9 := Lib.hid (show Below wr.heap.size wr w9 by have := Hb8.out; (repeat (with_reducible first | exact Below.refl _ _ | assumption | refine ba ?_ _ | refine bd ?_ | refine bdN ?_ _ | refine bs ?_ (by first | exact Nat.le_refl _ | (dsimp only; omega) | (simp; done)) _ | refine bt ?_ (by assumption)))); clear hown9 hb9)
              | (go_at_call 42; refine (laws_withinTexts _ _ es ns _ (Reads.below R9.out (by (repeat (with_reducible first | exact Below.refl _ _ | assumption | refine ba ?_ _ | refine bd ?_ | refine bdN ?_ _ | refine bs ?_ (by first | exact Nat.le_refl _ | (dsimp only; omega) | (simp; done)) _ | refine bt ?_ (by assumption))))) (Reads.below RR.out (by first | exact Hb9.out | (have := Hb9.out; (repeat (with_reducible first | exact Below.refl _ _ | assumption | refine ba ?_ _ | refine bd ?_ | refine bdN ?_ _ | refine bs ?_ (by first | exact Nat.le_refl _ | (dsimp only; omega) | (simp; done)) _ | refine bt ?_ (by assumption)))))) (by omega) (by omega) Hsub.out).mono ?_; rintro _ _ ⟨rfl, rfl⟩))
          all_goals
            have hb9 : Below wr.heap.size wr w9 := Hb9.out
            go_wp2_with fail
            go_roundw
            case rel => exact ⟨k + 1, by omega, by go_num, XR.out.step hb9, Reads.below RR.out hb9⟩
            case measure => simp [intOf]; omega
        · have Hcf := Lib.hid hcf
          clear hcf
          have kA := cell_regrown xr
          have kB := cell_regrown hcell
          have cP : ∀ d os, Calls Tryz.prog 41 #[.agg #[.slice va fs.length vc], .slice pa xs.length pc, .string (mk nm)] (grow (redrawn wr d) os) fun e w'' => e = .returned (.bool false) ∧ ∃ p : Regrown, w'' = grow (redrawn wr p.d) p.os := fun d os => Calls.regrown_of (by have h := impl_CanFind _ fs (fun _ => True) _ xs nm (grow (redrawn wr d) os) (HF.out.below (bt XR.out.below (below_regrown wr d os))) Hz2.out (HP.out.below (bt XR.out.below (below_regrown wr d os))) (by omega); rw [Hcf.out] at h; exact h)
          go_wp2_with fail
          refine wp_region_quiet_below (by kernel_rfl) (by kernel_rfl) ?_
          repeat (go_big_quiet_step (exact cP _ _))
          refine wpQuiet_nil ?_
          intro _ hw'
          obtain ⟨⟨dq, osq⟩, hw2⟩ := hw'
          subst hw2
          have Hb9 := Lib.hid (below_regrown wr dq osq)
          clear cP kA kB
          go_wp2_with fail
          go_roundw
          case rel => exact ⟨k + 1, by omega, by go_num, XR.out.step Hb9.out, Reads.below RR.out Hb9.out⟩
          case measure => simp [intOf]; omega
      · obtain rfl : k = ns.length := by omega
        have hna3 := namesAbove_le3 s
        go_wp2_with fail
        refine (impl_NamesAbove s _ (by omega)).mono ?_
        rintro _ w6 ⟨v6, rfl, hown6, hb6⟩
        have R6 := Lib.hid (Reads.of_owns hown6)
        obtain ⟨a6, c6, rfl⟩ := owns_shape hown6
        have X6 := Lib.hid (XR.out.step hb6)
        have R2 := Lib.hid (Reads.below RR.out hb6)
        clear hb6 hown6 xr
        generalize namesAbove s = ms at *
        go_wp2_with fail
        refine (laws_withinTexts _ _ ms ns _ R6.out R2.out (by omega) (by omega) Hab.out).mono ?_
        rintro _ _ ⟨rfl, rfl⟩
        go_wp2_with fail
        refine (laws_rises _ ns _ R2.out (by omega) Hup.out).mono ?_
        rintro _ w8 ⟨rfl, hb8⟩
        have X8 := Lib.hid (X6.out.step hb8)
        clear hb8
        go_wp2_with fail
        go_ret
        exact ⟨rfl, bt Hb1.out X8.out.below⟩

/-! ### THE STEP TO THE ROW -/
set_option maxRecDepth 100000 in
theorem lifted (os : Os) (started : os.Started) (H : Type) (enc : TypeId × Value → H) :
    ReturnsInHanded {} Tryz.checked os 8 .any (Rows.fnReachOfSpec.pre6 enc Tryz.prog Tryz.f8 Rows.fnReachOfRow.domain false) (Rows.fnReachOfSpec.post enc Tryz.prog Tryz.f8 false true false false) := by
  refine returnsInHanded_of_change (C := Tryz.checked) own started (by kernel_rfl) Tryz.func8
    (ChangeSpec.witness6 (enc := enc) (C := Tryz.checked) false ⟨#[], #[.slice none 0 0], []⟩ 8 (by kernel_rfl) (by kernel_rfl) (by kernel_rfl) (by kernel_rfl)) ?_
  intro W base args ds gs before hval0 hW hcnd _
  have hval : ∀ (j : Nat) t v, Tryz.f8.params[j]? = some t → args[j]? = some v → Value.okWide Tryz.prog W .any base t v := hval0
  have hW' := hW
  obtain ⟨p, q, hA0, hV, rfl, hfz, hnd⟩ := hW
  have hA : DataW.TrodAll enc Tryz.prog W 0 (fun _ => true) true Tryz.f8.params.toList args.toList ds p := hA0
  rw [Tryz.params8] at hA hval
  obtain ⟨v0, vs0, d0, ds0, p0, q0, hargs, rfl, rfl, h0, r0⟩ := trodAll_cons hA
  obtain ⟨rfl, rfl, rfl⟩ := trodAll_nil r0
  obtain rfl : args = #[v0] := by cases args; simp_all
  obtain ⟨rfl, rfl⟩ := trodVars_none hV
  obtain ⟨a0, len0, cap0, rfl⟩ := okWide_slice Tryz.underlying48 (hval 0 48 v0 rfl rfl)
  have k0 := h0
  have lt0 : ∀ x ∈ p0, x.block < W.heap.size := by obtain ⟨m, hm⟩ := k0; exact DataW.trod_lt m _ _ _ hm
  have w0 : Code W W.heap.size a0 len0 cap0 := by
    obtain ⟨fuel, hf⟩ := h0
    rcases open_ints Tryz.underlying48 Tryz.underlying5 (by kernel_rfl) hf with ⟨hcs, _⟩ | ⟨x, l, c, zs, hcs, _, hl, hm, hz, _, hcell, hwz⟩
    · simp [Value.cells] at hcs
      obtain ⟨rfl, rfl, rfl⟩ := hcs
      exact .inl ⟨rfl, by unfold maxLen; omega⟩
    · simp [Value.cells] at hcs
      obtain ⟨rfl, rfl, rfl⟩ := hcs
      exact code_row W _ _ _ zs hl hm (by simpa using hz) hcell hwz
  clear hA0 hval0
  refine (walk a0 len0 cap0 W w0).mono fun e W' ⟨he, bel⟩ => ?_
  subst he
  exact ⟨_, rfl, _, _, _, [], _, [], hW', trodAll_mk1 (shut_bool Tryz.underlying4 _), (trodAll_cons_mk (Below.trod laidOut (by kernel_rfl) (of_decide_eq_true (by kernel_rfl)) k0 bel lt0) trodAll_mk0), rfl, bel.frame _, fun h => by cases h⟩

set_option maxRecDepth 100000 in
set_option maxHeartbeats 16000000 in
theorem closed : joinedFacts Tryz.pinned.checked.prog 8 Tryz.f8 Rows.fnReachOfSpec Rows.fnReachOfRow = true := by
  unfold joinedFacts
  simp only [Bool.and_eq_true]
  with_reducible repeat' apply And.intro
  rotate_left 25
  exact Facts.enter
  exact Facts.lifts
  exact Facts.make
  all_goals as_aux_lemma => exact of_decide_eq_true (by kernel_rfl)

theorem over : Rows.fnReachOfRow.holds Tryz.pinned (OpenSpec.ofChange Rows.fnReachOfSpec) :=
  OpenClaim.holds_of_wide 8 Tryz.f8 rfl rfl rfl rfl rfl rfl rfl ⟨rfl, rfl, rfl, rfl, rfl⟩ rfl rfl rfl rfl rfl (by kernel_rfl) Tryz.func8 closed
    (of_decide_eq_true (by kernel_rfl)) (by unfold Func.isWrapper; first | (rw [if_pos (by decide +kernel)]; kernel_rfl) | (rw [if_neg (by decide +kernel)]; exact ⟨rfl, rfl⟩))
    (fun os started H enc _ => lifted os started H enc)

/-- THE STATEMENT -/
theorem proved : Rows.FnReachOfSaid := over
end Go.Proofs.YtcmnldomcpjlcaaGreat.FnReachOf
