/- FnCompileTree returns true for every code. Written by mkwf.py. -/
import Derived.Test.YtomdmkhgkaalnaaDrawZ
import Derived.Test.YtomdmkhgkaalnaaPlainW
import Derived.Test.YtomdmkhgkaalnaaCTree
import Derived.Test.YtomdmkhgkaalnaaWrong
import Derived.Test.YtomdmkhgkaalnaaEqCmp
import Derived.Test.YtomdmkhgkaalnaaStores
import Derived.Test.YtomdmkhgkaalnaaFrame
set_option linter.unusedVariables false
set_option linter.unusedSimpArgs false
namespace Go.Proofs.Ytomdmkhgkaalnaa.FnCompileTree
open Go.Sort Go.ChangeShapes Go.WideShapes Go.ChangeAt Go.RowKit Go.Proofs.Ytomdmkhgkaalnaa.Nm

set_option maxRecDepth 100000 in
set_option maxHeartbeats 16000000 in
theorem walk (a : Option Addr) (n cap : Nat) (w : World) (hc : Code w w.heap.size a n cap) :
    Calls Try.prog 10 #[.slice a n cap] w fun e w' => e = .returned (.bool true) ∧ Below w.heap.size w w' := by
  by_cases hn : (1048576 : Int) < (n : Int)
  · go_enter Try.func10, Try.ntmps10
    go_wp2_with fail
    go_ret
    exact ⟨rfl, Below.refl _ _⟩
  have Hc := Lib.hid hc
  clear hc
  go_enter Try.func10, Try.ntmps10
  go_wp2_with fail
  refine (spec_DrawCompileTree a n cap w Hc.out).mono ?_
  rintro e w1 ⟨v, ps, m, rfl, ⟨htr, hsh, hp10, hbl, hb1⟩⟩
  have htree : RowsFB w1 _ v ps := ⟨htr.1, htr.2, trivial⟩
  clear htr
  obtain ⟨va, vc, rfl⟩ := htree.len
  obtain ⟨fs, hfs⟩ : ∃ fs, fs = ps.map (·.1) := ⟨_, rfl⟩
  have hlf : ps.length = fs.length := by rw [hfs, List.length_map]
  have Hpf := Lib.hid hfs.symm
  have HT := Lib.hid htree
  have HF := Lib.hid (show FilsIn w1 (fun _ => True) (.slice va ps.length vc) fs by rw [hfs]; exact htree.fils (fun _ _ => trivial))
  have HZs := Lib.hid (show ∀ p ∈ ps, ShortF 8 p.1 from fun p hp => hsh _ (List.mem_map.2 ⟨p, hp, rfl⟩))
  have HT1 := Lib.hid (show ShortT 1048576 fs by rw [hfs]; exact shortT_mono (by omega) hsh)
  have HT8 := Lib.hid (show ShortT 8000000 fs by rw [hfs]; exact shortT_mono (by omega) hsh)
  have HFo := Lib.hid (show filsCost' fs from ⟨by omega, fun f hf => by rw [hfs] at hf; obtain ⟨p, hp, rfl⟩ := List.mem_map.1 hf; have := hbl p hp; omega⟩)
  have HBl := Lib.hid hbl
  have hp12 : fs.length ≤ 12 := by omega
  have Hb1 := Lib.hid hb1
  rw [hlf] at HT HF ⊢
  have Hlf := Lib.hid hlf
  clear htree hfs hlf hsh hbl hb1
  have X1 := Lib.hid (Boxed.start w1 #[.slice va fs.length vc] 33)
  obtain ⟨cs, hcs⟩ : ∃ cs, cs = compileTree fs m := ⟨_, rfl⟩
  have Hic := Lib.hid (fun (W : World) (hb : Below w1.heap.size w1 W) => (show Calls Try.prog 45 #[.agg #[.slice va fs.length vc], .int .i64 m] W (NewCmps cs W) by rw [hcs]; exact impl_CompileTree _ fs ps m _ W (HT.out.below hb) Hpf.out HT1.out HFo.out))
  have Hsc := Lib.hid (fun (W : World) (hb : Below w1.heap.size w1 W) => (show Calls Try.prog 46 #[.agg #[.slice va fs.length vc], .int .i64 m] W (NewCmps cs W) by rw [hcs]; exact spec_CompileTree _ fs ps m _ W (HT.out.below hb) Hpf.out HT1.out HFo.out))
  have Hcs := Lib.hid hcs
  clear hcs
  go_wp2_with fail
  refine (Hic.out _ (by first | exact X1.out.below | (repeat (with_reducible first | exact Below.refl _ _ | assumption | refine ba ?_ _ | refine bd ?_ | refine bdN ?_ _ | refine bs ?_ (by first | exact Nat.le_refl _ | (dsimp only; omega) | (simp; done)) _ | refine bt ?_ (by assumption))))).mono ?_
  rintro _ w2 ⟨v2, r2, rfl, m2, o2, hb2⟩
  have X2 := Lib.hid (X1.out.step hb2)
  have x0 : w2.cell? ⟨w1.heap.size, 0, none⟩ = some (.slice va fs.length vc) := X2.out.cell 0
  obtain ⟨a2, c2, rfl⟩ := o2.len
  have hr2 : r2.length = (cs).length := by rw [← m2, List.length_map]
  have HC2 := Lib.hid (show CmpsIn w2 (fun _ => True) (.slice a2 (cs).length c2) (cs) by have h := o2.fils (D := fun _ => True) (fun _ _ => trivial); rw [m2, hr2] at h; exact h)
  have HQ2 := Lib.hid (show RowsC8 w2 _ (.slice a2 (cs).length c2) r2 by have h := o2.rows; rw [hr2] at h; exact h)
  have Hm2 := Lib.hid m2
  rw [hr2]
  clear o2 m2 hr2
  go_wp2_with fail
  refine (Hsc.out _ (by first | exact X2.out.below | (repeat (with_reducible first | exact Below.refl _ _ | assumption | refine ba ?_ _ | refine bd ?_ | refine bdN ?_ _ | refine bs ?_ (by first | exact Nat.le_refl _ | (dsimp only; omega) | (simp; done)) _ | refine bt ?_ (by assumption))))).mono ?_
  rintro _ w3 ⟨v3, r3, rfl, m3, o3, hb3⟩
  have X3 := Lib.hid (X2.out.step hb3)
  clear x0
  have x0 : w3.cell? ⟨w1.heap.size, 0, none⟩ = some (.slice va fs.length vc) := X3.out.cell 0
  obtain ⟨a3, c3, rfl⟩ := o3.len
  have hr3 : r3.length = (cs).length := by rw [← m3, List.length_map]
  have HC3 := Lib.hid (show CmpsIn w3 (fun _ => True) (.slice a3 (cs).length c3) (cs) by have h := o3.fils (D := fun _ => True) (fun _ _ => trivial); rw [m3, hr3] at h; exact h)
  have HQ3 := Lib.hid (show RowsC8 w3 _ (.slice a3 (cs).length c3) r3 by have h := o3.rows; rw [hr3] at h; exact h)
  have Hm3 := Lib.hid m3
  rw [hr3]
  clear o3 m3 hr3
  go_wp2_with fail
  refine (laws_equalStore _ _ cs _ _ _ (HC2.out.below (by first | exact X3.out.below | (repeat (with_reducible first | exact Below.refl _ _ | assumption | refine ba ?_ _ | refine bd ?_ | refine bdN ?_ _ | refine bs ?_ (by first | exact Nat.le_refl _ | (dsimp only; omega) | (simp; done)) _ | refine bt ?_ (by assumption))))) (HC3.out.below (by first | exact X3.out.below | (repeat (with_reducible first | exact Below.refl _ _ | assumption | refine ba ?_ _ | refine bd ?_ | refine bdN ?_ _ | refine bs ?_ (by first | exact Nat.le_refl _ | (dsimp only; omega) | (simp; done)) _ | refine bt ?_ (by assumption)))))).mono ?_
  rintro _ w4 ⟨rfl, hb4⟩
  have X4 := Lib.hid (X3.out.step hb4)
  clear x0
  have x0 : w4.cell? ⟨w1.heap.size, 0, none⟩ = some (.slice va fs.length vc) := X4.out.cell 0
  by_cases h0 : cs.length = 0
  · have hc0 : cs = [] := List.length_eq_zero_iff.1 h0
    rw [hc0] at HC2 HC3 Hsc ⊢
    simp only [List.length_nil] at HC2 HC3 ⊢
    clear h0 hc0
    go_wp2_with fail
    refine (Hsc.out _ (by first | exact X4.out.below | (repeat (with_reducible first | exact Below.refl _ _ | assumption | refine ba ?_ _ | refine bd ?_ | refine bdN ?_ _ | refine bs ?_ (by first | exact Nat.le_refl _ | (dsimp only; omega) | (simp; done)) _ | refine bt ?_ (by assumption))))).mono ?_
    rintro _ w5 ⟨v5, r5, rfl, m5, o5, hb5⟩
    have X5 := Lib.hid (X4.out.step hb5)
    clear x0
    have x0 : w5.cell? ⟨w1.heap.size, 0, none⟩ = some (.slice va fs.length vc) := X5.out.cell 0
    obtain ⟨a5, c5, rfl⟩ := o5.len
    have hr5 : r5.length = 0 := by rw [← List.length_map (f := fun (x : Cmp × Value) => x.1), m5]; rfl
    have HC5 := Lib.hid (show CmpsIn w5 (fun _ => True) (.slice a5 0 c5) [] by have h := o5.fils (D := fun _ => True) (fun _ _ => trivial); rw [m5, hr5] at h; exact h)
    rw [hr5]
    clear o5 m5 hr5
    go_wp2_with fail
    refine (laws_equalStore _ _ [] _ _ _ (HC2.out.below (by first | exact X5.out.below | (repeat (with_reducible first | exact Below.refl _ _ | assumption | refine ba ?_ _ | refine bd ?_ | refine bdN ?_ _ | refine bs ?_ (by first | exact Nat.le_refl _ | (dsimp only; omega) | (simp; done)) _ | refine bt ?_ (by assumption))))) (HC5.out.below (by first | exact X5.out.below | (repeat (with_reducible first | exact Below.refl _ _ | assumption | refine ba ?_ _ | refine bd ?_ | refine bdN ?_ _ | refine bs ?_ (by first | exact Nat.le_refl _ | (dsimp only; omega) | (simp; done)) _ | refine bt ?_ (by assumption)))))).mono ?_
    rintro _ w6 ⟨rfl, hb6⟩
    have X6 := Lib.hid (X5.out.step hb6)
    clear x0
    have x0 : w6.cell? ⟨w1.heap.size, 0, none⟩ = some (.slice va fs.length vc) := X6.out.cell 0
    go_wp2_with fail
    go_ret
    exact ⟨rfl, by have h := X6.out.below; have h1 := Hb1.out; exact h1.trans (h.mono h1.size)⟩
  · have h0b : ((cs.length : Int) == 0) = false := by rw [beq_eq_false_iff_ne]; omega
    have h0i : ¬ (cs.length : Int) = 0 := by omega
    obtain ⟨ht, hm⟩ : okTree fs = true ∧ inr m 0 2 = true := by
      cases hv : (okTree fs && inr m 0 2)
      · exact absurd (by rw [Hcs.out, compileTree_no hv]; rfl) h0
      · simpa using hv
    have hce := compileTree_yes ht hm
    rw [← Hcs.out] at hce
    have Hok := Lib.hid (show okStore cs = true by rw [hce]; exact okStore_comp ht hm)
    have Hwr := Lib.hid (show wrongs cs fs = [] by rw [hce]; exact wrongs_comp ht hm)
    have Hpr := Lib.hid (show prune cs fs = cs by rw [hce]; exact prune_comp ht hm)
    have hcl : cs.length = fs.length := by rw [hce, List.length_map]
    have HSS := Lib.hid (okStore_short Hok.out)
    have HS2 := Lib.hid (shortCs_mono (B := 2000000) (by omega) HSS.out.1)
    clear hce ht hm
    rw [hcl] at HC2 HQ2 ⊢
    have hcli : ((fs.length : Int) == (fs.length : Int)) = true := by simp
    have h0f : ¬ fs.length = 0 := by omega
    clear h0i h0b h0
    have h0b : ((fs.length : Int) == 0) = false := by rw [beq_eq_false_iff_ne]; omega
    have h0i : ¬ (fs.length : Int) = 0 := by omega
    go_wp2_with fail
    refine (impl_ValidStore _ cs _ _ (HC2.out.below (by first | exact X4.out.below | (repeat (with_reducible first | exact Below.refl _ _ | assumption | refine ba ?_ _ | refine bd ?_ | refine bdN ?_ _ | refine bs ?_ (by first | exact Nat.le_refl _ | (dsimp only; omega) | (simp; done)) _ | refine bt ?_ (by assumption))))) HS2.out).mono ?_
    rintro _ w5 ⟨rfl, hb5⟩
    have X5 := Lib.hid (X4.out.step hb5)
    clear x0
    have x0 : w5.cell? ⟨w1.heap.size, 0, none⟩ = some (.slice va fs.length vc) := X5.out.cell 0
    rw [Hok.out]
    go_wp2_with fail
    refine (impl_WrongFiles _ cs (fun _ => True) _ fs ps _ _ (HC2.out.below (by first | exact X5.out.below | (repeat (with_reducible first | exact Below.refl _ _ | assumption | refine ba ?_ _ | refine bd ?_ | refine bdN ?_ _ | refine bs ?_ (by first | exact Nat.le_refl _ | (dsimp only; omega) | (simp; done)) _ | refine bt ?_ (by assumption))))) HSS.out.1 (HT.out.below (by first | exact X5.out.below | (repeat (with_reducible first | exact Below.refl _ _ | assumption | refine ba ?_ _ | refine bd ?_ | refine bdN ?_ _ | refine bs ?_ (by first | exact Nat.le_refl _ | (dsimp only; omega) | (simp; done)) _ | refine bt ?_ (by assumption))))) Hpf.out HT1.out HFo.out).mono ?_
    rintro _ w6 ⟨v6, rfl, o6, hb6⟩
    have X6 := Lib.hid (X5.out.step hb6)
    clear x0
    have x0 : w6.cell? ⟨w1.heap.size, 0, none⟩ = some (.slice va fs.length vc) := X6.out.cell 0
    rw [Hwr.out] at o6
    obtain ⟨a6, c6, rfl⟩ := owns_shape o6
    have HI6 := Lib.hid (IntsIn.of_owns o6)
    clear o6
    go_wp2_with fail
    refine (impl_PruneStore _ cs r2 _ _ fs (fun _ => True) _ (HQ2.out.below (by first | exact X6.out.below | (repeat (with_reducible first | exact Below.refl _ _ | assumption | refine ba ?_ _ | refine bd ?_ | refine bdN ?_ _ | refine bs ?_ (by first | exact Nat.le_refl _ | (dsimp only; omega) | (simp; done)) _ | refine bt ?_ (by assumption))))) Hm2.out HSS.out.1 HSS.out.2 (HF.out.below (by first | exact X6.out.below | (repeat (with_reducible first | exact Below.refl _ _ | assumption | refine ba ?_ _ | refine bd ?_ | refine bdN ?_ _ | refine bs ?_ (by first | exact Nat.le_refl _ | (dsimp only; omega) | (simp; done)) _ | refine bt ?_ (by assumption))))) HT1.out HFo.out).mono ?_
    rintro _ w7 ⟨v7, r7, rfl, m7, o7, hb7⟩
    have X7 := Lib.hid (X6.out.step hb7)
    clear x0
    have x0 : w7.cell? ⟨w1.heap.size, 0, none⟩ = some (.slice va fs.length vc) := X7.out.cell 0
    rw [Hpr.out] at m7
    obtain ⟨a7, c7, rfl⟩ := o7.len
    have hr7 : r7.length = (cs).length := by rw [← m7, List.length_map]
    have HC7 := Lib.hid (show CmpsIn w7 (fun _ => True) (.slice a7 (cs).length c7) (cs) by have h := o7.fils (D := fun _ => True) (fun _ _ => trivial); rw [m7, hr7] at h; exact h)
    have HQ7 := Lib.hid (show RowsC8 w7 _ (.slice a7 (cs).length c7) r7 by have h := o7.rows; rw [hr7] at h; exact h)
    have Hm7 := Lib.hid m7
    rw [hr7, hcl]
    rw [hcl] at HC7
    clear o7 m7 hr7
    go_wp2_with fail
    refine (laws_equalStore _ _ cs _ _ _ (HC7.out.below (by first | exact X7.out.below | (repeat (with_reducible first | exact Below.refl _ _ | assumption | refine ba ?_ _ | refine bd ?_ | refine bdN ?_ _ | refine bs ?_ (by first | exact Nat.le_refl _ | (dsimp only; omega) | (simp; done)) _ | refine bt ?_ (by assumption))))) (HC2.out.below (by first | exact X7.out.below | (repeat (with_reducible first | exact Below.refl _ _ | assumption | refine ba ?_ _ | refine bd ?_ | refine bdN ?_ _ | refine bs ?_ (by first | exact Nat.le_refl _ | (dsimp only; omega) | (simp; done)) _ | refine bt ?_ (by assumption)))))).mono ?_
    rintro _ w8 ⟨rfl, hb8⟩
    have X8 := Lib.hid (X7.out.step hb8)
    clear x0
    have x0 : w8.cell? ⟨w1.heap.size, 0, none⟩ = some (.slice va fs.length vc) := X8.out.cell 0
    go_wp2_with fail
    go_ret
    exact ⟨rfl, by have h := X8.out.below; have h1 := Hb1.out; exact h1.trans (h.mono h1.size)⟩

/-! ### THE STEP TO THE ROW -/
set_option maxRecDepth 100000 in
theorem lifted (os : Os) (started : os.Started) (H : Type) (enc : TypeId × Value → H) :
    ReturnsInHanded {} Try.checked os 10 .any (Rows.fnCompileTreeSpec.pre6 enc Try.prog Try.f10 Rows.fnCompileTreeRow.domain false) (Rows.fnCompileTreeSpec.post enc Try.prog Try.f10 false true false false) := by
  refine returnsInHanded_of_change (C := Try.checked) own started (by kernel_rfl) Try.func10
    (ChangeSpec.witness6 (enc := enc) (C := Try.checked) false ⟨#[], #[.slice none 0 0], []⟩ 8 (by kernel_rfl) (by kernel_rfl) (by kernel_rfl) (by kernel_rfl)) ?_
  intro W base args ds gs before hval0 hW hcnd _
  have hval : ∀ (j : Nat) t v, Try.f10.params[j]? = some t → args[j]? = some v → Value.okWide Try.prog W .any base t v := hval0
  have hW' := hW
  obtain ⟨p, q, hA0, hV, rfl, hfz, hnd⟩ := hW
  have hA : DataW.TrodAll enc Try.prog W 0 (fun _ => true) true Try.f10.params.toList args.toList ds p := hA0
  rw [Try.params10] at hA hval
  obtain ⟨v0, vs0, d0, ds0, p0, q0, hargs, rfl, rfl, h0, r0⟩ := trodAll_cons hA
  obtain ⟨rfl, rfl, rfl⟩ := trodAll_nil r0
  obtain rfl : args = #[v0] := by cases args; simp_all
  obtain ⟨rfl, rfl⟩ := trodVars_none hV
  obtain ⟨a0, len0, cap0, rfl⟩ := okWide_slice Try.underlying47 (hval 0 47 v0 rfl rfl)
  have k0 := h0
  have lt0 : ∀ x ∈ p0, x.block < W.heap.size := by obtain ⟨m, hm⟩ := k0; exact DataW.trod_lt m _ _ _ hm
  have w0 : Code W W.heap.size a0 len0 cap0 := by
    obtain ⟨fuel, hf⟩ := h0
    rcases open_ints Try.underlying47 Try.underlying5 (by kernel_rfl) hf with ⟨hcs, _⟩ | ⟨x, l, c, zs, hcs, _, hl, hm, hz, _, hcell, hwz⟩
    · simp [Value.cells] at hcs
      obtain ⟨rfl, rfl, rfl⟩ := hcs
      exact .inl ⟨rfl, by unfold maxLen; omega⟩
    · simp [Value.cells] at hcs
      obtain ⟨rfl, rfl, rfl⟩ := hcs
      exact code_row W _ _ _ zs hl hm (by simpa using hz) hcell hwz
  clear hA0 hval0
  refine (walk a0 len0 cap0 W w0).mono fun e W' ⟨he, bel⟩ => ?_
  subst he
  exact ⟨_, rfl, _, _, _, [], _, [], hW', trodAll_mk1 (shut_bool Try.underlying4 _), (trodAll_cons_mk (Below.trod laidOut (by kernel_rfl) (of_decide_eq_true (by kernel_rfl)) k0 bel lt0) trodAll_mk0), rfl, bel.frame _, fun h => by cases h⟩

theorem over : Rows.fnCompileTreeRow.holds Try.pinned (OpenSpec.ofChange Rows.fnCompileTreeSpec) :=
  OpenClaim.holds_of_wide 10 Try.f10 rfl rfl rfl rfl rfl rfl rfl ⟨rfl, rfl, rfl, rfl, rfl⟩ rfl rfl rfl rfl rfl (by kernel_rfl) Try.func10 (by kernel_rfl)
    (of_decide_eq_true (by kernel_rfl)) (by unfold Func.isWrapper; first | (rw [if_pos (by decide +kernel)]; kernel_rfl) | (rw [if_neg (by decide +kernel)]; exact ⟨rfl, rfl⟩))
    (fun os started H enc _ => lifted os started H enc)

/-- THE STATEMENT -/
theorem proved : Rows.FnCompileTreeSaid := over
end Go.Proofs.Ytomdmkhgkaalnaa.FnCompileTree
