/- FnHasDir returns true for every code. Written by mklaws.py. -/
import Derived.Test.YtoleklppgmeflaaDrawZ
import Derived.Test.YtoleklppgmeflaaTrees
import Derived.Test.YtoleklppgmeflaaListD
import Derived.Test.YtoleklppgmeflaaDirs2
import Derived.Test.YtoleklppgmeflaaKin
import Derived.Test.YtoleklppgmeflaaTexts
import Derived.Test.YtoleklppgmeflaaPlainG
import Derived.Test.YtoleklppgmeflaaFrame
import Derived.Deep.RegionLaw
set_option linter.unusedVariables false
set_option linter.unusedSimpArgs false
namespace Go.Proofs.Ytoleklppgmeflaa.FnHasDir
open Go.Sort Go.ChangeShapes Go.WideShapes Go.ChangeAt Go.RowKit Go.Proofs.Ytoleklppgmeflaa.Nm

theorem mods_len (fs : List Fil) (root : Int) (p : Bs) : (listDir fs root p).length ≤ fs.length := by
  unfold listDir
  split
  · exact Nat.le_trans (sortUp_len _) (entries_len fs root p)
  · simp
theorem lastOf_len (p : Bs) : (lastOf p).length ≤ 3 := by
  unfold lastOf
  split
  · rename_i h; exact (vp_len (getLast_vp h)).2
  · simp
theorem parentOf_len (p : Bs) : (parentOf p).length ≤ p.length := by
  unfold parentOf
  split
  · exact parent_len p
  · simp
set_option maxRecDepth 100000 in
set_option maxHeartbeats 2000000 in
theorem walk (a : Option Addr) (n cap : Nat) (w : World) (hc : Code w w.heap.size a n cap) :
    Calls Try.prog 6 #[.slice a n cap] w fun e w' => e = .returned (.bool true) ∧ Below w.heap.size w w' := by
  by_cases hn : (1048576 : Int) < (n : Int)
  · go_enter Try.func6, Try.ntmps6
    go_wp2_with fail
    go_ret
    exact ⟨rfl, Below.refl _ _⟩
  have Hc := Lib.hid hc
  clear hc
  go_enter Try.func6, Try.ntmps6
  go_wp2_with fail
  refine (spec_DrawHasDir a n cap w Hc.out).mono ?_
  rintro e w1 ⟨v, ps, r, p, rfl, ⟨hrows, hsh, hl, hb5, hb1⟩, hr0, hr3, hp7⟩
  obtain ⟨va, vc, rfl⟩ := hrows.len
  have HR := Lib.hid hrows
  obtain ⟨fs, hfs⟩ : ∃ fs, fs = ps.map (·.1) := ⟨_, rfl⟩
  have Hfs := Lib.hid hfs
  have hfl : fs.length = ps.length := by rw [hfs, List.length_map]
  have HF := Lib.hid (show FilsIn w1 (fun _ => True) (.slice va ps.length vc) fs by rw [hfs]; exact hrows.fils)
  have Hz8 := Lib.hid (show ShortT 8000000 fs by rw [hfs]; exact shortT_mono (by omega) hsh)
  have Hz3 := Lib.hid (show ShortT 3000000 fs by rw [hfs]; exact shortT_mono (by omega) hsh)
  have Hz2 := Lib.hid (show ShortT 2000000 fs by rw [hfs]; exact shortT_mono (by omega) hsh)
  have Hs8 := Lib.hid (show ShortT 8 fs by rw [hfs]; exact hsh)
  have Hb5 := Lib.hid (show ∀ f ∈ fs, f.body.length ≤ 5 by rw [hfs]; intro f hf; obtain ⟨p, hp, rfl⟩ := List.mem_map.1 hf; exact hb5 p hp)
  have Hb1 := Lib.hid hb1
  have B0 := Boxed.start w1 #[.slice va ps.length vc] 25
  have hl11 : fs.length ≤ 11 := by omega
  clear hrows hsh hb5 hb1 hfs
  generalize ps.length = pn at *
  subst hfl
  have X1 := Lib.hid B0
  clear B0
  rcases (show hasDir fs r p = true ∨ hasDir fs r p = false by cases hasDir fs r p <;> simp) with hok | hok
  · have Hok := Lib.hid hok
    have Hfa := Lib.hid (fun h0 => hasDir_facts hok h0)
    clear hok
    go_wp2_with fail
    refine (impl_HasDir _ fs (fun _ => True) r p _ (HF.out.below X1.out.below) Hz2.out (by omega)).mono ?_
    rintro _ w2 ⟨rfl, hb2⟩
    rw [Hok.out]
    have X2 := Lib.hid (X1.out.step hb2)
    have x2 : w2.cell? ⟨w1.heap.size, 0, none⟩ = some (.slice va fs.length vc) := X2.out.cell 0
    clear hb2
    go_wp2_with fail
    refine (spec_HasDir _ fs (fun _ => True) r p _ (HF.out.below X2.out.below) Hz2.out (by omega)).mono ?_
    rintro _ w3 ⟨rfl, hb3⟩
    rw [Hok.out]
    have X3 := Lib.hid (X2.out.step hb3)
    have x3 : w3.cell? ⟨w1.heap.size, 0, none⟩ = some (.slice va fs.length vc) := X3.out.cell 0
    clear hb3 x2
    by_cases h0 : p = []
    · subst h0
      go_wp2_with fail
      refine (spec_HasDir _ fs (fun _ => True) r [] _ (HF.out.below X3.out.below) Hz2.out (by omega)).mono ?_
      rintro _ w4 ⟨rfl, hb4⟩
      rw [Hok.out]
      have X4 := Lib.hid (X3.out.step hb4)
      have x4 : w4.cell? ⟨w1.heap.size, 0, none⟩ = some (.slice va fs.length vc) := X4.out.cell 0
      clear hb4 x3
      go_wp2_with fail
      go_ret
      exact ⟨rfl, bt Hb1.out X4.out.below⟩
    · obtain ⟨f1, f2, f3⟩ := Hfa.out h0
      have Hp1 := Lib.hid f1
      have Hp2 := Lib.hid (decide_eq_true f2)
      have hpos : (0 : Int) < ((listDir fs r p).length : Int) := by
        have := List.length_pos_iff.2 f3
        omega
      have hposN : 0 < (listDir fs r p).length := List.length_pos_iff.2 f3
      have hm1 : (listDir fs r (parentOf p)).length ≤ fs.length := mods_len _ _ _
      have hm2 : (listDir fs r p).length ≤ fs.length := mods_len _ _ _
      have hpl : (parentOf p).length ≤ 7 := by
        have h1 := parentOf_len p
        omega
      have hll : (lastOf p).length ≤ 3 := lastOf_len p
      have hcat : ¬ 9223372036854775807 < (lastOf p).length + 1 := by omega
      have h0b : (p == []) = false := by simpa using h0
      have h0c : p.isEmpty = false := by simpa using h0
      clear f1 f2 f3 Hfa h0
      obtain ⟨pp, hpp⟩ : ∃ pp, pp = parentOf p := ⟨_, rfl⟩
      have Hpp := Lib.hid hpp.symm
      obtain ⟨lp, hlp⟩ : ∃ lp, lp = lastOf p := ⟨_, rfl⟩
      have Hlp := Lib.hid hlp.symm
      rw [← hpp, ← hlp] at Hp2
      rw [← hlp] at hll hcat
      have hmk : mk lp ++ (⟨#[47]⟩ : ByteArray) = mk (lp ++ [47]) := by rw [show (⟨#[47]⟩ : ByteArray) = mk [47] from rfl, mk_append]
      rw [← hpp] at Hp1 hm1 hpl
      clear hpp hlp
      obtain ⟨ms, hms⟩ : ∃ ms, ms = listDir fs r pp := ⟨_, rfl⟩
      have Hms := Lib.hid hms.symm
      obtain ⟨ns, hns⟩ : ∃ ns, ns = listDir fs r p := ⟨_, rfl⟩
      have Hns := Lib.hid hns.symm
      rw [← hms] at Hp2 hm1
      rw [← hns] at hpos hposN hm2
      clear hms hns
      have XC := Lib.hid X3.out
      go_wp2_with fail
      go_region_law (first
        | (go_simp; go_at_call 32; refine (impl_ParentOf p _ (by omega)).mono ?_; rintro _ wa ⟨rfl, hba⟩; rw [Hpp.out]; have XC := Lib.hid (XC.out.step (bt (by (repeat (with_reducible first | exact Below.refl _ _ | assumption | refine ba ?_ _ | refine bd ?_ | refine bdN ?_ _ | refine bs ?_ (by first | exact Nat.le_refl _ | (dsimp only; omega) | (simp; done)) _ | refine bt ?_ (by assumption)))) hba)); have xca : wa.cell? ⟨w1.heap.size, 0, none⟩ = some (.slice va fs.length vc) := XC.out.cell 0; clear hba)
        | (go_simp; go_at_call 30; refine (impl_HasDir _ fs (fun _ => True) r pp _ (HF.out.below (XC.out.step (by (repeat (with_reducible first | exact Below.refl _ _ | assumption | refine ba ?_ _ | refine bd ?_ | refine bdN ?_ _ | refine bs ?_ (by first | exact Nat.le_refl _ | (dsimp only; omega) | (simp; done)) _ | refine bt ?_ (by assumption))))).below) Hz2.out (by omega)).mono ?_; rintro _ wb ⟨rfl, hbb⟩; rw [Hp1.out]; have XC := Lib.hid (XC.out.step (bt (by (repeat (with_reducible first | exact Below.refl _ _ | assumption | refine ba ?_ _ | refine bd ?_ | refine bdN ?_ _ | refine bs ?_ (by first | exact Nat.le_refl _ | (dsimp only; omega) | (simp; done)) _ | refine bt ?_ (by assumption)))) hbb)); have xcb : wb.cell? ⟨w1.heap.size, 0, none⟩ = some (.slice va fs.length vc) := XC.out.cell 0; clear hbb)
        | (go_simp; go_at_call 33; refine (impl_ListDir _ fs (fun _ => True) r _ _ (HF.out.below (XC.out.step (by (repeat (with_reducible first | exact Below.refl _ _ | assumption | refine ba ?_ _ | refine bd ?_ | refine bdN ?_ _ | refine bs ?_ (by first | exact Nat.le_refl _ | (dsimp only; omega) | (simp; done)) _ | refine bt ?_ (by assumption))))).below) Hz2.out (by omega)).mono ?_; rintro _ wd ⟨vd, rfl, hownd, hbd⟩; (first | (rw [Hms.out] at hownd; have RL := Lib.hid (Reads.of_owns hownd)) | (rw [Hns.out] at hownd)); obtain ⟨ad, cd, rfl⟩ := owns_shape hownd; have XC := Lib.hid (XC.out.step (bt (by (repeat (with_reducible first | exact Below.refl _ _ | assumption | refine ba ?_ _ | refine bd ?_ | refine bdN ?_ _ | refine bs ?_ (by first | exact Nat.le_refl _ | (dsimp only; omega) | (simp; done)) _ | refine bt ?_ (by assumption)))) hbd)); have xcd : wd.cell? ⟨w1.heap.size, 0, none⟩ = some (.slice va fs.length vc) := XC.out.cell 0; clear hbd hownd)
        | (go_simp; go_at_call 34; refine (impl_LastOf p _ (by omega)).mono ?_; rintro _ we ⟨rfl, hbe⟩; rw [Hlp.out]; have RL := Lib.hid (RL.out.below (bt (by (repeat (with_reducible first | exact Below.refl _ _ | assumption | refine ba ?_ _ | refine bd ?_ | refine bdN ?_ _ | refine bs ?_ (by first | exact Nat.le_refl _ | (dsimp only; omega) | (simp; done)) _ | refine bt ?_ (by assumption)))) hbe)); have XC := Lib.hid (XC.out.step (bt (by (repeat (with_reducible first | exact Below.refl _ _ | assumption | refine ba ?_ _ | refine bd ?_ | refine bdN ?_ _ | refine bs ?_ (by first | exact Nat.le_refl _ | (dsimp only; omega) | (simp; done)) _ | refine bt ?_ (by assumption)))) hbe)); have xce : we.cell? ⟨w1.heap.size, 0, none⟩ = some (.slice va fs.length vc) := XC.out.cell 0; clear hbe)
        | (go_simp; go_at_call 24; (try rw [hmk]); refine (laws_hasText _ ms (lp ++ [47]) _ (RL.out.below (by (repeat (with_reducible first | exact Below.refl _ _ | assumption | refine ba ?_ _ | refine bd ?_ | refine bdN ?_ _ | refine bs ?_ (by first | exact Nat.le_refl _ | (dsimp only; omega) | (simp; done)) _ | refine bt ?_ (by assumption))))) (by omega)).mono ?_; rintro _ wf ⟨rfl, rfl⟩; rw [Hp2.out]))
      all_goals
        go_wp2_with fail
        go_ret
        refine ⟨?_, bt Hb1.out (by first | exact XC.out.below | exact (XC.out.step (by (repeat (with_reducible first | exact Below.refl _ _ | assumption | refine ba ?_ _ | refine bd ?_ | refine bdN ?_ _ | refine bs ?_ (by first | exact Nat.le_refl _ | (dsimp only; omega) | (simp; done)) _ | refine bt ?_ (by assumption))))).below)⟩
        first | rfl | (go_simp; done) | (simp [Act.eval, Act.put, hpos, hposN]; done)
  · have Hok := Lib.hid hok
    clear hok
    go_wp2_with fail
    refine (impl_HasDir _ fs (fun _ => True) r p _ (HF.out.below X1.out.below) Hz2.out (by omega)).mono ?_
    rintro _ w2 ⟨rfl, hb2⟩
    rw [Hok.out]
    have X2 := Lib.hid (X1.out.step hb2)
    have x2 : w2.cell? ⟨w1.heap.size, 0, none⟩ = some (.slice va fs.length vc) := X2.out.cell 0
    clear hb2
    go_wp2_with fail
    refine (spec_HasDir _ fs (fun _ => True) r p _ (HF.out.below X2.out.below) Hz2.out (by omega)).mono ?_
    rintro _ w3 ⟨rfl, hb3⟩
    rw [Hok.out]
    have X3 := Lib.hid (X2.out.step hb3)
    have x3 : w3.cell? ⟨w1.heap.size, 0, none⟩ = some (.slice va fs.length vc) := X3.out.cell 0
    clear hb3 x2
    go_wp2_with fail
    refine (spec_HasDir _ fs (fun _ => True) r p _ (HF.out.below X3.out.below) Hz2.out (by omega)).mono ?_
    rintro _ w4 ⟨rfl, hb4⟩
    rw [Hok.out]
    have X4 := Lib.hid (X3.out.step hb4)
    have x4 : w4.cell? ⟨w1.heap.size, 0, none⟩ = some (.slice va fs.length vc) := X4.out.cell 0
    clear hb4 x3
    go_wp2_with fail
    go_ret
    exact ⟨rfl, bt Hb1.out X4.out.below⟩

/-! ### THE STEP TO THE ROW -/
set_option maxRecDepth 100000 in
theorem lifted (os : Os) (started : os.Started) (H : Type) (enc : TypeId × Value → H) :
    ReturnsInHanded {} Try.checked os 6 .any (Rows.fnHasDirSpec.pre6 enc Try.prog Try.f6 Rows.fnHasDirRow.domain false) (Rows.fnHasDirSpec.post enc Try.prog Try.f6 false true false false) := by
  refine returnsInHanded_of_change (C := Try.checked) own started (by kernel_rfl) Try.func6
    (ChangeSpec.witness6 (enc := enc) (C := Try.checked) false ⟨#[], #[.slice none 0 0], []⟩ 8 (by kernel_rfl) (by kernel_rfl) (by kernel_rfl) (by kernel_rfl)) ?_
  intro W base args ds gs before hval0 hW hcnd _
  have hval : ∀ (j : Nat) t v, Try.f6.params[j]? = some t → args[j]? = some v → Value.okWide Try.prog W .any base t v := hval0
  have hW' := hW
  obtain ⟨p, q, hA0, hV, rfl, hfz, hnd⟩ := hW
  have hA : DataW.TrodAll enc Try.prog W 0 (fun _ => true) true Try.f6.params.toList args.toList ds p := hA0
  rw [Try.params6] at hA hval
  obtain ⟨v0, vs0, d0, ds0, p0, q0, hargs, rfl, rfl, h0, r0⟩ := trodAll_cons hA
  obtain ⟨rfl, rfl, rfl⟩ := trodAll_nil r0
  obtain rfl : args = #[v0] := by cases args; simp_all
  obtain ⟨rfl, rfl⟩ := trodVars_none hV
  obtain ⟨a0, len0, cap0, rfl⟩ := okWide_slice Try.underlying22 (hval 0 22 v0 rfl rfl)
  have k0 := h0
  have lt0 : ∀ x ∈ p0, x.block < W.heap.size := by obtain ⟨m, hm⟩ := k0; exact DataW.trod_lt m _ _ _ hm
  have w0 : Code W W.heap.size a0 len0 cap0 := by
    obtain ⟨fuel, hf⟩ := h0
    rcases open_ints Try.underlying22 Try.underlying5 (by kernel_rfl) hf with ⟨hcs, _⟩ | ⟨x, l, c, zs, hcs, _, hl, hm, hz, _, hcell, hwz⟩
    · simp [Value.cells] at hcs
      obtain ⟨rfl, rfl, rfl⟩ := hcs
      exact .inl ⟨rfl, by unfold maxLen; omega⟩
    · simp [Value.cells] at hcs
      obtain ⟨rfl, rfl, rfl⟩ := hcs
      exact code_row W _ _ _ zs hl hm (by simpa using hz) hcell hwz
  clear hA0 hval0
  refine (walk a0 len0 cap0 W w0).mono fun e W' ⟨he, bel⟩ => ?_
  subst he
  exact ⟨_, rfl, _, _, _, [], _, [], hW', trodAll_mk1 (shut_bool Try.underlying4 _), (trodAll_cons_mk (Below.trod laidOut (by kernel_rfl) (of_decide_eq_true (by kernel_rfl)) k0 bel lt0) trodAll_mk0), rfl, bel.frame _, fun h => by cases h⟩

theorem over : Rows.fnHasDirRow.holds Try.pinned (OpenSpec.ofChange Rows.fnHasDirSpec) :=
  OpenClaim.holds_of_wide 6 Try.f6 rfl rfl rfl rfl rfl rfl rfl ⟨rfl, rfl, rfl, rfl, rfl⟩ rfl rfl rfl rfl rfl (by kernel_rfl) Try.func6 (by kernel_rfl)
    (of_decide_eq_true (by kernel_rfl)) (by unfold Func.isWrapper; first | (rw [if_pos (by decide +kernel)]; kernel_rfl) | (rw [if_neg (by decide +kernel)]; exact ⟨rfl, rfl⟩))
    (fun os started H enc _ => lifted os started H enc)

/-- THE STATEMENT -/
theorem proved : Rows.FnHasDirSaid := over
end Go.Proofs.Ytoleklppgmeflaa.FnHasDir
