/- FnExactHiddenFiles returns true for every argument. -/
import Derived.Test.YtkmclfhnhcphoaaSHidden
import Derived.Test.YtkmclfhnhcphoaaSpcLaw
import Derived.Test.YtkmclfhnhcphoaaSzTree
import Derived.Test.YtkmclfhnhcphoaaReadIn
import Derived.Test.YtkmclfhnhcphoaaFrame
set_option linter.unusedVariables false
set_option linter.unusedSimpArgs false
namespace Go.Proofs.Ytkmclfhnhcphoaa.FnExactHiddenFiles
open Go.ChangeShapes Go.WideShapes Go.ChangeAt Go.RowKit Go.Proofs.Ytkmclfhnhcphoaa.Nm

set_option maxRecDepth 100000 in
set_option maxHeartbeats 8000000 in
theorem walk (v : Value) (fs : List Fil) (pv : Value) (path : List Int) (w : World) (h : FilsIn w (fun _ => True) v fs ∧ ShortT maxLen fs) (hp : IntsIn w pv path) :
    Calls Try.prog 9 #[.agg #[v], pv] w fun e w' => e = .returned (.bool true) ∧ Below w.heap.size w w' := by
  obtain ⟨hr, hz⟩ := h
  have Hr := Lib.hid hr
  have Hz := Lib.hid hz
  have Hp := Lib.hid hp
  obtain ⟨aa, ca, rfl, hlc, hm⟩ := hr.len
  obtain ⟨pa, pc, rfl, hpl, hpm⟩ := hp.len
  clear hr hz hm hp hpm
  by_cases hn0 : (1048576 : Int) < (path.length : Int)
  · go_enter Try.func9, Try.ntmps9
    go_wp2_with fail
    go_ret
    exact ⟨rfl, by (repeat (with_reducible first | exact Below.refl _ _ | assumption | refine ba ?_ _ | refine bd ?_ | refine bdN ?_ _ | refine bs ?_ (by first | exact Nat.le_refl _ | (dsimp only; omega) | (simp; done)) _ | refine bt ?_ (by assumption)))⟩
  have hq0 : path.length ≤ 1048576 := by omega
  obtain ⟨sp, hsp⟩ : ∃ sp, sp = hidden fs path := ⟨_, rfl⟩
  have Hsp := Lib.hid hsp
  clear hsp
  go_enter Try.func9, Try.ntmps9
  go_wp2_with (go_at_call 12; refine (laws_szTree _ fs _ 1048576 _ (Hr.out.below (by (repeat (with_reducible first | exact Below.refl _ _ | assumption | refine ba ?_ _ | refine bd ?_ | refine bdN ?_ _ | refine bs ?_ (by first | exact Nat.le_refl _ | (dsimp only; omega) | (simp; done)) _ | refine bt ?_ (by assumption))))) Hz.out (by omega)).mono ?_; rintro _ w1 ⟨r, rfl, hr, hb1⟩; have Hx1 := Lib.hid ((Boxed.start w #[.slice aa fs.length ca] 24).step hb1); have hA : w1.cell? ⟨w.heap.size, 0, none⟩ = some (.slice aa fs.length ca) := Hx1.out.cell 0)
  · go_ret
    exact ⟨rfl, Hx1.out.below⟩
  · have hc : filsCost fs ≤ 1048576 := by omega
    have Hl := Lib.hid (costs_of hc)
    have Hs2 := Lib.hid (shortT_mono (B := 2000000) (by omega) (shortT_of hc))
    have Hend := Lib.hid (end_of hc)
    have hroots : sp.length ≤ 1048576 := by
      rw [Hsp.out]
      refine Nat.le_trans ?_ (end_of hc).2
      unfold hidden; split
      · exact hiddenGo_len fs path fs 0
      · simp
    clear hr hc hb1
    go_wp2_with (go_at_call 15; refine (laws_toTree _ fs _ _ (Hr.out.below Hx1.out.below) Hl.out).mono ?_; rintro _ w2 ⟨v2, ps2, rfl, hp2, ho2, hb2⟩; have Hx2 := Lib.hid (Hx1.out.step hb2); have Ho2 := Lib.hid (show FilsIn w2 (fun _ => True) v2 fs by rw [← hp2]; exact ho2.fils (fun _ _ => trivial)); clear ho2 hp2 hb2 hA; have hA : w2.cell? ⟨w.heap.size, 0, none⟩ = some (.slice aa fs.length ca) := Hx2.out.cell 0)
    go_wp2_with (go_at_call 32; refine (laws_toIntS _ path _ (Hp.out.below Hx2.out.below) hq0).mono ?_; rintro _ w3 ⟨v3, rfl, hown3, hb3⟩; have H3 := Lib.hid (IntsIn.of_owns hown3); have Ho3 := Lib.hid (Ho2.out.below hb3); have Hx3 := Lib.hid (Hx2.out.step hb3); clear hown3 hb3 hA; have hA : w3.cell? ⟨w.heap.size, 0, none⟩ = some (.slice aa fs.length ca) := Hx3.out.cell 0)
    go_wp2_with (go_at_call 43; refine (spec_HiddenFiles _ fs (fun _ => True) _ path _ Ho3.out Hs2.out H3.out).mono ?_; rintro _ w4 ⟨v4, rfl, hown4, hb4⟩; rw [← Hsp.out] at hown4; obtain ⟨a4, c4, hv4⟩ := owns_shape hown4; subst hv4; have H4 := Lib.hid (IntsIn.of_owns hown4); have Hx4 := Lib.hid (Hx3.out.step hb4); have hx4 := Hx4.out.lt; clear hA hb4 hown4; have hA : w4.cell? ⟨w.heap.size, 0, none⟩ = some (.slice aa fs.length ca) := Hx4.out.cell 0)
    obtain ⟨W4, hW4⟩ : ∃ W4, W4 = w4 := ⟨_, rfl⟩
    subst hW4
    have HX4 := Hx4
    have HH4 := H4
    go_wp2_with (go_at_call 15; refine (laws_toTree _ fs _ _ (Hr.out.below HX4.out.below) Hl.out).mono ?_; rintro _ w5 ⟨v5, ps5, rfl, hp5, ho5, hb5⟩; have Hx5 := Lib.hid (HX4.out.step hb5); have Hb45 := Lib.hid hb5; clear hA; have hA : w5.cell? ⟨w.heap.size, 0, none⟩ = some (.slice aa fs.length ca) := Hx5.out.cell 0; obtain ⟨a5, c5, rfl⟩ := ho5.len; have hpl5 : ps5.length = fs.length := (by rw [← hp5, List.length_map]); rw [hpl5] at ho5 ⊢)
    have Hp5 := Lib.hid hp5
    have Ho5 := Lib.hid ho5
    have Hf5 := Lib.hid (show FilsIn w5 (fun _ => True) (.slice a5 fs.length c5) fs by have h := ho5.fils (D := fun _ => True) (fun _ _ => trivial); rw [hp5] at h; exact h)
    have Hy5 := Lib.hid (Boxed.start w5 #[.slice a5 fs.length c5] 32)
    have hz5 := Hx5.out.lt
    have hz45 := hb5.size
    clear ho5 hp5 hb5 hpl5
    go_wp2_with (go_at_call 32; refine (laws_toIntS _ path _ (Hp.out.below (bt Hx5.out.below Hy5.out.below)) hq0).mono ?_; rintro _ w6 ⟨v6, rfl, hown6, hb6⟩; obtain ⟨a6, c6, hv6⟩ := owns_shape hown6; subst hv6; have Hown6 := Lib.hid (owns_mono hown6 (show w5.heap.size + 1 ≤ _ by simp)); have Hy6 := Lib.hid (Hy5.out.step hb6); have Hx6 := Lib.hid (Hx5.out.step Hy6.out.below); clear hown6 hb6 hA; have hA : w6.cell? ⟨w.heap.size, 0, none⟩ = some (.slice aa fs.length ca) := Hx6.out.cell 0; have hB : w6.cell? ⟨w5.heap.size, 0, none⟩ = some (.slice a5 fs.length c5) := Hy6.out.cell 0)
    have hz6 := Hy6.out.lt
    go_wp2_with (go_at_call 44; refine (impl_HiddenFiles _ fs (fun _ => True) _ path _ (Hf5.out.below Hy6.out.below) Hs2.out (IntsIn.of_owns Hown6.out)).mono ?_; rintro _ w7 ⟨v7, rfl, hown7, hb7⟩; rw [← Hsp.out] at hown7; obtain ⟨a7, c7, hv7⟩ := owns_shape hown7; subst hv7; have Hb67 := Lib.hid hb7; have Hown7 := Lib.hid hown7; have Hy7 := Lib.hid (Hy6.out.step hb7); have Hx7 := Lib.hid (Hx6.out.step hb7); clear hb7 hA hB hown7; have hA : w7.cell? ⟨w.heap.size, 0, none⟩ = some (.slice aa fs.length ca) := Hx7.out.cell 0; have hB : w7.cell? ⟨w5.heap.size, 0, none⟩ = some (.slice a5 fs.length c5) := Hy7.out.cell 0)
    have hz67 := Hb67.out.size
    obtain ⟨W7, hW7⟩ : ∃ W7, W7 = w7 := ⟨_, rfl⟩
    subst hW7
    have hWb : Below W7.heap.size W7 W7 := Below.refl _ _
    have HX7 := Lib.hid (Hx7.out.step hWb)
    have HY7 := Lib.hid (Hy7.out.step hWb)
    have Hb4 := Lib.hid (show Below W4.heap.size W4 W7 from bt Hb45.out HY7.out.below)
    have HR7 := Lib.hid (HH4.out.below Hb4.out)
    have HO7 := Lib.hid (owns_below Hown7.out hWb)
    have HP7 := Lib.hid (owns_below Hown6.out (bt Hb67.out hWb))
    have HF7 := Lib.hid (Ho5.out.below HY7.out.below)
    have HT7 := Lib.hid (Hf5.out.below HY7.out.below)
    have hA7 : W7.cell? ⟨w.heap.size, 0, none⟩ = some (.slice aa fs.length ca) := HX7.out.cell 0
    have hB7 : W7.cell? ⟨w5.heap.size, 0, none⟩ = some (.slice a5 fs.length c5) := HY7.out.cell 0
    have hlA := HX7.out.lt
    have hlB := HY7.out.lt
    clear hWb hA hB
    have Hk := Lib.hid (fun (w' : World) (hC : Below W7.heap.size W7 w') => (⟨(hC.cell (p := ⟨w.heap.size, 0, none⟩) hlA).trans hA7, (hC.cell (p := ⟨w5.heap.size, 0, none⟩) hlB).trans hB7, hC⟩ : w'.cell? ⟨w.heap.size, 0, none⟩ = some (.slice aa fs.length ca) ∧ w'.cell? ⟨w5.heap.size, 0, none⟩ = some (.slice a5 fs.length c5) ∧ Below W7.heap.size W7 w'))
    clear hA7 hB7
    go_wp2_with (go_at_call 35; refine (laws_eqIntS _ _ sp sp _ (IntsIn.of_owns HO7.out) HR7.out).mono ?_; rintro _ w8 ⟨rfl, hb8⟩; rw [decide_eq_true (rfl : sp = sp)]; have Hb8 := Lib.hid hb8; obtain ⟨hA8, hB8, _⟩ := Hk.out _ hb8; clear hb8)
    have Hse := Lib.hid (show sameFils fs fs = true from decide_eq_true rfl)
    clear hA8 hB8
    go_wp2_with fail
    go_region_held3 (fun w' => w'.cell? ⟨w.heap.size, 0, none⟩ = some (.slice aa fs.length ca) ∧ w'.cell? ⟨w5.heap.size, 0, none⟩ = some (.slice a5 fs.length c5) ∧ Below W7.heap.size W7 w')
      (exact Hk.out _ (by have := Hb8.out; (repeat (with_reducible first | exact Below.refl _ _ | assumption | refine ba ?_ _ | refine bd ?_ | refine bdN ?_ _ | refine bs ?_ (by first | exact Nat.le_refl _ | (dsimp only; omega) | (simp; done)) _ | refine bt ?_ (by assumption)))))
      (first
        | (go_at_call 15; refine (laws_toTree _ fs _ _ (Hr.out.below (bt HX7.out.below (by have := Hb8.out; (repeat (with_reducible first | exact Below.refl _ _ | assumption | refine ba ?_ _ | refine bd ?_ | refine bdN ?_ _ | refine bs ?_ (by first | exact Nat.le_refl _ | (dsimp only; omega) | (simp; done)) _ | refine bt ?_ (by assumption)))))) Hl.out).mono ?_; rintro _ w9 ⟨v9, ps9, rfl, hp9, ho9, hb9⟩; have Ho9 := Lib.hid (show FilsIn w9 (fun _ => True) v9 fs by (have h := ho9.fils (D := fun _ => True) (fun _ _ => trivial); rw [hp9] at h; exact h)); clear ho9 hp9)
        | (go_at_call 18; refine (laws_eqTree _ _ fs fs (fun _ => True) (fun _ => True) _ (HT7.out.below (by have := Hb8.out; (repeat (with_reducible first | exact Below.refl _ _ | assumption | refine ba ?_ _ | refine bd ?_ | refine bdN ?_ _ | refine bs ?_ (by first | exact Nat.le_refl _ | (dsimp only; omega) | (simp; done)) _ | refine bt ?_ (by assumption))))) (Ho9.out.below (by (repeat (with_reducible first | exact Below.refl _ _ | assumption | refine ba ?_ _ | refine bd ?_ | refine bdN ?_ _ | refine bs ?_ (by first | exact Nat.le_refl _ | (dsimp only; omega) | (simp; done)) _ | refine bt ?_ (by assumption)))))).mono ?_; rintro _ w10 ⟨rfl, hb10⟩; rw [Hse.out]))
    have Hb10 := Lib.hid (show Below W7.heap.size W7 w10 by have := Hb8.out; (repeat (with_reducible first | exact Below.refl _ _ | assumption | refine ba ?_ _ | refine bd ?_ | refine bdN ?_ _ | refine bs ?_ (by first | exact Nat.le_refl _ | (dsimp only; omega) | (simp; done)) _ | refine bt ?_ (by assumption))))
    go_wp2_with (go_at_call 32; refine (laws_toIntS _ path _ (Hp.out.below (bt HX7.out.below Hb10.out)) hq0).mono ?_; rintro _ w11 ⟨v11, rfl, hown11, hb11⟩; have H11 := Lib.hid (IntsIn.of_owns hown11); have Hb11 := Lib.hid (bt Hb10.out hb11); clear hown11 hb11)
    go_wp2_with (go_at_call 35; refine (laws_eqIntS _ _ path path _ ((IntsIn.of_owns HP7.out).below Hb11.out) H11.out).mono ?_; rintro _ w12 ⟨rfl, hb12⟩; rw [decide_eq_true (rfl : path = path)]; have Hb12 := Lib.hid (bt Hb11.out hb12); obtain ⟨_, hB12, _⟩ := Hk.out w12 Hb12.out; clear hb12)
    have HF12 := Lib.hid (HF7.out.below Hb12.out)
    have HO12 := Lib.hid (owns_below HO7.out Hb12.out)
    have HP12 := Lib.hid (owns_below HP7.out Hb12.out)
    have C12 := Lib.hid (show Below W4.heap.size W4 w12 from bt Hb4.out Hb12.out)
    have hz12 := Hb12.out.size
    have hz4' := Hb4.out.size
    have Hge := Lib.hid (blkF_ge Ho5.out.1 (fun p hp => ⟨_, _, _, _, Ho5.out.2.1 p hp⟩))
    have hps : ps5.length ≤ 9000000 := by have := Hend.out.2; have e : ps5.length = fs.length := by rw [← Hp5.out, List.length_map]
                                          omega
    have Hv6 := Lib.hid (fun b hb => Hown6.out.lt b hb)
    have Hv7 := Lib.hid (fun b hb => Hown7.out.lt b hb)
    go_wp2_with (go_at_call 20; refine (laws_markTree W4.heap.size _ ps5 1 _ HF12.out (by omega) (by rw [Hp5.out]; exact Hend.out.1) hps).mono ?_; rintro _ w13 ⟨rfl, _, ht13⟩; have Ht13 := Lib.hid ht13; clear ht13 hB12)
    have C13 := Lib.hid (C12.out.trans (Ht13.out.below (by omega) (fun b hb => (Hge.out b hb).1)))
    have HO13 := Lib.hid (owns_unturned HO12.out Ht13.out (fun b hb hS => by have := (Hge.out _ hS).2; have := (Hv7.out b hb).1; omega))
    have HP13 := Lib.hid (owns_unturned HP12.out Ht13.out (fun b hb hS => by have := (Hge.out _ hS).2; have := (Hv6.out b hb).1; omega))
    have hz13 := Ht13.out.size
    obtain ⟨mk1, hmk1⟩ : ∃ mk1, mk1 = endF 1 (ps5.map (·.1)) := ⟨_, rfl⟩
    have hmk2 : 1 ≤ mk1 ∧ mk1 ≤ 9000000 := by rw [hmk1, Hp5.out]; exact ⟨endF_mono _ _, Hend.out.1⟩
    rw [← hmk1]
    clear hmk1
    go_wp2_with (go_at_call 36; refine (laws_markIntS (w5.heap.size + 1) _ path mk1 _ HP13.out hmk2.1 (by omega)).mono ?_; rintro _ w14 ⟨rfl, _, ht14⟩; have Ht14 := Lib.hid ht14; have C14 := Lib.hid (C13.out.trans (Ht14.out.below (by have := C13.out.size; omega) (fun b hb => by have := (Hv6.out b hb).1; omega))); have HO14 := Lib.hid (owns_unturned HO13.out Ht14.out (fun b hb hS => by have := (Hv6.out _ hS).2; have := (Hv7.out b hb).1; omega)); have hk0 : ¬ ((mk1 + path.length : Nat) : Int) < 0 := Int.not_lt.2 (Int.natCast_nonneg _); clear ht14)
    go_wp2_with (go_at_call 35; refine (laws_eqIntS _ _ sp sp _ (IntsIn.of_owns HO14.out) (HH4.out.below C14.out)).mono ?_; rintro _ w15 ⟨rfl, hb15⟩; rw [decide_eq_true (rfl : sp = sp)]; have C15 := Lib.hid (bt C14.out hb15); have HO15 := Lib.hid (owns_below HO14.out hb15); clear hb15)
    go_wp2_with (go_at_call 36; refine (laws_markIntS w6.heap.size _ sp 1 _ HO15.out (by omega) (by omega)).mono ?_; rintro _ w16 ⟨rfl, hown16, ht16⟩; have Ht16 := Lib.hid ht16; have H16 := Lib.hid (IntsIn.of_owns (xs := marksI 1 sp.length) (by rw [marksI_len]; exact hown16)); have C16 := Lib.hid (C15.out.trans (Ht16.out.below (by have := C15.out.size; omega) (fun b hb => by have := (Hv7.out b hb).1; omega))); clear ht16 hown16)
    go_wp2_with (go_at_call 45; refine (laws_heldIntS _ sp.length 1 _ H16.out (by omega) (by omega)).mono ?_; rintro _ w17 ⟨rfl, hb17⟩; have hk1 : ¬ ((1 + sp.length : Nat) : Int) < 0 := Int.not_lt.2 (Int.natCast_nonneg _); have C17 := Lib.hid (bt C16.out hb17); have H17 := Lib.hid (H16.out.below hb17); have HX17 := Lib.hid (HX4.out.step C17.out); have hA17 : w17.cell? ⟨w.heap.size, 0, none⟩ = some (.slice aa fs.length ca) := HX17.out.cell 0; clear hb17)
    go_wp2_with (go_at_call 15; refine (laws_toTree _ fs _ _ (Hr.out.below HX17.out.below) Hl.out).mono ?_; rintro _ w18 ⟨v18, ps18, rfl, hp18, ho18, hb18⟩; have C18 := Lib.hid (bt C17.out hb18); have H18 := Lib.hid (H17.out.below hb18); have Ho18 := Lib.hid (show FilsIn w18 (fun _ => True) v18 fs by rw [← hp18]; exact ho18.fils (fun _ _ => trivial)); clear ho18 hp18 hb18 hA17)
    go_wp2_with (go_at_call 32; refine (laws_toIntS _ path _ (Hp.out.below (HX4.out.step C18.out).below) hq0).mono ?_; rintro _ w19 ⟨v19, rfl, hown19, hb19⟩; have C19 := Lib.hid (bt C18.out hb19); have H19 := Lib.hid (H18.out.below hb19); have Ho19 := Lib.hid (Ho18.out.below hb19); have HI19 := Lib.hid (IntsIn.of_owns hown19); clear hown19 hb19)
    go_wp2_with (go_at_call 44; refine (impl_HiddenFiles _ fs (fun _ => True) _ path _ Ho19.out Hs2.out HI19.out).mono ?_; rintro _ w20 ⟨v20, rfl, hown20, hb20⟩; rw [← Hsp.out] at hown20; obtain ⟨a20, c20, hv20⟩ := owns_shape hown20; subst hv20; have C20 := Lib.hid (bt C19.out hb20); have H20 := Lib.hid (H19.out.below hb20); have HI20 := Lib.hid (IntsIn.of_owns hown20); clear hown20 hb20)
    go_wp2_with (go_at_call 35; refine (laws_eqIntS _ _ sp sp _ (HI20.out.below (by (repeat (with_reducible first | exact Below.refl _ _ | assumption | refine ba ?_ _ | refine bd ?_ | refine bdN ?_ _ | refine bs ?_ (by first | exact Nat.le_refl _ | (dsimp only; omega) | (simp; done)) _ | refine bt ?_ (by assumption))))) ((HH4.out.below C20.out).below (by (repeat (with_reducible first | exact Below.refl _ _ | assumption | refine ba ?_ _ | refine bd ?_ | refine bdN ?_ _ | refine bs ?_ (by first | exact Nat.le_refl _ | (dsimp only; omega) | (simp; done)) _ | refine bt ?_ (by assumption)))))).mono ?_; rintro _ w21 ⟨rfl, hb21⟩; rw [decide_eq_true (rfl : sp = sp)]; have C21 := Lib.hid (show Below W4.heap.size W4 w21 by have := C20.out; (repeat (with_reducible first | exact Below.refl _ _ | assumption | refine ba ?_ _ | refine bd ?_ | refine bdN ?_ _ | refine bs ?_ (by first | exact Nat.le_refl _ | (dsimp only; omega) | (simp; done)) _ | refine bt ?_ (by assumption)))); have hb2021 := Lib.hid (show Below w20.heap.size w20 w21 by (repeat (with_reducible first | exact Below.refl _ _ | assumption | refine ba ?_ _ | refine bd ?_ | refine bdN ?_ _ | refine bs ?_ (by first | exact Nat.le_refl _ | (dsimp only; omega) | (simp; done)) _ | refine bt ?_ (by assumption)))); have H21 := Lib.hid (H20.out.below hb2021.out); clear hb21)
    go_wp2_with (go_at_call 45; refine (laws_heldIntS _ sp.length 1 _ H21.out (by omega) (by omega)).mono ?_; rintro _ w22 ⟨rfl, hb22⟩)
    go_ret
    exact ⟨rfl, bt (HX4.out.step C21.out).below hb22⟩

/-! ### THE STEP TO THE ROW -/
set_option maxRecDepth 100000 in
theorem lifted (os : Os) (started : os.Started) (H : Type) (enc : TypeId × Value → H) :
    ReturnsInHanded {} Try.checked os 9 .any (Rows.fnExactHiddenFilesSpec.pre6 enc Try.prog Try.f9 Rows.fnExactHiddenFilesRow.domain false) (Rows.fnExactHiddenFilesSpec.post enc Try.prog Try.f9 false true false false) := by
  refine returnsInHanded_of_change (C := Try.checked) own started (by kernel_rfl) Try.func9
    (ChangeSpec.witness6 (enc := enc) (C := Try.checked) false ⟨#[], #[.agg #[.slice none 0 0], .slice none 0 0], []⟩ 8 (by kernel_rfl) (by kernel_rfl) (by kernel_rfl) (by kernel_rfl)) ?_
  intro W base args ds gs before hval0 hW hcnd _
  have hval : ∀ (j : Nat) t v, Try.f9.params[j]? = some t → args[j]? = some v → Value.okWide Try.prog W .any base t v := hval0
  have hW' := hW
  obtain ⟨p, q, hA0, hV, rfl, hfz, hnd⟩ := hW
  have hA : DataW.TrodAll enc Try.prog W 0 (fun _ => true) true Try.f9.params.toList args.toList ds p := hA0
  rw [Try.params9] at hA hval
  obtain ⟨v0, vs0, d0, ds0, p0, q0, hargs, rfl, rfl, h0, r0⟩ := trodAll_cons hA
  obtain ⟨v1, vs1, d1, ds1, p1, q1, rfl, rfl, rfl, h1, r1⟩ := trodAll_cons r0
  obtain ⟨rfl, rfl, rfl⟩ := trodAll_nil r1
  obtain rfl : args = #[v0, v1] := by cases args; simp_all
  obtain ⟨rfl, rfl⟩ := trodVars_none hV
  obtain ⟨cs0, rfl, _⟩ := okWide_struct Try.underlying24 (hval 0 24 v0 rfl rfl)
  have k0 := h0
  have lt0 : ∀ x ∈ p0, x.block < W.heap.size := by obtain ⟨m, hm⟩ := k0; exact DataW.trod_lt m _ _ _ hm
  obtain ⟨xs0, tv0, et0, w0⟩ : ∃ fs tv, cs0 = #[tv] ∧ FilsIn W (fun _ => True) tv fs ∧ ShortT maxLen fs := by
    obtain ⟨fuel, hf⟩ := h0
    obtain ⟨a', len', cap', fs, e0, e1, e2⟩ := read_tree hf
    exact ⟨fs, _, by rw [← Array.toList_inj]; simpa [Value.cells] using e0, e1, e2⟩
  subst et0
  obtain ⟨a1, len1, cap1, rfl⟩ := okWide_slice Try.underlying53 (hval 1 53 v1 rfl rfl)
  have k1 := h1
  have lt1 : ∀ x ∈ p1, x.block < W.heap.size := by obtain ⟨m, hm⟩ := k1; exact DataW.trod_lt m _ _ _ hm
  obtain ⟨xs1, w1⟩ : ∃ xs, IntsIn W (.slice a1 len1 cap1) xs := by
    obtain ⟨fuel, hf⟩ := h1
    exact ints_row Try.underlying53 Try.underlying3 (by kernel_rfl) hf
  clear hA0 hval0
  refine (walk tv0 xs0 _ xs1 W w0 w1).mono fun e W' ⟨he, bel⟩ => ?_
  subst he
  exact ⟨_, rfl, _, _, _, [], _, [], hW', trodAll_mk1 (shut_bool Try.underlying4 _), (trodAll_cons_mk (Below.trod laidOut (by kernel_rfl) (of_decide_eq_true (by kernel_rfl)) k0 bel lt0) (trodAll_cons_mk (Below.trod laidOut (by kernel_rfl) (of_decide_eq_true (by kernel_rfl)) k1 bel lt1) trodAll_mk0)), rfl, bel.frame _, fun h => by cases h⟩

theorem over : Rows.fnExactHiddenFilesRow.holds Try.pinned (OpenSpec.ofChange Rows.fnExactHiddenFilesSpec) :=
  OpenClaim.holds_of_wide 9 Try.f9 rfl rfl rfl rfl rfl rfl rfl ⟨rfl, rfl, rfl, rfl, rfl⟩ rfl rfl rfl rfl rfl (by kernel_rfl) Try.func9 (by kernel_rfl)
    (of_decide_eq_true (by kernel_rfl)) (by unfold Func.isWrapper; first | (rw [if_pos (by decide +kernel)]; kernel_rfl) | (rw [if_neg (by decide +kernel)]; exact ⟨rfl, rfl⟩))
    (fun os started H enc _ => lifted os started H enc)

/-- THE STATEMENT -/
theorem proved : Rows.FnExactHiddenFilesSaid := over
end Go.Proofs.Ytkmclfhnhcphoaa.FnExactHiddenFiles
