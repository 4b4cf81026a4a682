/- FnLayersOf returns true for every code. Written by mkp7.py. -/
import Derived.Test.YtcmnldomcpjlcaaGreatDrawZ

import Derived.Test.YtcmnldomcpjlcaaGreatLooks
import Derived.Test.YtcmnldomcpjlcaaGreatMiss
import Derived.Test.YtcmnldomcpjlcaaGreatTrees
import Derived.Test.YtcmnldomcpjlcaaGreatTexts
import Derived.Test.YtcmnldomcpjlcaaGreatFrame
import Derived.Test.YtcmnldomcpjlcaaGreatFacts
import Derived.Deep.RegionHeld3
set_option linter.unusedVariables false
set_option linter.unusedSimpArgs false
namespace Go.Proofs.YtcmnldomcpjlcaaGreat.FnLayersOf
open Go.Sort Go.ChangeShapes Go.WideShapes Go.ChangeAt Go.RowKit Go.Proofs.YtcmnldomcpjlcaaGreat.Nm

theorem len_le_flat : ∀ (ls : List (List Bs)), (∀ l ∈ ls, l ≠ []) → ls.length ≤ ls.flatten.length ∧ ∀ l ∈ ls, l.length ≤ ls.flatten.length
  | [], _ => by simp
  | l :: r, h => by
    obtain ⟨h1, h2⟩ := len_le_flat r (fun x hx => h x (List.mem_cons_of_mem _ hx))
    have h3 := List.length_pos_iff.2 (h l List.mem_cons_self)
    refine ⟨by simp only [List.length_cons, List.flatten_cons, List.length_append]; omega, fun x hx => ?_⟩
    rw [List.flatten_cons, List.length_append]
    rcases List.mem_cons.1 hx with rfl | hx
    · omega
    · have := h2 x hx; omega
theorem layers_lens (fs : List Fil) (xs : List Int) (s : Bs) : (layersOf fs xs s).length ≤ 300 ∧ ∀ l ∈ layersOf fs xs s, l.length ≤ 300 := by
  by_cases h : layersOf fs xs s = []
  · rw [h]; simp
  · obtain ⟨a, b, _⟩ := layers_facts h
    obtain ⟨h1, h2⟩ := len_le_flat _ (fun l hl => (a l hl).2.1)
    have h3 := (reachOf_facts fs xs s).1
    exact ⟨by omega, fun l hl => by have := h2 l hl; omega⟩
set_option maxRecDepth 100000 in
set_option maxHeartbeats 8000000 in
theorem walk (a : Option Addr) (n cap : Nat) (w : World) (hc : Code w w.heap.size a n cap) :
    Calls Tryz.prog 13 #[.slice a n cap] w fun e w' => e = .returned (.bool true) ∧ Below w.heap.size w w' := by
  by_cases hn : (1048576 : Int) < (n : Int)
  · go_enter Tryz.func13, Tryz.ntmps13
    go_wp2_with fail
    go_ret
    exact ⟨rfl, Below.refl _ _⟩
  have Hc := Lib.hid hc
  clear hc
  have hf0 := fld0
  have hf1 := fld1
  go_enter Tryz.func13, Tryz.ntmps13
  go_wp2_with fail
  refine (spec_DrawLayersOf a n cap w Hc.out).mono ?_
  rintro e w1 ⟨v, ps, pv, xs, s, rfl, ⟨hrows, hsh, hl, hb5, hb1⟩, hp, hx3, hs17⟩
  obtain ⟨va, vc, rfl⟩ := hrows.len
  have HR := Lib.hid hrows
  obtain ⟨fs, hfs⟩ : ∃ fs, fs = ps.map (·.1) := ⟨_, rfl⟩
  have Hfs := Lib.hid hfs
  have hfl : fs.length = ps.length := by rw [hfs, List.length_map]
  have HF := Lib.hid (show FilsIn w1 (fun _ => True) (.slice va ps.length vc) fs by rw [hfs]; exact hrows.fils)
  have Hz8 := Lib.hid (show ShortT 8000000 fs by rw [hfs]; exact shortT_mono (by omega) hsh)
  have Hz2 := Lib.hid (show ShortT 2000000 fs by rw [hfs]; exact shortT_mono (by omega) hsh)
  have Hb1 := Lib.hid hb1
  have B0 := Nm.Boxed.start w1 #[.slice va ps.length vc] 31
  have hl11 : fs.length ≤ 11 := by omega
  clear hrows hsh hb5 hb1 hfs
  generalize ps.length = pn at *
  subst hfl
  have X1 := Lib.hid B0
  clear B0
  obtain ⟨pa, pc, rfl⟩ := hp.len
  have HP := Lib.hid hp.ints
  clear hp
  obtain ⟨hll, hlx⟩ := layers_lens fs xs s
  obtain ⟨ls, hls⟩ : ∃ x, x = layersOf fs xs s := ⟨_, rfl⟩
  have Hls := Lib.hid hls
  rw [← hls] at hll hlx
  clear hls
  go_wp2_with fail
  refine (impl_LayersOf _ fs (fun _ => True) _ xs s _ (HF.out.below X1.out.below) Hz2.out (HP.out.below X1.out.below) (by omega)).mono ?_
  rintro _ w2 ⟨v2, vs, rfl, hvs, hos2, hb2⟩
  rw [← Hls.out] at hvs
  have Hvs := Lib.hid hvs
  have O2 := Lib.hid hos2
  obtain ⟨a2, c2, rfl⟩ := owns_shape hos2.1
  have X2 := Lib.hid (X1.out.step hb2)
  have x2 : w2.cell? ⟨w1.heap.size, 0, none⟩ = some (.slice va fs.length vc) := X2.out.cell 0
  have hvl : vs.length ≤ 300 := by rw [← hvs] at hll; simpa using hll
  have Hvx := Lib.hid (show ∀ p ∈ vs, p.2.length ≤ 300 from fun p hp => hlx _ (by rw [← hvs]; exact List.mem_map.2 ⟨p, hp, rfl⟩))
  clear hb2 hos2 hvs
  go_wp2_with fail
  refine (spec_LayersOf _ fs (fun _ => True) _ xs s _ (HF.out.below X2.out.below) Hz2.out (HP.out.below X2.out.below) (by omega)).mono ?_
  rintro _ w3 ⟨v3, us, rfl, hus, hos3, hb3⟩
  rw [← Hls.out] at hus
  have Hus := Lib.hid hus
  have O3 := Lib.hid hos3
  obtain ⟨a3, c3, rfl⟩ := owns_shape hos3.1
  have X3 := Lib.hid (X2.out.step hb3)
  have x3 : w3.cell? ⟨w1.heap.size, 0, none⟩ = some (.slice va fs.length vc) := X3.out.cell 0
  have O2 := Lib.hid (O2.out.below hb3)
  clear hb3 hos3 x2 hus
  have hn0 : ((vs.length : Int) == 0) = decide (vs.length = 0) := by
    rw [Bool.eq_iff_iff, beq_iff_eq, decide_eq_true_iff]; omega
  by_cases h0 : vs.length = 0
  · have H0 := Lib.hid h0
    rw [decide_eq_true h0] at hn0
    clear h0
    go_wp2_with fail
    refine (laws_equalLayers _ _ _ _ vs us _ O2.out O3.out (Hvs.out.trans Hus.out.symm) (by omega) (fun p hp => Nat.le_trans (Hvx.out p hp) (by omega))).mono ?_
    rintro _ w4 ⟨rfl, hb4⟩
    have X4 := Lib.hid (X3.out.step hb4)
    have x4 : w4.cell? ⟨w1.heap.size, 0, none⟩ = some (.slice va fs.length vc) := X4.out.cell 0
    have O2 := Lib.hid (O2.out.below hb4)
    clear hb4 x3
    go_wp2_with fail
    refine (spec_LayersOf _ fs (fun _ => True) _ xs s _ (HF.out.below X4.out.below) Hz2.out (HP.out.below X4.out.below) (by omega)).mono ?_
    rintro _ w5 ⟨v5, us5, rfl, hus5, hos5, hb5⟩
    rw [← Hls.out] at hus5
    have Hus5 := Lib.hid hus5
    have O5 := Lib.hid hos5
    have O2 := Lib.hid (O2.out.below hb5)
    have X5 := Lib.hid (X4.out.step hb5)
    obtain ⟨a5, c5, rfl⟩ := owns_shape hos5.1
    clear hb5 x4 hus5 hos5
    go_wp2_with fail
    refine (laws_equalLayers _ _ _ _ vs us5 _ O2.out O5.out (Hvs.out.trans Hus5.out.symm) (by omega) (fun p hp => Nat.le_trans (Hvx.out p hp) (by omega))).mono ?_
    rintro _ w6 ⟨rfl, hb6⟩
    have X6 := Lib.hid (X5.out.step hb6)
    clear hb6
    go_wp2_with fail
    go_ret
    exact ⟨rfl, bt Hb1.out X6.out.below⟩
  · have hne : layersOf fs xs s ≠ [] := by
      rw [← Hls.out, ← Hvs.out]
      intro e
      have := congrArg List.length e
      simp at this
      exact h0 (by rw [this]; rfl)
    obtain ⟨f1, f2, f3, f4, f5⟩ := layers_facts hne
    have hrl := (reachOf_facts fs xs s).1
    have hvn := (reachOf_facts fs xs s).2.1
    rw [← Hls.out, ← Hvs.out] at f1 f2 f3 f4
    have Hf1 := Lib.hid (show ∀ (i : Nat) (h : i < vs.length), Up vs[i].2 ∧ vs[i].2 ≠ [] ∧ ∀ x ∈ vs[i].2, vn x = true from fun i h => by
      have := f1 _ (List.mem_map.2 ⟨vs[i], List.getElem_mem h, rfl⟩)
      exact ⟨this.1, this.2.1, fun x hx => hvn x (this.2.2 x hx)⟩)
    have Hf4 := Lib.hid (show ∀ (i : Nat) (h : i < vs.length), ∀ x ∈ vs[i].2, x ∉ ((vs.take i).map (·.2)).flatten ∧ ∀ y ∈ edgesOf fs xs x, y ∈ ((vs.take i).map (·.2)).flatten from fun i h x hx => by
      have := f4 i (by simpa using h) x (by simpa using hx)
      rw [← List.map_take] at this; exact this)
    have Hf3 := Lib.hid f3
    have Hf5 := Lib.hid f5
    have hfl : ((vs.map (·.2)).flatten).length ≤ 300 := by omega
    have Hsub9 := Lib.hid (show ∀ i, (((vs.take i).map (·.2)).flatten).length ≤ 300 from fun i => by
      have h : (vs.map (·.2)).flatten = ((vs.take i).map (·.2)).flatten ++ ((vs.drop i).map (·.2)).flatten := by
        rw [← List.flatten_append, ← List.map_append, List.take_append_drop]
      rw [h, List.length_append] at hfl; omega)
    generalize hLL : reachOf fs xs s = L at *
    have HLL := Lib.hid hLL
    have Hf2 := Lib.hid f2
    rw [decide_eq_false h0] at hn0
    clear hLL f1 f2 f3 f4 f5 hvn hne
    obtain ⟨i0, hi, hz0, hz1, hz2⟩ := info_parts infoS
    have Hi := Lib.hid hi
    have Hy0 := Lib.hid hz0
    have Hy1 := Lib.hid hz1
    have Hy2 := Lib.hid hz2
    clear hi hz0 hz1 hz2
    go_wp2_with fail
    refine (laws_equalLayers _ _ _ _ vs us _ O2.out O3.out (Hvs.out.trans Hus.out.symm) (by omega) (fun p hp => Nat.le_trans (Hvx.out p hp) (by omega))).mono ?_
    rintro _ w4 ⟨rfl, hb4⟩
    have X4 := Lib.hid (X3.out.step hb4)
    have O2 := Lib.hid (O2.out.below hb4)
    clear hb4 x3
    have HE := Lib.hid (show (w4.alloc (.cells #[] 9)).ownsRow w4.heap.size 9 1 (.slice (some ⟨w4.heap.size, 0, none⟩) 0 0) 0 [] from World.ownsRow_lit (size := 1) w4 #[] 0 (Nat.le_refl _) (by unfold maxLen; omega) rfl)
    have x4l := X4.out.lt
    go_wp2_with fail
    go_loopw [7, 8] (fun bv iv wr => ∃ i : Nat, i ≤ vs.length ∧ iv = .int .i64 i ∧ wr.ownsRow w4.heap.size 9 1 bv (((vs.take i).map (·.2)).flatten).length ((((vs.take i).map (·.2)).flatten).map sv) ∧ Below w4.heap.size w4 wr) (fun _ iv _ => vs.length - (intOf iv).toNat)
    case atStart => exact ⟨0, by omega, rfl, HE.out, ba (Below.refl _ _) _⟩
    case round =>
      obtain ⟨i, hi, rfl, hbo, hbel⟩ := hrel
      have Hbo := Lib.hid hbo
      have Hbel := Lib.hid hbel
      obtain ⟨ba7, bc7, rfl⟩ := owns_shape hbo
      have XO := Lib.hid (X4.out.step hbel)
      have OO := Lib.hid (O2.out.below hbel)
      have hbf := Hsub9.out i
      have hzo := hbel.size
      clear hbo hbel HE
      by_cases hlti : i < vs.length
      · have Hfi := Lib.hid (Hf1.out i hlti)
        have Hgi := Lib.hid (Hf4.out i hlti)
        have hlx3 := Hvx.out _ (List.getElem_mem hlti)
        have hOi := (OO.out.2.1 _ (List.getElem_mem hlti)).1
        have Hsn := Lib.hid (show ((vs.take (i + 1)).map (·.2)).flatten = ((vs.take i).map (·.2)).flatten ++ vs[i].2 by
          rw [List.take_succ_eq_append_getElem hlti, List.map_append, List.flatten_append]; simp)
        have O1 : wr.ownsRow _ 27 1 (.slice a2 vs.length c2) vs.length (vs.map (·.1)) := OO.out.1
        obtain ⟨ga, da, ea, hga1, hga2⟩ := O1.form (by omega)
        simp only [Value.slice.injEq] at ea
        obtain ⟨rfl, z1, rfl⟩ := ea
        clear z1
        have hcO : wr.cell? ⟨ga, i, none⟩ = some vs[i].1 := by
          rw [O1.cellAt i (by omega), List.getElem?_map, List.getElem?_eq_getElem hlti]; rfl
        generalize ((vs.take i).map (·.2)).flatten = bf at *
        generalize vs[i] = p at *
        obtain ⟨pv, l⟩ := p
        dsimp only at Hfi Hgi hlx3 hOi Hsn hcO
        have Rl := Lib.hid (Reads.of_owns hOi)
        have HOi := Lib.hid hOi
        have hlpos : 0 < l.length := List.length_pos_iff.2 Hfi.out.2.1
        obtain ⟨gl, ol, cl, rfl, _, _, hgs, hcl⟩ := Reads.some Rl.out hlpos
        have Hcl := Lib.hid hcl
        have hii : (i : Int) < (vs.length : Int) := by omega
        have hi0' : (0 : Int) ≤ (i : Int) := by omega
        clear hcl hOi O1
        generalize wr = wo at *
        go_wp2_with fail
        go_loopw [9] (fun kv wr => ∃ k : Nat, k ≤ l.length ∧ kv = .int .i64 k ∧ Below wo.heap.size wo wr) (fun kv _ => l.length - (intOf kv).toNat)
        case atStart => exact ⟨0, by omega, rfl, Below.refl _ _⟩
        case round =>
          obtain ⟨k, hk, rfl, hbel⟩ := hrel
          have Hbr := Lib.hid hbel
          have XR := Lib.hid (XO.out.step hbel)
          have xr : wr.cell? ⟨w1.heap.size, 0, none⟩ = some (.slice va fs.length vc) := XR.out.cell 0
          have lr := XR.out.lt
          have hcR : wr.cell? ⟨ga, i, none⟩ = some (.slice (some ⟨gl, ol, none⟩) l.length cl) := (hbel.cell (p := ⟨ga, i, none⟩) hga2).trans hcO
          have hgaR : ga < wr.heap.size := Nat.lt_of_lt_of_le hga2 hbel.size
          have hgsR : gl < wr.heap.size := Nat.lt_of_lt_of_le hgs hbel.size
          have RBr := Lib.hid ((Reads.of_owns Hbo.out).below hbel)
          have hzr := hbel.size
          clear hbel
          by_cases hlt : k < l.length
          · have hcell : wr.cell? ⟨gl, ol + k, none⟩ = some (.string (mk l[k])) := (Hbr.out.cell (p := ⟨gl, ol + k, none⟩) hgs).trans (Hcl.out k hlt)
            have hnl8 : l[k].length ≤ 8000000 := Nat.le_trans (vn_len (Hfi.out.2.2 _ (List.getElem_mem hlt))) (by omega)
            have Hnb := Lib.hid (decide_eq_false (Hgi.out _ (List.getElem_mem hlt)).1)
            have Hsub0 := Lib.hid (Hgi.out _ (List.getElem_mem hlt)).2
            have hk1 : (k : Int) < (l.length : Int) := by omega
            have hk0' : (0 : Int) ≤ (k : Int) := by omega
            clear hcO
            generalize l[k] = nm at *
            have Hk := Lib.hid (fun (w' : World) (hC : Below wr.heap.size wr w') => (⟨(hC.cell (p := ⟨w1.heap.size, 0, none⟩) lr).trans xr, (hC.cell (p := ⟨ga, i, none⟩) hgaR).trans hcR, (hC.cell (p := ⟨gl, ol + k, none⟩) hgsR).trans hcell, hC⟩ : w'.cell? ⟨w1.heap.size, 0, none⟩ = some (.slice va fs.length vc) ∧ w'.cell? ⟨ga, i, none⟩ = some (.slice (some ⟨gl, ol, none⟩) l.length cl) ∧ w'.cell? ⟨gl, ol + k, none⟩ = some (.string (mk nm)) ∧ Below wr.heap.size wr w'))
            rcases (show canFind fs xs nm = true ∨ canFind fs xs nm = false by cases canFind fs xs nm <;> simp) with hcf | hcf
            · have Hcf := Lib.hid hcf
              have heL := (edgesOf_ok fs xs nm).2.2
              obtain ⟨es, hes⟩ : ∃ es, es = edgesOf fs xs nm := ⟨_, rfl⟩
              rw [← hes] at heL
              have Hsub := Lib.hid (show ∀ y ∈ es, y ∈ bf by rw [hes]; exact Hsub0.out)
              have Hes := Lib.hid hes.symm
              clear hcf hes
              go_wp2_with fail
              go_region_held3 (fun w' => w'.cell? ⟨w1.heap.size, 0, none⟩ = some (.slice va fs.length vc) ∧ w'.cell? ⟨ga, i, none⟩ = some (.slice (some ⟨gl, ol, none⟩) l.length cl) ∧ w'.cell? ⟨gl, ol + k, none⟩ = some (.string (mk nm)) ∧ Below wr.heap.size wr w')
                (first | exact Hk.out _ Hb9.out | exact Hk.out _ Hb8.out | exact Hk.out _ (by (repeat (with_reducible first | exact Below.refl _ _ | assumption | refine ba ?_ _ | refine bd ?_ | refine bdN ?_ _ | refine bs ?_ (by first | exact Nat.le_refl _ | (dsimp only; omega) | (simp; done)) _ | refine bt ?_ (by assumption)))))
                (first
                  | (go_at_call 50; refine (laws_hasText _ bf nm _ (RBr.out.below (by (repeat (with_reducible first | exact Below.refl _ _ | assumption | refine ba ?_ _ | refine bd ?_ | refine bdN ?_ _ | refine bs ?_ (by first | exact Nat.le_refl _ | (dsimp only; omega) | (simp; done)) _ | refine bt ?_ (by assumption))))) (by omega)).mono ?_; rintro _ _ ⟨rfl, rfl⟩; rw [Hnb.out])
                  | (go_at_call 41; refine (impl_CanFind _ fs (fun _ => True) _ xs nm _ (HF.out.below (bt XR.out.below (by (repeat (with_reducible first | exact Below.refl _ _ | assumption | refine ba ?_ _ | refine bd ?_ | refine bdN ?_ _ | refine bs ?_ (by first | exact Nat.le_refl _ | (dsimp only; omega) | (simp; done)) _ | refine bt ?_ (by assumption)))))) Hz2.out (HP.out.below (bt XR.out.below (by (repeat (with_reducible first | exact Below.refl _ _ | assumption | refine ba ?_ _ | refine bd ?_ | refine bdN ?_ _ | refine bs ?_ (by first | exact Nat.le_refl _ | (dsimp only; omega) | (simp; done)) _ | refine bt ?_ (by assumption)))))) (by omega)).mono ?_; rintro _ w8 ⟨rfl, hb8⟩; rw [Hcf.out]; have Hb8 := Lib.hid (show Below wr.heap.size wr w8 by (repeat (with_reducible first | exact Below.refl _ _ | assumption | refine ba ?_ _ | refine bd ?_ | refine bdN ?_ _ | refine bs ?_ (by first | exact Nat.le_refl _ | (dsimp only; omega) | (simp; done)) _ | refine bt ?_ (by assumption)))); clear hb8)
                  | (go_at_call 43; refine (impl_EdgesOf _ fs (fun _ => True) _ xs nm _ (HF.out.below (bt XR.out.below (by first | exact Hb8.out | (have := Hb8.out; (repeat (with_reducible first | exact Below.refl _ _ | assumption | refine ba ?_ _ | refine bd ?_ | refine bdN ?_ _ | refine bs ?_ (by first | exact Nat.le_refl _ | (dsimp only; omega) | (simp; done)) _ | refine bt ?_ (by assumption))))))) Hz2.out (HP.out.below (bt XR.out.below (by first | exact Hb8.out | (have := Hb8.out; (repeat (with_reducible first | exact Below.refl _ _ | assumption | refine ba ?_ _ | refine bd ?_ | refine bdN ?_ _ | refine bs ?_ (by first | exact Nat.le_refl _ | (dsimp only; omega) | (simp; done)) _ | refine bt ?_ (by assumption))))))) (by omega)).mono ?_; rintro _ w9 ⟨v9, rfl, hown9, hb9⟩; rw [Hes.out] at hown9; have R9 := Lib.hid (Reads.of_owns hown9); have Hb9 := Lib.hid (show Below wr.heap.size wr w9 by have := Hb8.out; (repeat (with_reducible first | exact Below.refl _ _ | assumption | refine ba ?_ _ | refine bd ?_ | refine bdN ?_ _ | refine bs ?_ (by first | exact Nat.le_refl _ | (dsimp only; omega) | (simp; done)) _ | refine bt ?_ (by assumption)))); clear hown9 hb9)
                  | (go_at_call 42; refine (laws_withinTexts _ _ es bf _ (Reads.below R9.out (by (repeat (with_reducible first | exact Below.refl _ _ | assumption | refine ba ?_ _ | refine bd ?_ | refine bdN ?_ _ | refine bs ?_ (by first | exact Nat.le_refl _ | (dsimp only; omega) | (simp; done)) _ | refine bt ?_ (by assumption))))) (Reads.below RBr.out (by first | exact Hb9.out | (have := Hb9.out; (repeat (with_reducible first | exact Below.refl _ _ | assumption | refine ba ?_ _ | refine bd ?_ | refine bdN ?_ _ | refine bs ?_ (by first | exact Nat.le_refl _ | (dsimp only; omega) | (simp; done)) _ | refine bt ?_ (by assumption)))))) (by omega) (by omega) Hsub.out).mono ?_; rintro _ _ ⟨rfl, rfl⟩))
              all_goals
                have hb9 : Below wr.heap.size wr w9 := Hb9.out
                go_wp2_with fail
                go_roundw
                case rel => exact ⟨k + 1, by omega, by go_num, bt Hbr.out hb9⟩
                case measure => simp [intOf]; omega
            · have Hcf := Lib.hid hcf
              clear hcf
              have kA := cell_regrown xr
              have kB := cell_regrown hcell
              have kC := cell_regrown hcR
              have cP : ∀ d os, Calls Tryz.prog 41 #[.agg #[.slice va fs.length vc], .slice pa xs.length pc, .string (mk nm)] (grow (redrawn wr d) os) fun e w'' => e = .returned (.bool false) ∧ ∃ p : Regrown, w'' = grow (redrawn wr p.d) p.os := fun d os => Calls.regrown_of (by have h := impl_CanFind _ fs (fun _ => True) _ xs nm (grow (redrawn wr d) os) (HF.out.below (bt XR.out.below (below_regrown wr d os))) Hz2.out (HP.out.below (bt XR.out.below (below_regrown wr d os))) (by omega); rw [Hcf.out] at h; exact h)
              have cQ : ∀ d os, Calls Tryz.prog 50 #[.slice ba7 bf.length bc7, .string (mk nm)] (grow (redrawn wr d) os) fun e w'' => e = .returned (.bool false) ∧ ∃ p : Regrown, w'' = grow (redrawn wr p.d) p.os := fun d os => by
                have h := laws_hasText _ bf nm (grow (redrawn wr d) os) (Reads.below RBr.out (below_regrown wr d os)) (by omega)
                rw [Hnb.out] at h
                exact h.mono (fun e w'' q => ⟨q.1, ⟨d, os⟩, q.2.symm⟩)
              go_wp2_with fail
              refine wp_region_quiet_below (by kernel_rfl) (by kernel_rfl) ?_
              repeat (go_big_quiet_step (first | exact cQ _ _ | exact cP _ _))
              refine wpQuiet_nil ?_
              intro _ hw'
              obtain ⟨⟨dq, osq⟩, hw2⟩ := hw'
              subst hw2
              have Hb9 := Lib.hid (below_regrown wr dq osq)
              clear cP cQ kA kB kC
              go_wp2_with fail
              go_roundw
              case rel => exact ⟨k + 1, by omega, by go_num, bt Hbr.out Hb9.out⟩
              case measure => simp [intOf]; omega
          · obtain rfl : k = l.length := by omega
            have hln0 : ((l.length : Int) == 0) = false := by rw [beq_eq_false_iff_ne]; omega
            have RlR := Lib.hid (Rl.out.below Hbr.out)
            clear hcO
            go_wp2_with fail
            refine (laws_rises _ l _ RlR.out (by omega) Hfi.out.1).mono ?_
            rintro _ w8 ⟨rfl, hb8⟩
            have Hb8 := Lib.hid hb8
            have hc8 : w8.cell? ⟨ga, i, none⟩ = some (.slice (some ⟨gl, ol, none⟩) l.length cl) := (hb8.cell (p := ⟨ga, i, none⟩) hgaR).trans hcR
            have Hb8o := Lib.hid (bt Hbr.out hb8)
            have Hbo8 := Lib.hid (owns_below Hbo.out Hb8o.out)
            have HOi8 := Lib.hid (owns_below HOi.out Hb8o.out)
            have hz8 := Hb8o.out.size
            clear hb8 hcR xr
            go_wp2_with (at_builtin; refine wpList_append_both rfl _ _ 27 rfl w4.heap.size 9 i0 (.string ByteArray.empty) 1 16 Tryz.underlying27 Hi.out Hy0.out Hy1.out Hy2.out rfl (by decide) _ bf.length _ rfl Hbo8.out _ _ l.length _ rfl HOi8.out (fun u hu => by obtain ⟨b, _, rfl⟩ := List.mem_map.1 hu; rfl) (by unfold maxLen; omega) (by omega) (by omega) ?_; intro v9 w9 hown9 hgrow9)
            have Hown9 := Lib.hid (show w9.ownsRow w4.heap.size 9 1 v9 (bf ++ l).length ((bf ++ l).map sv) by rw [List.length_append, List.map_append]; exact hown9)
            have Hb9 := Lib.hid (show Below w4.heap.size w4 w9 from (bt Hbel.out Hb8o.out).grown hgrow9 (by omega) (fun x hx => (owns_block Hbo8.out hx).1))
            clear hown9 hgrow9
            go_roundw
            case rel => exact ⟨i + 1, by omega, by go_num, by rw [Hsn.out]; exact Hown9.out, Hb9.out⟩
            case measure => simp [intOf]; omega
      · obtain rfl : i = vs.length := by omega
        rw [List.take_length] at Hbo ⊢
        have hbl := Hf2.out
        have RB := Lib.hid (Reads.of_owns Hbo.out)
        rw [hbl] at RB ⊢
        obtain ⟨bf, hbf⟩ : ∃ bf, bf = (vs.map (·.2)).flatten := ⟨_, rfl⟩
        rw [← hbf] at RB Hf3 hbl
        have Hbl := Lib.hid hbl
        clear hbf hbl Hbo
        have xo : wr.cell? ⟨w1.heap.size, 0, none⟩ = some (.slice va fs.length vc) := XO.out.cell 0
        go_wp2_with fail
        refine (impl_ReachOf _ fs (fun _ => True) _ xs s _ (HF.out.below XO.out.below) Hz2.out (HP.out.below XO.out.below) (by omega)).mono ?_
        rintro _ w7 ⟨v7, rfl, hown7, hb7⟩
        rw [HLL.out] at hown7
        have R7 := Lib.hid (Reads.of_owns hown7)
        obtain ⟨a7, c7, rfl⟩ := owns_shape hown7
        have X7 := Lib.hid (XO.out.step hb7)
        have RB7 := Lib.hid (Reads.below RB.out hb7)
        have x7 : w7.cell? ⟨w1.heap.size, 0, none⟩ = some (.slice va fs.length vc) := X7.out.cell 0
        clear hb7 hown7 xo
        go_wp2_with fail
        refine (laws_withinTexts _ _ L bf _ R7.out RB7.out (by omega) (by have := Hbl.out; omega) Hf3.out).mono ?_
        rintro _ _ ⟨rfl, rfl⟩
        go_wp2_with fail
        refine (impl_RingsOf _ fs (fun _ => True) _ xs s _ (HF.out.below X7.out.below) Hz2.out (HP.out.below X7.out.below) (by omega)).mono ?_
        rintro _ w8 ⟨v8, rfl, hown8, hb8⟩
        rw [Hf5.out] at hown8
        obtain ⟨a8, c8, rfl⟩ := owns_shape hown8
        have X8 := Lib.hid (X7.out.step hb8)
        clear hb8 hown8 x7
        go_wp2_with fail
        go_ret
        exact ⟨rfl, bt Hb1.out X8.out.below⟩

/-! ### THE STEP TO THE ROW -/
set_option maxRecDepth 100000 in
theorem lifted (os : Os) (started : os.Started) (H : Type) (enc : TypeId × Value → H) :
    ReturnsInHanded {} Tryz.checked os 13 .any (Rows.fnLayersOfSpec.pre6 enc Tryz.prog Tryz.f13 Rows.fnLayersOfRow.domain false) (Rows.fnLayersOfSpec.post enc Tryz.prog Tryz.f13 false true false false) := by
  refine returnsInHanded_of_change (C := Tryz.checked) own started (by kernel_rfl) Tryz.func13
    (ChangeSpec.witness6 (enc := enc) (C := Tryz.checked) false ⟨#[], #[.slice none 0 0], []⟩ 8 (by kernel_rfl) (by kernel_rfl) (by kernel_rfl) (by kernel_rfl)) ?_
  intro W base args ds gs before hval0 hW hcnd _
  have hval : ∀ (j : Nat) t v, Tryz.f13.params[j]? = some t → args[j]? = some v → Value.okWide Tryz.prog W .any base t v := hval0
  have hW' := hW
  obtain ⟨p, q, hA0, hV, rfl, hfz, hnd⟩ := hW
  have hA : DataW.TrodAll enc Tryz.prog W 0 (fun _ => true) true Tryz.f13.params.toList args.toList ds p := hA0
  rw [Tryz.params13] at hA hval
  obtain ⟨v0, vs0, d0, ds0, p0, q0, hargs, rfl, rfl, h0, r0⟩ := trodAll_cons hA
  obtain ⟨rfl, rfl, rfl⟩ := trodAll_nil r0
  obtain rfl : args = #[v0] := by cases args; simp_all
  obtain ⟨rfl, rfl⟩ := trodVars_none hV
  obtain ⟨a0, len0, cap0, rfl⟩ := okWide_slice Tryz.underlying48 (hval 0 48 v0 rfl rfl)
  have k0 := h0
  have lt0 : ∀ x ∈ p0, x.block < W.heap.size := by obtain ⟨m, hm⟩ := k0; exact DataW.trod_lt m _ _ _ hm
  have w0 : Code W W.heap.size a0 len0 cap0 := by
    obtain ⟨fuel, hf⟩ := h0
    rcases open_ints Tryz.underlying48 Tryz.underlying5 (by kernel_rfl) hf with ⟨hcs, _⟩ | ⟨x, l, c, zs, hcs, _, hl, hm, hz, _, hcell, hwz⟩
    · simp [Value.cells] at hcs
      obtain ⟨rfl, rfl, rfl⟩ := hcs
      exact .inl ⟨rfl, by unfold maxLen; omega⟩
    · simp [Value.cells] at hcs
      obtain ⟨rfl, rfl, rfl⟩ := hcs
      exact code_row W _ _ _ zs hl hm (by simpa using hz) hcell hwz
  clear hA0 hval0
  refine (walk a0 len0 cap0 W w0).mono fun e W' ⟨he, bel⟩ => ?_
  subst he
  exact ⟨_, rfl, _, _, _, [], _, [], hW', trodAll_mk1 (shut_bool Tryz.underlying4 _), (trodAll_cons_mk (Below.trod laidOut (by kernel_rfl) (of_decide_eq_true (by kernel_rfl)) k0 bel lt0) trodAll_mk0), rfl, bel.frame _, fun h => by cases h⟩

set_option maxRecDepth 100000 in
set_option maxHeartbeats 16000000 in
theorem closed : joinedFacts Tryz.pinned.checked.prog 13 Tryz.f13 Rows.fnLayersOfSpec Rows.fnLayersOfRow = true := by
  unfold joinedFacts
  simp only [Bool.and_eq_true]
  with_reducible repeat' apply And.intro
  rotate_left 25
  exact Facts.enter
  exact Facts.lifts
  exact Facts.make
  all_goals as_aux_lemma => exact of_decide_eq_true (by kernel_rfl)

theorem over : Rows.fnLayersOfRow.holds Tryz.pinned (OpenSpec.ofChange Rows.fnLayersOfSpec) :=
  OpenClaim.holds_of_wide 13 Tryz.f13 rfl rfl rfl rfl rfl rfl rfl ⟨rfl, rfl, rfl, rfl, rfl⟩ rfl rfl rfl rfl rfl (by kernel_rfl) Tryz.func13 closed
    (of_decide_eq_true (by kernel_rfl)) (by unfold Func.isWrapper; first | (rw [if_pos (by decide +kernel)]; kernel_rfl) | (rw [if_neg (by decide +kernel)]; exact ⟨rfl, rfl⟩))
    (fun os started H enc _ => lifted os started H enc)

/-- THE STATEMENT -/
theorem proved : Rows.FnLayersOfSaid := over
end Go.Proofs.YtcmnldomcpjlcaaGreat.FnLayersOf
