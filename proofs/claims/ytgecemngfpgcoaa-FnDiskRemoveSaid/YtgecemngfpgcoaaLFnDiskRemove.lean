/- FnDiskRemove returns true for every code. -/
import Derived.Test.YtgecemngfpgcoaaDrawDb
import Derived.Test.YtgecemngfpgcoaaDisks
import Derived.Test.YtgecemngfpgcoaaPlainK
import Derived.Test.YtgecemngfpgcoaaEqDsk
import Derived.Test.YtgecemngfpgcoaaFrame
import Derived.OwnWalk
set_option linter.unusedVariables false
set_option linter.unusedSimpArgs false
namespace Go.Proofs.Ytgecemngfpgcoaa.FnDiskRemove
open Go.ChangeShapes Go.WideShapes Go.ChangeAt Go.RowKit Go.Proofs.Ytgecemngfpgcoaa.Nm
open Go.Sort (grow)

/-- What a removal that is possible leaves. -/
theorem rem_facts {fs : List Fil} {c : Int} {ds : List Dr} {i k : Int} (h : (diskRem ⟨fs, c, ds⟩ i k).2 = true) :
    okDisk (diskRem ⟨fs, c, ds⟩ i k).1 = true ∧ (remFil fs i).2 = true ∧ (diskRem ⟨fs, c, ds⟩ i k).1.files = (remFil fs i).1 ∧ ∃ j : Nat, ∃ hj : j < fs.length, i = (j : Int) ∧
      stampOf (diskRem ⟨fs, c, ds⟩ i k).1 fs[j].root fs[j].pack = (diskRem ⟨fs, c, ds⟩ i k).1.clock ∧ stampOf (diskRem ⟨fs, c, ds⟩ i k).1 fs[j].root [] = (diskRem ⟨fs, c, ds⟩ i k).1.clock := by
  cases hc : okDisk ⟨fs, c, ds⟩ && (remFil fs i).2
  · rw [diskRem_no hc] at h; exact absurd h (by simp)
  · simp only [Bool.and_eq_true] at hc
    rw [diskRem_yes hc.1 hc.2] at h ⊢
    obtain ⟨f1, f2, f3, f4, f5⟩ := PlainKd.changed_facts (d := ⟨fs, c, ds⟩) h
    obtain ⟨j, hj, rfl, hvp, hget⟩ := remFil_at hc.2
    rw [hget] at h f1 f2 f3 f5 ⊢
    have hro : inr fs[j].root 0 2 = true := by
      have ht := (okDisk_all hc.1).2.2
      have hf := okTree_file ht (List.getElem_mem hj)
      unfold okFil at hf
      simp only [Bool.and_eq_true] at hf
      exact hf.1.1.1.1
    refine ⟨f1, hc.2, f2, j, hj, rfl, ?_, ?_⟩
    · unfold stampOf
      rw [show (okDisk (changed ⟨fs, c, ds⟩ (remFil fs (j : Int)).1 fs[j].root fs[j].pack k).1) = true from f1, hro, hvp]
      simp only [Bool.and_self, if_true]
      refine (f5 _).trans ?_
      rw [if_pos ⟨rfl, by
        by_cases h0 : fs[j].pack = []
        · rw [h0]; simp
        · exact List.mem_cons_of_mem _ (PlainKd.self_above (vn_of_vpk hvp h0))⟩]
      exact f3.symm
    · unfold stampOf
      rw [show (okDisk (changed ⟨fs, c, ds⟩ (remFil fs (j : Int)).1 fs[j].root fs[j].pack k).1) = true from f1, hro, vpk_nil]
      simp only [Bool.and_self, if_true]
      refine (f5 _).trans ?_
      rw [if_pos ⟨rfl, by simp⟩]
      exact f3.symm
theorem rem_none {d : Dsk} {i k : Int} {res : Dsk × Bool} (h : (diskRem d i k).2 = false) (e : res = diskRem d i k) : res = (⟨[], 0, []⟩, false) := by
  subst e
  cases hc : okDisk d && (remFil d.files i).2
  · exact diskRem_no hc
  · simp only [Bool.and_eq_true] at hc
    rw [diskRem_yes hc.1 hc.2] at h ⊢
    unfold changed at h ⊢
    split at h
    · exact absurd h (by simp)
    · rename_i hx; rw [if_neg hx]
set_option maxRecDepth 100000 in
set_option maxHeartbeats 4000000 in
theorem walk (a : Option Addr) (n cap : Nat) (w : World) (hc : Code w w.heap.size a n cap) :
    Calls Try.prog 3 #[.slice a n cap] w fun e w' => e = .returned (.bool true) ∧ Below w.heap.size w w' := by
  by_cases hn : (1048576 : Int) < (n : Int)
  · go_enter Try.func3, Try.ntmps3
    go_wp2_with fail
    go_ret
    exact ⟨rfl, Below.refl _ _⟩
  · have Hc := Lib.hid hc
    clear hc
    go_enter Try.func3, Try.ntmps3
    go_wp2_with fail
    refine (spec_DrawDiskRemove a n cap w Hc.out).mono ?_
    rintro e w1 ⟨v, ps, u, qs, cl, ix, tk, rfl, ⟨hown, hfine, hc1, hc2⟩, hi1, hi2, ht1, ht2, hb1⟩
    obtain ⟨⟨oa, oc, rfl⟩, ⟨ua, uc, rfl⟩⟩ := hown.len
    have Hfine := Lib.hid hfine
    have B1 := HB.new w1 #[.slice oa ps.length oc, .int .i64 cl, .slice ua qs.length uc] 28
    obtain ⟨W1, hW1⟩ : ∃ W, W = w1.alloc (.cells #[.slice oa ps.length oc, .int .i64 cl, .slice ua qs.length uc] 28) := ⟨_, rfl⟩
    have hbw : Below w1.heap.size w1 W1 := by rw [hW1]; (repeat (with_reducible first | exact Below.refl _ _ | assumption | refine ba ?_ _ | refine bd ?_ | refine bdN ?_ _ | refine bs ?_ (by first | exact Nat.le_refl _ | (dsimp only; omega) | (simp; done)) _ | refine bt ?_ (by assumption)))
    rw [← hW1] at B1
    have HB1 := Lib.hid (hb1.trans (hbw.mono hb1.size))
    have HX := Lib.hid B1
    have Hown := Lib.hid (hown.below hbw)
    have HW1 := Lib.hid hW1
    obtain ⟨X, hX⟩ : ∃ X, X = w1.heap.size := ⟨_, rfl⟩
    rw [← hX] at HX
    have HXe := Lib.hid hX
    have Hx := Lib.hid (show ∀ w', Below W1.heap.size W1 w' → w'.cell? ⟨X, 0, none⟩ = some (.slice oa ps.length oc) ∧ w'.cell? ⟨X, 1, none⟩ = some (.int .i64 cl) ∧ w'.cell? ⟨X, 2, none⟩ = some (.slice ua qs.length uc) from fun w' h => ⟨(HX.out.step h).cell 0, (HX.out.step h).cell 1, (HX.out.step h).cell 2⟩)
    clear hown hfine hb1 hbw B1 hW1 hX
    obtain ⟨res, hres⟩ : ∃ res, res = diskRem ⟨ps.map (·.1), cl, qs.map (·.1)⟩ ix tk := ⟨_, rfl⟩
    have Hres := Lib.hid hres
    have Hft := Lib.hid (fun (h : res.2 = true) => rem_facts (fs := ps.map (·.1)) (c := cl) (ds := qs.map (·.1)) (i := ix) (k := tk) (by rw [← hres]; exact h))
    rw [← hres] at Hft
    clear hres
    have hrd : (∀ d ∈ res.1.dirs, d.names.length ≤ 9500000 ∧ d.pack.length ≤ 11) ∧ res.1.dirs.length ≤ 20 := by
      cases h2 : res.2
      · have e : res = (⟨[], 0, []⟩, false) := rem_none (by rw [← Hres.out]; exact h2) Hres.out
        rw [e]; simp
      · have h3 := okDisk_dirs (fs := res.1.files) (c := res.1.clock) (ds := res.1.dirs) (Hft.out h2).1
        exact ⟨fun d hd => ⟨by rw [(h3.1 d hd).1]; simp, (h3.1 d hd).2⟩, h3.2⟩
    have Hdr := Lib.hid hrd.1
    have Hdl := Lib.hid hrd.2
    clear hrd
    obtain ⟨x0, x1, x2⟩ := Hx.out _ (Below.refl _ _)
    go_wp2_with fail
    rw [← HW1.out, ← HXe.out]
    refine (impl_DiskRemove _ (ps.map (·.1)) ps cl _ (qs.map (·.1)) qs _ ix tk _ Hown.out rfl rfl Hfine.out.short Hfine.out.cost).mono ?_
    rintro e w2 ⟨v2, ps2, u2, qs2, rfl, hp2, hq2, hf2, hd2, hb2⟩
    rw [← Hres.out] at hp2 hq2 ⊢
    obtain ⟨a2, c2, rfl⟩ := hf2.len
    obtain ⟨b2, d2, rfl⟩ := hd2.len
    have Hp2 := Lib.hid hp2
    have Hq2 := Lib.hid hq2
    have B2 := HB.new w2 #[.slice a2 ps2.length c2, .int .i64 res.1.clock, .slice b2 qs2.length d2] 28
    obtain ⟨W2, hW2⟩ : ∃ W, W = w2.alloc (.cells #[.slice a2 ps2.length c2, .int .i64 res.1.clock, .slice b2 qs2.length d2] 28) := ⟨_, rfl⟩
    have hbw2 : Below w2.heap.size w2 W2 := by rw [hW2]; (repeat (with_reducible first | exact Below.refl _ _ | assumption | refine ba ?_ _ | refine bd ?_ | refine bdN ?_ _ | refine bs ?_ (by first | exact Nat.le_refl _ | (dsimp only; omega) | (simp; done)) _ | refine bt ?_ (by assumption)))
    rw [← hW2] at B2
    have HY := Lib.hid B2
    have O2 := Lib.hid (show OwnDsk W2 W1.heap.size _ ps2 _ qs2 from OwnDsk.below ⟨hf2, hd2⟩ hbw2)
    have Hb2 := Lib.hid (hb2.trans (hbw2.mono hb2.size))
    have HW2 := Lib.hid hW2
    obtain ⟨Y, hY⟩ : ∃ Y, Y = w2.heap.size := ⟨_, rfl⟩
    rw [← hY] at HY
    have HYe := Lib.hid hY
    have Hy := Lib.hid (show ∀ w', Below W2.heap.size W2 w' → w'.cell? ⟨Y, 0, none⟩ = some (.slice a2 ps2.length c2) ∧ w'.cell? ⟨Y, 1, none⟩ = some (.int .i64 res.1.clock) ∧ w'.cell? ⟨Y, 2, none⟩ = some (.slice b2 qs2.length d2) from fun w' h => ⟨(HY.out.step h).cell 0, (HY.out.step h).cell 1, (HY.out.step h).cell 2⟩)
    clear x0 x1 x2
    obtain ⟨x0, x1, x2⟩ := Hx.out _ hb2
    have hXl : X < w2.heap.size := (HX.out.step hb2).lt
    clear hp2 hq2 hf2 hd2 hb2 B2 hW2 hbw2 hY
    go_wp2_with fail
    rw [← HW2.out, ← HYe.out]
    refine (spec_DiskRemove _ (ps.map (·.1)) ps cl _ (qs.map (·.1)) qs _ ix tk _ (Hown.out.below Hb2.out) rfl rfl Hfine.out.short Hfine.out.cost).mono ?_
    rintro e w3 ⟨v3, ps3, u3, qs3, rfl, hp3, hq3, hf3, hd3, hb3⟩
    rw [← Hres.out] at hp3 hq3 ⊢
    obtain ⟨a3, c3, rfl⟩ := hf3.len
    obtain ⟨b3, d3, rfl⟩ := hd3.len
    have B3 := HB.new w3 #[.slice a3 ps3.length c3, .int .i64 res.1.clock, .slice b3 qs3.length d3] 28
    obtain ⟨W3, hW3⟩ : ∃ W, W = w3.alloc (.cells #[.slice a3 ps3.length c3, .int .i64 res.1.clock, .slice b3 qs3.length d3] 28) := ⟨_, rfl⟩
    have hbw3 : Below w3.heap.size w3 W3 := by rw [hW3]; (repeat (with_reducible first | exact Below.refl _ _ | assumption | refine ba ?_ _ | refine bd ?_ | refine bdN ?_ _ | refine bs ?_ (by first | exact Nat.le_refl _ | (dsimp only; omega) | (simp; done)) _ | refine bt ?_ (by assumption)))
    rw [← hW3] at B3
    have HZ := Lib.hid B3
    have Hp3 := Lib.hid (hp3.trans Hp2.out.symm)
    have Hq3 := Lib.hid (hq3.trans Hq2.out.symm)
    have O3 := Lib.hid (show OwnDsk W3 W2.heap.size _ ps3 _ qs3 from OwnDsk.below ⟨hf3, hd3⟩ hbw3)
    have Hb3 := Lib.hid (hb3.trans (hbw3.mono hb3.size))
    have HW3 := Lib.hid hW3
    obtain ⟨Z, hZ⟩ : ∃ Z, Z = w3.heap.size := ⟨_, rfl⟩
    rw [← hZ] at HZ
    have HZe := Lib.hid hZ
    have Hz := Lib.hid (show ∀ w', Below W3.heap.size W3 w' → w'.cell? ⟨Z, 0, none⟩ = some (.slice a3 ps3.length c3) ∧ w'.cell? ⟨Z, 1, none⟩ = some (.int .i64 res.1.clock) ∧ w'.cell? ⟨Z, 2, none⟩ = some (.slice b3 qs3.length d3) from fun w' h => ⟨(HZ.out.step h).cell 0, (HZ.out.step h).cell 1, (HZ.out.step h).cell 2⟩)
    obtain ⟨y0, y1, y2⟩ := Hy.out _ hb3
    have hYl : Y < w3.heap.size := (HY.out.step hb3).lt
    clear hp3 hq3 hf3 hd3 hb3 B3 hW3 hbw3 hZ x0 x1 x2
    have Hnl := Lib.hid (show ∀ q ∈ qs2, q.1.names.length ≤ 9500000 from fun q hq => (Hdr.out q.1 (by rw [← Hq2.out]; exact List.mem_map.2 ⟨q, hq, rfl⟩)).1)
    have Hql := Lib.hid (show qs2.length ≤ 1000000 from by have h := Hdl.out; rw [← Hq2.out, List.length_map] at h; omega)
    go_wp2_with fail
    rw [← HW3.out, ← HZe.out]
    refine (laws_equalDisk _ _ _ _ res.1.clock ps2 ps3 qs2 qs3 _ _ _ (O2.out.below Hb3.out) O3.out Hp3.out Hq3.out Hnl.out Hql.out).mono ?_
    rintro _ w4 ⟨rfl, hb4⟩
    have Hb4 := Lib.hid hb4
    clear hb4 y0 y1 y2
    obtain ⟨y0, y1, y2⟩ := Hy.out _ (Hb3.out.trans (Hb4.out.mono Hb3.out.size))
    obtain ⟨z0, z1, z2⟩ := Hz.out _ Hb4.out
    have HBW4 := Lib.hid (show Below w.heap.size w w4 from (HB1.out.trans (Hb2.out.mono HB1.out.size)).trans ((Hb3.out.trans (Hb4.out.mono Hb3.out.size)).mono (by have h1 := HB1.out.size; have h2 := Hb2.out.size; omega)))
    cases hr2 : res.2
    · clear hr2
      go_wp2_with fail
      refine (laws_equalDisk _ _ _ _ res.1.clock ps2 ps3 qs2 qs3 _ _ _ (O2.out.below (Hb3.out.trans (Hb4.out.mono Hb3.out.size))) (O3.out.below Hb4.out) Hp3.out Hq3.out Hnl.out Hql.out).mono ?_
      rintro _ w5 ⟨rfl, hb5⟩
      have Hb5 := Lib.hid (HBW4.out.trans (hb5.mono HBW4.out.size))
      clear hb5
      go_wp2_with fail
      go_ret
      exact ⟨rfl, Hb5.out⟩
    · obtain ⟨hokr, hrem2, hfiles, j, hj, rfl, hs1, hs2⟩ := Hft.out hr2
      clear hr2
      have hjp : j < ps.length := by rw [List.length_map] at hj; exact hj
      rw [List.getElem_map] at hs1 hs2
      have hb14 : Below W1.heap.size W1 w4 := (Hb2.out.trans ((Hb3.out.trans (Hb4.out.mono Hb3.out.size)).mono Hb2.out.size))
      have HB14 := Lib.hid hb14
      have O14 := Lib.hid (Hown.out.below hb14)
      obtain ⟨g, cap', e1, hg, hg2⟩ := O14.out.1.1.form (by omega)
      simp only [Value.slice.injEq] at e1
      obtain ⟨rfl, hnn, rfl⟩ := e1
      have hgl := (O14.out.1.1.lt g rfl).2
      clear hnn hg hg2 hb14
      obtain ⟨⟨k0, k1, k2, k3, k4, k5⟩, _⟩ := own6 O14.out.1.1 j hjp
      obtain ⟨bva, bvn, bvc, hbv⟩ : ∃ a n c, ps[j].2 = .slice a n c := by obtain ⟨a, c, e⟩ := owns_shape (O14.out.1.2.1 _ (List.getElem_mem hjp)); exact ⟨a, _, c, e⟩
      rw [hbv] at k5
      have hfs := Hfine.out.1 _ (List.mem_map.2 ⟨_, List.getElem_mem hjp, rfl⟩)
      obtain ⟨ff, hff⟩ : ∃ ff, ff = ps[j].1 := ⟨_, rfl⟩
      rw [← hff] at k0 k1 k2 k3 k4 hs1 hs2 hfs
      clear hff hbv
      obtain ⟨gr, gp, gn, gi, gs, gb⟩ := ff
      dsimp only at k0 k1 k2 k3 k4 hs1 hs2
      have hgp : gp.length ≤ 8 := hfs.1
      have Hokr := Lib.hid hokr
      have Hrem2 := Lib.hid hrem2
      have Hfiles := Lib.hid hfiles
      have Hs1 := Lib.hid hs1
      have Hs2 := Lib.hid hs2
      have Hpl := Lib.hid hjp
      have hjI : (j : Int) < (ps.length : Int) := by omega
      have hjJ : (0 : Int) ≤ (j : Int) := by omega
      obtain ⟨x0, x1, x2⟩ := Hx.out _ HB14.out
      clear hokr hrem2 hfiles hs1 hs2 hjp hj hfs
      have HF := Lib.hid (HB.new w4 #[.int .i64 gr, .string (mk gp), .string (mk gn), .bool gi, .int .i64 gs, .slice bva bvn bvc] 36)
      obtain ⟨W5, hW5⟩ : ∃ W, W = w4.alloc (.cells #[.int .i64 gr, .string (mk gp), .string (mk gn), .bool gi, .int .i64 gs, .slice bva bvn bvc] 36) := ⟨_, rfl⟩
      have hb45 : Below w4.heap.size w4 W5 := by rw [hW5]; (repeat (with_reducible first | exact Below.refl _ _ | assumption | refine ba ?_ _ | refine bd ?_ | refine bdN ?_ _ | refine bs ?_ (by first | exact Nat.le_refl _ | (dsimp only; omega) | (simp; done)) _ | refine bt ?_ (by assumption)))
      rw [← hW5] at HF
      have HB15 := Lib.hid (HB14.out.trans (hb45.mono HB14.out.size))
      have Hb45 := Lib.hid hb45
      have HW5 := Lib.hid hW5
      obtain ⟨Fx, hFx⟩ : ∃ Fx, Fx = w4.heap.size := ⟨_, rfl⟩
      rw [← hFx] at HF
      have HFx := Lib.hid hFx
      clear hW5 hb45 hFx
      have Hb35 := Lib.hid ((Hb4.out.trans (Hb45.out.mono Hb4.out.size)))
      have hXl4 : X < w4.heap.size := (HX.out.step HB14.out).lt
      go_wp2_with fail
      rw [← HW5.out, ← HFx.out]
      clear x0 x1 x2 y0 y1 y2 z0 z1 z2 k0 k1 k2 k3 k4 k5
      refine (impl_RemoveFileX _ (ps.map (·.1)) ps _ (j : Int) _ (Hown.out.1.below HB15.out) rfl Hfine.out.short.1 Hfine.out.cost.1).mono ?_
      rintro e w6 ⟨v6, ps6, rfl, hp6, hf6, hb6⟩
      rw [Hrem2.out]
      obtain ⟨a6, c6, rfl⟩ := hf6.len
      have HT := Lib.hid (HB.new w6 #[.slice a6 ps6.length c6] 25)
      obtain ⟨W6, hW6⟩ : ∃ W, W = w6.alloc (.cells #[.slice a6 ps6.length c6] 25) := ⟨_, rfl⟩
      have hb66 : Below w6.heap.size w6 W6 := by rw [hW6]; (repeat (with_reducible first | exact Below.refl _ _ | assumption | refine ba ?_ _ | refine bd ?_ | refine bdN ?_ _ | refine bs ?_ (by first | exact Nat.le_refl _ | (dsimp only; omega) | (simp; done)) _ | refine bt ?_ (by assumption)))
      rw [← hW6] at HT
      have HB56 := Lib.hid (hb6.trans (hb66.mono hb6.size))
      have O6 := Lib.hid (hf6.below hb66)
      have Hp6 := Lib.hid (hp6.trans Hfiles.out.symm)
      have HW6 := Lib.hid hW6
      obtain ⟨Tx, hTx⟩ : ∃ Tx, Tx = w6.heap.size := ⟨_, rfl⟩
      rw [← hTx] at HT
      have HTx := Lib.hid hTx
      clear hp6 hf6 hb6 hW6 hb66 hTx
      have HB26 := Lib.hid ((Hb3.out.trans (Hb35.out.mono Hb3.out.size)).trans (HB56.out.mono (by have h1 := Hb3.out.size; have h2 := Hb35.out.size; omega)))
      obtain ⟨y0, y1, y2⟩ := Hy.out _ HB26.out
      have f0 := (HF.out.step HB56.out).cell 0
      have f1 := (HF.out.step HB56.out).cell 1
      have g0 : W6.cell? ⟨Fx, 0, none⟩ = some (.int .i64 gr) := f0
      have g1 := show W6.cell? ⟨Fx, 1, none⟩ = some (.string (mk gp)) from f1
      have t0 : W6.cell? ⟨Tx, 0, none⟩ = some (.slice a6 ps6.length c6) := HT.out.cell 0
      have Dk := Lib.hid (show DskIn W6 (fun _ => True) (.slice a2 ps2.length c2) res.1.files (.slice b2 qs2.length d2) res.1.dirs from dsk_in (O2.out.below HB26.out) Hp2.out Hq2.out)
      have Sk := Lib.hid (show ShortK 2000000 res.1.files res.1.dirs from ⟨by rw [Hfiles.out]; exact remFil_short Hfine.out.short.1, fun d hd => ⟨by have := (Hdr.out d hd).2; omega, by
        have h3 := okDisk_dirs (fs := res.1.files) (c := res.1.clock) (ds := res.1.dirs) Hokr.out
        rw [(h3.1 d hd).1]; intro n hn; cases hn⟩⟩)
      have e0 := cell_regrown y0
      have e1 := cell_regrown y1
      have e2 := cell_regrown y2
      have e3 := cell_regrown g0
      have e4 := cell_regrown g1
      have e5 := cell_regrown t0
      have cE : ∀ d os, Calls Try.prog 15 #[.agg #[.slice a2 ps2.length c2], .agg #[.slice a6 ps6.length c6]] (grow (redrawn W6 d) os) fun e w'' => e = .returned (.bool true) ∧ ∃ p : Regrown, w'' = grow (redrawn W6 p.d) p.os := fun d os =>
        Calls.regrown_of ((laws_equalTree _ _ res.1.files res.1.files (fun _ => True) (fun _ => True) (grow (redrawn W6 d) os) (Dk.out.1.below (below_regrown W6 d os)) (by rw [← Hp6.out]; exact (O6.out.fils (fun _ _ => trivial)).below (below_regrown W6 d os))).mono (fun e w' h => ⟨by rw [h.1]; simp [sameFils], h.2⟩))
      have cS : ∀ d os, Calls Try.prog 16 #[.agg #[.slice a2 ps2.length c2, .int .i64 res.1.clock, .slice b2 qs2.length d2], .int .i64 gr, .string (mk gp)] (grow (redrawn W6 d) os) fun e w'' => e = .returned (.int .i64 res.1.clock) ∧ ∃ p : Regrown, w'' = grow (redrawn W6 p.d) p.os := fun d os =>
        Calls.regrown_of ((impl_StampOf _ res.1.files res.1.clock _ res.1.dirs (fun _ => True) gr gp (grow (redrawn W6 d) os) (Dk.out.below (below_regrown W6 d os)) Sk.out (by omega)).mono (fun e w' h => ⟨by rw [h.1]; exact congrArg _ (congrArg _ Hs1.out), h.2⟩))
      have cS2 : ∀ d os, Calls Try.prog 16 #[.agg #[.slice a2 ps2.length c2, .int .i64 res.1.clock, .slice b2 qs2.length d2], .int .i64 gr, .string { data := #[] }] (grow (redrawn W6 d) os) fun e w'' => e = .returned (.int .i64 res.1.clock) ∧ ∃ p : Regrown, w'' = grow (redrawn W6 p.d) p.os := fun d os =>
        Calls.regrown_of ((impl_StampOf _ res.1.files res.1.clock _ res.1.dirs (fun _ => True) gr [] (grow (redrawn W6 d) os) (Dk.out.below (below_regrown W6 d os)) Sk.out (by simp)).mono (fun e w' h => ⟨by rw [h.1]; exact congrArg _ (congrArg _ Hs2.out), h.2⟩))
      have cV : ∀ d os, Calls Try.prog 17 #[.agg #[.slice a2 ps2.length c2, .int .i64 res.1.clock, .slice b2 qs2.length d2]] (grow (redrawn W6 d) os) fun e w'' => e = .returned (.bool true) ∧ ∃ p : Regrown, w'' = grow (redrawn W6 p.d) p.os := fun d os =>
        Calls.regrown_of ((impl_ValidDisk _ res.1.files res.1.clock _ res.1.dirs (fun _ => True) (grow (redrawn W6 d) os) (Dk.out.below (below_regrown W6 d os)) Sk.out).mono (fun e w' h => ⟨by rw [h.1]; exact congrArg _ (congrArg _ Hokr.out), h.2⟩))
      clear y0 y1 y2 g0 g1 t0 f0 f1
      generalize res.1.clock = rc at *
      go_wp2_with fail
      rw [← HW6.out, ← HTx.out]
      refine wp_region_quiet_below (by kernel_rfl) (by kernel_rfl) ?_
      repeat (go_big_quiet_step (first | (with_reducible exact cE _ _) | (with_reducible exact cS _ _) | (with_reducible exact cS2 _ _) | (with_reducible exact cV _ _)))
      refine wpQuiet_nil ?_
      intro _ hw'
      obtain ⟨⟨dq, osq⟩, hw2⟩ := hw'
      subst hw2
      have Hb8 := Lib.hid (below_regrown W6 dq osq)
      clear cE cS cS2 cV e0 e1 e2 e3 e4 e5
      go_wp2_with fail
      go_ret
      exact ⟨rfl, (HBW4.out.trans ((Hb45.out.trans (HB56.out.mono Hb45.out.size)).mono HBW4.out.size)).trans (Hb8.out.mono (by have h1 := HBW4.out.size; have h2 := Hb45.out.size; have h3 := HB56.out.size; omega))⟩

/-! ### THE STEP TO THE ROW -/
set_option maxRecDepth 100000 in
theorem lifted (os : Os) (started : os.Started) (H : Type) (enc : TypeId × Value → H) :
    ReturnsInHanded {} Try.checked os 3 .any (Rows.fnDiskRemoveSpec.pre6 enc Try.prog Try.f3 Rows.fnDiskRemoveRow.domain false) (Rows.fnDiskRemoveSpec.post enc Try.prog Try.f3 false true false false) := by
  refine returnsInHanded_of_change (C := Try.checked) own started (by kernel_rfl) Try.func3
    (ChangeSpec.witness6 (enc := enc) (C := Try.checked) false ⟨#[], #[.slice none 0 0], []⟩ 8 (by kernel_rfl) (by kernel_rfl) (by kernel_rfl) (by kernel_rfl)) ?_
  intro W base args ds gs before hval0 hW hcnd _
  have hval : ∀ (j : Nat) t v, Try.f3.params[j]? = some t → args[j]? = some v → Value.okWide Try.prog W .any base t v := hval0
  have hW' := hW
  obtain ⟨p, q, hA0, hV, rfl, hfz, hnd⟩ := hW
  have hA : DataW.TrodAll enc Try.prog W 0 (fun _ => true) true Try.f3.params.toList args.toList ds p := hA0
  rw [Try.params3] at hA hval
  obtain ⟨v0, vs0, d0, ds0, p0, q0, hargs, rfl, rfl, h0, r0⟩ := trodAll_cons hA
  obtain ⟨rfl, rfl, rfl⟩ := trodAll_nil r0
  obtain rfl : args = #[v0] := by cases args; simp_all
  obtain ⟨rfl, rfl⟩ := trodVars_none hV
  obtain ⟨a0, len0, cap0, rfl⟩ := okWide_slice Try.underlying22 (hval 0 22 v0 rfl rfl)
  have k0 := h0
  have lt0 : ∀ x ∈ p0, x.block < W.heap.size := by obtain ⟨m, hm⟩ := k0; exact DataW.trod_lt m _ _ _ hm
  have w0 : Code W W.heap.size a0 len0 cap0 := by
    obtain ⟨fuel, hf⟩ := h0
    rcases open_ints Try.underlying22 Try.underlying5 (by kernel_rfl) hf with ⟨hcs, _⟩ | ⟨x, l, c, zs, hcs, _, hl, hm, hz, _, hcell, hwz⟩
    · simp [Value.cells] at hcs
      obtain ⟨rfl, rfl, rfl⟩ := hcs
      exact .inl ⟨rfl, by unfold maxLen; omega⟩
    · simp [Value.cells] at hcs
      obtain ⟨rfl, rfl, rfl⟩ := hcs
      exact code_row W _ _ _ zs hl hm (by simpa using hz) hcell hwz
  clear hA0 hval0
  refine (walk a0 len0 cap0 W w0).mono fun e W' ⟨he, bel⟩ => ?_
  subst he
  exact ⟨_, rfl, _, _, _, [], _, [], hW', trodAll_mk1 (shut_bool Try.underlying4 _), (trodAll_cons_mk (Below.trod laidOut (by kernel_rfl) (of_decide_eq_true (by kernel_rfl)) k0 bel lt0) trodAll_mk0), rfl, bel.frame _, fun h => by cases h⟩

theorem over : Rows.fnDiskRemoveRow.holds Try.pinned (OpenSpec.ofChange Rows.fnDiskRemoveSpec) :=
  OpenClaim.holds_of_wide 3 Try.f3 rfl rfl rfl rfl rfl rfl rfl ⟨rfl, rfl, rfl, rfl, rfl⟩ rfl rfl rfl rfl rfl (by kernel_rfl) Try.func3 (by kernel_rfl)
    (of_decide_eq_true (by kernel_rfl)) (by unfold Func.isWrapper; first | (rw [if_pos (by decide +kernel)]; kernel_rfl) | (rw [if_neg (by decide +kernel)]; exact ⟨rfl, rfl⟩))
    (fun os started H enc _ => lifted os started H enc)

/-- THE STATEMENT -/
theorem proved : Rows.FnDiskRemoveSaid := over
end Go.Proofs.Ytgecemngfpgcoaa.FnDiskRemove
