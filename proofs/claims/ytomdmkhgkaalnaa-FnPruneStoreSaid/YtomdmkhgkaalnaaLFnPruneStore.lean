/- FnPruneStore returns true for every code. Written by mkwf.py. -/
import Derived.Test.YtomdmkhgkaalnaaDrawE
import Derived.Test.YtomdmkhgkaalnaaPlainW
import Derived.Test.YtomdmkhgkaalnaaWrong
import Derived.Test.YtomdmkhgkaalnaaEqCmp
import Derived.Test.YtomdmkhgkaalnaaStores
import Derived.Test.YtomdmkhgkaalnaaTrees
import Derived.Test.YtomdmkhgkaalnaaFrame
set_option linter.unusedVariables false
set_option linter.unusedSimpArgs false
namespace Go.Proofs.Ytomdmkhgkaalnaa.FnPruneStore
open Go.Sort Go.ChangeShapes Go.WideShapes Go.ChangeAt Go.RowKit Go.Proofs.Ytomdmkhgkaalnaa.Nm

set_option maxRecDepth 100000 in
set_option maxHeartbeats 16000000 in
theorem walk (a : Option Addr) (n cap : Nat) (w : World) (hc : Code w w.heap.size a n cap) :
    Calls Try.prog 12 #[.slice a n cap] w fun e w' => e = .returned (.bool true) ∧ Below w.heap.size w w' := by
  by_cases hn : (1048576 : Int) < (n : Int)
  · go_enter Try.func12, Try.ntmps12
    go_wp2_with fail
    go_ret
    exact ⟨rfl, Below.refl _ _⟩
  have Hc := Lib.hid hc
  clear hc
  go_enter Try.func12, Try.ntmps12
  go_wp2_with fail
  refine (spec_DrawPruneStore a n cap w Hc.out).mono ?_
  rintro e w1 ⟨lv, qs, v, ps, rfl, ⟨hrows, hfine, hl11⟩, htree, hsh, hp10, hbl, hb1⟩
  obtain ⟨la, lc, rfl⟩ := hrows.len
  obtain ⟨cs, hcs⟩ : ∃ cs, cs = qs.map (·.1) := ⟨_, rfl⟩
  have hlen : qs.length = cs.length := by rw [hcs, List.length_map]
  have Hps := Lib.hid hcs.symm
  have HQ := Lib.hid hrows
  have HC := Lib.hid (show CmpsIn w1 (fun _ => True) (.slice la qs.length lc) cs by rw [hcs]; exact hrows.fils (fun _ _ => trivial))
  have HS1 := Lib.hid (show ShortCs 1048576 cs from fun c hc => by rw [hcs] at hc; obtain ⟨p, hp, rfl⟩ := List.mem_map.1 hc; exact shortC_mono (by omega) (hfine p hp).1)
  have HS2 := Lib.hid (shortCs_mono (B := 2000000) (by omega) HS1.out)
  have HCo := Lib.hid (show cmpsCost' cs from ⟨by omega, fun c hc => by rw [hcs] at hc; obtain ⟨p, hp, rfl⟩ := List.mem_map.1 hc; have := (hfine p hp).2.1; omega⟩)
  rw [hlen] at HQ HC ⊢
  clear hrows hfine hcs hlen
  obtain ⟨va, vc, rfl⟩ := htree.len
  obtain ⟨fs, hfs⟩ : ∃ fs, fs = ps.map (·.1) := ⟨_, rfl⟩
  have hlf : ps.length = fs.length := by rw [hfs, List.length_map]
  have Hpf := Lib.hid hfs.symm
  have HT := Lib.hid htree
  have HF := Lib.hid (show FilsIn w1 (fun _ => True) (.slice va ps.length vc) fs by rw [hfs]; exact htree.fils)
  have HZs := Lib.hid (show ∀ p ∈ ps, ShortF 8 p.1 from fun p hp => hsh _ (List.mem_map.2 ⟨p, hp, rfl⟩))
  have HT1 := Lib.hid (show ShortT 1048576 fs by rw [hfs]; exact shortT_mono (by omega) hsh)
  have HT8 := Lib.hid (show ShortT 8000000 fs by rw [hfs]; exact shortT_mono (by omega) hsh)
  have HFo := Lib.hid (show filsCost' fs from ⟨by omega, fun f hf => by rw [hfs] at hf; obtain ⟨p, hp, rfl⟩ := List.mem_map.1 hf; have := hbl p hp; omega⟩)
  have HBl := Lib.hid hbl
  have hp12 : fs.length ≤ 12 := by omega
  have Hb1 := Lib.hid hb1
  rw [hlf] at HT HF ⊢
  have Hlf := Lib.hid hlf
  clear htree hfs hlf hsh hbl hb1
  have X1 := Lib.hid (Boxed.start w1 #[.slice va fs.length vc] 33)
  obtain ⟨rs, hrs⟩ : ∃ rs, rs = prune cs fs := ⟨_, rfl⟩
  have Hic := Lib.hid (fun (W : World) (hb : Below w1.heap.size w1 W) => (show Calls Try.prog 19 #[.slice la cs.length lc, .agg #[.slice va fs.length vc]] W (NewCmps rs W) by rw [hrs]; exact impl_PruneStore _ cs qs _ _ fs (fun _ => True) W (HQ.out.below hb) Hps.out HS1.out HCo.out (HF.out.below hb) HT1.out HFo.out))
  have Hsc := Lib.hid (fun (W : World) (hb : Below w1.heap.size w1 W) => (show Calls Try.prog 16 #[.slice la cs.length lc, .agg #[.slice va fs.length vc]] W (NewCmps rs W) by rw [hrs]; exact spec_PruneStore _ cs qs _ _ fs (fun _ => True) W (HQ.out.below hb) Hps.out HS1.out HCo.out (HF.out.below hb) HT1.out HFo.out))
  have Hrs := Lib.hid hrs
  clear hrs
  go_wp2_with fail
  refine (Hic.out _ (by first | exact X1.out.below | (repeat (with_reducible first | exact Below.refl _ _ | assumption | refine ba ?_ _ | refine bd ?_ | refine bdN ?_ _ | refine bs ?_ (by first | exact Nat.le_refl _ | (dsimp only; omega) | (simp; done)) _ | refine bt ?_ (by assumption))))).mono ?_
  rintro _ w2 ⟨v2, r2, rfl, m2, o2, hb2⟩
  have X2 := Lib.hid (X1.out.step hb2)
  have x0 : w2.cell? ⟨w1.heap.size, 0, none⟩ = some (.slice va fs.length vc) := X2.out.cell 0
  obtain ⟨a2, c2, rfl⟩ := o2.len
  have hr2 : r2.length = (rs).length := by rw [← m2, List.length_map]
  have HC2 := Lib.hid (show CmpsIn w2 (fun _ => True) (.slice a2 (rs).length c2) (rs) by have h := o2.fils (D := fun _ => True) (fun _ _ => trivial); rw [m2, hr2] at h; exact h)
  have HQ2 := Lib.hid (show RowsC8 w2 _ (.slice a2 (rs).length c2) r2 by have h := o2.rows; rw [hr2] at h; exact h)
  have Hm2 := Lib.hid m2
  rw [hr2]
  clear o2 m2 hr2
  go_wp2_with fail
  refine (Hsc.out _ (by first | exact X2.out.below | (repeat (with_reducible first | exact Below.refl _ _ | assumption | refine ba ?_ _ | refine bd ?_ | refine bdN ?_ _ | refine bs ?_ (by first | exact Nat.le_refl _ | (dsimp only; omega) | (simp; done)) _ | refine bt ?_ (by assumption))))).mono ?_
  rintro _ w3 ⟨v3, r3, rfl, m3, o3, hb3⟩
  have X3 := Lib.hid (X2.out.step hb3)
  clear x0
  have x0 : w3.cell? ⟨w1.heap.size, 0, none⟩ = some (.slice va fs.length vc) := X3.out.cell 0
  obtain ⟨a3, c3, rfl⟩ := o3.len
  have hr3 : r3.length = (rs).length := by rw [← m3, List.length_map]
  have HC3 := Lib.hid (show CmpsIn w3 (fun _ => True) (.slice a3 (rs).length c3) (rs) by have h := o3.fils (D := fun _ => True) (fun _ _ => trivial); rw [m3, hr3] at h; exact h)
  have HQ3 := Lib.hid (show RowsC8 w3 _ (.slice a3 (rs).length c3) r3 by have h := o3.rows; rw [hr3] at h; exact h)
  have Hm3 := Lib.hid m3
  rw [hr3]
  clear o3 m3 hr3
  go_wp2_with fail
  refine (laws_equalStore _ _ rs _ _ _ (HC2.out.below (by first | exact X3.out.below | (repeat (with_reducible first | exact Below.refl _ _ | assumption | refine ba ?_ _ | refine bd ?_ | refine bdN ?_ _ | refine bs ?_ (by first | exact Nat.le_refl _ | (dsimp only; omega) | (simp; done)) _ | refine bt ?_ (by assumption))))) (HC3.out.below (by first | exact X3.out.below | (repeat (with_reducible first | exact Below.refl _ _ | assumption | refine ba ?_ _ | refine bd ?_ | refine bdN ?_ _ | refine bs ?_ (by first | exact Nat.le_refl _ | (dsimp only; omega) | (simp; done)) _ | refine bt ?_ (by assumption)))))).mono ?_
  rintro _ w4 ⟨rfl, hb4⟩
  have X4 := Lib.hid (X3.out.step hb4)
  clear x0
  have x0 : w4.cell? ⟨w1.heap.size, 0, none⟩ = some (.slice va fs.length vc) := X4.out.cell 0
  cases hs : okStore cs
  · have Hs := Lib.hid hs
    clear hs
    go_wp2_with fail
    refine (impl_ValidStore _ cs _ _ (HC.out.below (by first | exact X4.out.below | (repeat (with_reducible first | exact Below.refl _ _ | assumption | refine ba ?_ _ | refine bd ?_ | refine bdN ?_ _ | refine bs ?_ (by first | exact Nat.le_refl _ | (dsimp only; omega) | (simp; done)) _ | refine bt ?_ (by assumption))))) HS2.out).mono ?_
    rintro _ w5 ⟨rfl, hb5⟩
    have X5 := Lib.hid (X4.out.step hb5)
    clear x0
    have x0 : w5.cell? ⟨w1.heap.size, 0, none⟩ = some (.slice va fs.length vc) := X5.out.cell 0
    rw [Hs.out]
    go_wp2_with fail
    refine (Hsc.out _ (by first | exact X5.out.below | (repeat (with_reducible first | exact Below.refl _ _ | assumption | refine ba ?_ _ | refine bd ?_ | refine bdN ?_ _ | refine bs ?_ (by first | exact Nat.le_refl _ | (dsimp only; omega) | (simp; done)) _ | refine bt ?_ (by assumption))))).mono ?_
    rintro _ w6 ⟨v6, r6, rfl, m6, o6, hb6⟩
    have X6 := Lib.hid (X5.out.step hb6)
    clear x0
    have x0 : w6.cell? ⟨w1.heap.size, 0, none⟩ = some (.slice va fs.length vc) := X6.out.cell 0
    obtain ⟨a6, c6, rfl⟩ := o6.len
    have hr6 : r6.length = (rs).length := by rw [← m6, List.length_map]
    have HC6 := Lib.hid (show CmpsIn w6 (fun _ => True) (.slice a6 (rs).length c6) (rs) by have h := o6.fils (D := fun _ => True) (fun _ _ => trivial); rw [m6, hr6] at h; exact h)
    have HQ6 := Lib.hid (show RowsC8 w6 _ (.slice a6 (rs).length c6) r6 by have h := o6.rows; rw [hr6] at h; exact h)
    have Hm6 := Lib.hid m6
    rw [hr6]
    clear o6 m6 hr6
    go_wp2_with fail
    refine (laws_equalStore _ _ rs _ _ _ (HC2.out.below (by first | exact X6.out.below | (repeat (with_reducible first | exact Below.refl _ _ | assumption | refine ba ?_ _ | refine bd ?_ | refine bdN ?_ _ | refine bs ?_ (by first | exact Nat.le_refl _ | (dsimp only; omega) | (simp; done)) _ | refine bt ?_ (by assumption))))) (HC6.out.below (by first | exact X6.out.below | (repeat (with_reducible first | exact Below.refl _ _ | assumption | refine ba ?_ _ | refine bd ?_ | refine bdN ?_ _ | refine bs ?_ (by first | exact Nat.le_refl _ | (dsimp only; omega) | (simp; done)) _ | refine bt ?_ (by assumption)))))).mono ?_
    rintro _ w7 ⟨rfl, hb7⟩
    have X7 := Lib.hid (X6.out.step hb7)
    clear x0
    have x0 : w7.cell? ⟨w1.heap.size, 0, none⟩ = some (.slice va fs.length vc) := X7.out.cell 0
    go_wp2_with fail
    go_ret
    exact ⟨rfl, by have h := X7.out.below; have h1 := Hb1.out; exact h1.trans (h.mono h1.size)⟩
  have Hs := Lib.hid hs
  clear hs
  go_wp2_with fail
  refine (impl_ValidStore _ cs _ _ (HC.out.below (by first | exact X4.out.below | (repeat (with_reducible first | exact Below.refl _ _ | assumption | refine ba ?_ _ | refine bd ?_ | refine bdN ?_ _ | refine bs ?_ (by first | exact Nat.le_refl _ | (dsimp only; omega) | (simp; done)) _ | refine bt ?_ (by assumption))))) HS2.out).mono ?_
  rintro _ w5 ⟨rfl, hb5⟩
  have X5 := Lib.hid (X4.out.step hb5)
  clear x0
  have x0 : w5.cell? ⟨w1.heap.size, 0, none⟩ = some (.slice va fs.length vc) := X5.out.cell 0
  rw [Hs.out]
  cases ht : okTree fs
  · have Ht := Lib.hid ht
    clear ht
    go_wp2_with fail
    refine (impl_ValidTree _ fs _ _ (HF.out.below (by first | exact X5.out.below | (repeat (with_reducible first | exact Below.refl _ _ | assumption | refine ba ?_ _ | refine bd ?_ | refine bdN ?_ _ | refine bs ?_ (by first | exact Nat.le_refl _ | (dsimp only; omega) | (simp; done)) _ | refine bt ?_ (by assumption))))) HT8.out).mono ?_
    rintro _ w6 ⟨rfl, hb6⟩
    have X6 := Lib.hid (X5.out.step hb6)
    clear x0
    have x0 : w6.cell? ⟨w1.heap.size, 0, none⟩ = some (.slice va fs.length vc) := X6.out.cell 0
    rw [Ht.out]
    go_wp2_with fail
    refine (Hsc.out _ (by first | exact X6.out.below | (repeat (with_reducible first | exact Below.refl _ _ | assumption | refine ba ?_ _ | refine bd ?_ | refine bdN ?_ _ | refine bs ?_ (by first | exact Nat.le_refl _ | (dsimp only; omega) | (simp; done)) _ | refine bt ?_ (by assumption))))).mono ?_
    rintro _ w7 ⟨v7, r7, rfl, m7, o7, hb7⟩
    have X7 := Lib.hid (X6.out.step hb7)
    clear x0
    have x0 : w7.cell? ⟨w1.heap.size, 0, none⟩ = some (.slice va fs.length vc) := X7.out.cell 0
    obtain ⟨a7, c7, rfl⟩ := o7.len
    have hr7 : r7.length = (rs).length := by rw [← m7, List.length_map]
    have HC7 := Lib.hid (show CmpsIn w7 (fun _ => True) (.slice a7 (rs).length c7) (rs) by have h := o7.fils (D := fun _ => True) (fun _ _ => trivial); rw [m7, hr7] at h; exact h)
    have HQ7 := Lib.hid (show RowsC8 w7 _ (.slice a7 (rs).length c7) r7 by have h := o7.rows; rw [hr7] at h; exact h)
    have Hm7 := Lib.hid m7
    rw [hr7]
    clear o7 m7 hr7
    go_wp2_with fail
    refine (laws_equalStore _ _ rs _ _ _ (HC2.out.below (by first | exact X7.out.below | (repeat (with_reducible first | exact Below.refl _ _ | assumption | refine ba ?_ _ | refine bd ?_ | refine bdN ?_ _ | refine bs ?_ (by first | exact Nat.le_refl _ | (dsimp only; omega) | (simp; done)) _ | refine bt ?_ (by assumption))))) (HC7.out.below (by first | exact X7.out.below | (repeat (with_reducible first | exact Below.refl _ _ | assumption | refine ba ?_ _ | refine bd ?_ | refine bdN ?_ _ | refine bs ?_ (by first | exact Nat.le_refl _ | (dsimp only; omega) | (simp; done)) _ | refine bt ?_ (by assumption)))))).mono ?_
    rintro _ w8 ⟨rfl, hb8⟩
    have X8 := Lib.hid (X7.out.step hb8)
    clear x0
    have x0 : w8.cell? ⟨w1.heap.size, 0, none⟩ = some (.slice va fs.length vc) := X8.out.cell 0
    go_wp2_with fail
    go_ret
    exact ⟨rfl, by have h := X8.out.below; have h1 := Hb1.out; exact h1.trans (h.mono h1.size)⟩
  have Ht := Lib.hid ht
  clear ht
  go_wp2_with fail
  refine (impl_ValidTree _ fs _ _ (HF.out.below (by first | exact X5.out.below | (repeat (with_reducible first | exact Below.refl _ _ | assumption | refine ba ?_ _ | refine bd ?_ | refine bdN ?_ _ | refine bs ?_ (by first | exact Nat.le_refl _ | (dsimp only; omega) | (simp; done)) _ | refine bt ?_ (by assumption))))) HT8.out).mono ?_
  rintro _ w6 ⟨rfl, hb6⟩
  have X6 := Lib.hid (X5.out.step hb6)
  clear x0
  have x0 : w6.cell? ⟨w1.heap.size, 0, none⟩ = some (.slice va fs.length vc) := X6.out.cell 0
  rw [Ht.out]
  have Hrok := Lib.hid (show okStore rs = true by rw [Hrs.out]; exact okStore_prune Hs.out Ht.out)
  have HSS := Lib.hid (okStore_short Hrok.out)
  have HSS2 := Lib.hid (shortCs_mono (B := 2000000) (by omega) HSS.out.1)
  have Hrl := Lib.hid (show rs.length ≤ fs.length by rw [Hrs.out]; exact prune_len Hs.out Ht.out)
  have Hag := Lib.hid (show prune rs fs = rs by rw [Hrs.out]; exact prune_again Hs.out Ht.out)
  have Hb6 := Lib.hid (show Below w2.heap.size w2 w6 by (repeat (with_reducible first | exact Below.refl _ _ | assumption | refine ba ?_ _ | refine bd ?_ | refine bdN ?_ _ | refine bs ?_ (by first | exact Nat.le_refl _ | (dsimp only; omega) | (simp; done)) _ | refine bt ?_ (by assumption))))
  clear hb2 hb3 hb4 hb5 hb6 HC3 HQ3 Hm3 x0 X2 X3 X4 X5
  go_wp2_with fail
  go_loopw [6, 7, 8, 9, 10, 11, 12] (fun iv _ _ _ _ _ _ wr => ∃ k : Nat, k ≤ fs.length ∧ iv = .int .i64 k ∧ Boxed w1 #[.slice va fs.length vc] 33 wr ∧ Below w2.heap.size w2 wr) (fun iv _ _ _ _ _ _ _ => fs.length - (intOf iv).toNat)
  case atStart => exact ⟨0, by omega, rfl, X6.out, Hb6.out⟩
  case round =>
    obtain ⟨k, hk, rfl, hbx, hb2⟩ := hrel
    have Xr := Lib.hid hbx
    have Hb2 := Lib.hid hb2
    have x0 : wr.cell? ⟨w1.heap.size, 0, none⟩ = some (.slice va fs.length vc) := Xr.out.cell 0
    have hbel := hbx.below
    clear hbx hb2
    by_cases hlt : k < fs.length
    · have hltp : k < ps.length := by rw [Hlf.out]; exact hlt
      obtain ⟨g, off, cap', e1, hg, hcell⟩ := HT.out.2.2 (by omega)
      simp only [Value.slice.injEq] at e1
      obtain ⟨rfl, hnn, rfl⟩ := e1
      clear hnn
      have hck := hcell k hltp
      have Hbd := Lib.hid (HT.out.2.1 _ (List.getElem_mem hltp))
      have Hzk := Lib.hid (HZs.out _ (List.getElem_mem hltp))
      have hlk := HBl.out _ (List.getElem_mem hltp)
      have hpe : ps[k].1 = fs[k] := by simp only [← Hpf.out, List.getElem_map]
      have Hlp := Lib.hid (loadB_prune Hs.out Ht.out (List.getElem_mem hlt))
      rw [← hpe, ← Hrs.out] at Hlp
      obtain ⟨p, hp⟩ : ∃ p, p = ps[k] := ⟨_, rfl⟩
      rw [← hp] at hck Hbd Hzk hlk Hlp
      clear hp hpe hcell
      obtain ⟨⟨fr, fp, fn, fi, fst, fb⟩, bv⟩ := p
      dsimp only at hck Hbd Hzk hlk Hlp
      obtain ⟨ab, cb, hbv⟩ := owns_shape Hbd.out
      subst hbv
      have Hcell := Lib.hid (fun (W : World) (hb : Below w1.heap.size w1 W) => (show W.cell? ⟨g, off + k * 6, none⟩ = some (.int .i64 fr) ∧ W.cell? ⟨g, off + k * 6 + 1, none⟩ = some (.string (mk fp)) ∧ W.cell? ⟨g, off + k * 6 + 2, none⟩ = some (.string (mk fn)) ∧ W.cell? ⟨g, off + k * 6 + 3, none⟩ = some (.bool fi) ∧ W.cell? ⟨g, off + k * 6 + 4, none⟩ = some (.int .i64 fst) ∧ W.cell? ⟨g, off + k * 6 + 5, none⟩ = some (.slice ab fb.length cb) by
        have hcl : ∀ o, W.cell? ⟨g, o, none⟩ = w1.cell? ⟨g, o, none⟩ := fun o => hb.cell (p := ⟨g, o, none⟩) hg
        simp only [hcl]; exact hck))
      obtain ⟨y0, y1, y2, y3, y4, y5⟩ := Hcell.out _ hbel
      clear hck
      obtain ⟨⟨L1, L2, had⟩, hL⟩ : ∃ t, t = loadB cs ⟨fr, fp, fn, fi, fst, fb⟩ 0 := ⟨_, rfl⟩
      obtain ⟨⟨M1, M2, met⟩, hM⟩ : ∃ t, t = loadB rs ⟨fr, fp, fn, fi, fst, fb⟩ 0 := ⟨_, rfl⟩
      rw [← hL, ← hM] at Hlp
      dsimp only at Hlp
      have e1 := Hlp.out.1
      have e2 := Hlp.out.2
      have HI := Lib.hid (fun (W : World) (hb : Below w1.heap.size w1 W) => (show Calls Try.prog 40 #[.slice la cs.length lc, .agg #[.int .i64 fr, .string (mk fp), .string (mk fn), .bool fi, .int .i64 fst, .slice ab fb.length cb], .int .i64 0] W (NewLoadX L1 L2 had W) by
        have h := impl_LoadBodyX _ cs qs fr fst fp fn fi _ fb 0 _ _ W (HQ.out.below hb) Hps.out HS1.out HCo.out (owns_below Hbd.out hb) (shortF_mono (B := 1048576) (by omega) Hzk.out) (by omega)
        rw [← hL] at h; exact h))
      have HJ := Lib.hid (fun (W : World) (hb : Below w1.heap.size w1 W) (hb' : Below w2.heap.size w2 W) => (show Calls Try.prog 40 #[.slice a2 rs.length c2, .agg #[.int .i64 fr, .string (mk fp), .string (mk fn), .bool fi, .int .i64 fst, .slice ab fb.length cb], .int .i64 0] W (NewLoadX M1 M2 met W) by
        have h := impl_LoadBodyX _ rs r2 fr fst fp fn fi _ fb 0 _ _ W (HQ2.out.below hb') Hm2.out HSS.out.1 HSS.out.2 (owns_below Hbd.out hb) (shortF_mono (B := 1048576) (by omega) Hzk.out) (by omega)
        rw [← hM] at h; exact h))
      rw [e1, e2] at HJ
      clear hL hM e1 e2 Hlp
      have hk1 : (k : Int) < (fs.length : Int) := by omega
      have hk0 : (0 : Int) ≤ (k : Int) := by omega
      go_wp2_with fail
      refine (HI.out _ (by first | exact Xr.out.below | (repeat (with_reducible first | exact Below.refl _ _ | assumption | refine ba ?_ _ | refine bd ?_ | refine bdN ?_ _ | refine bs ?_ (by first | exact Nat.le_refl _ | (dsimp only; omega) | (simp; done)) _ | refine bt ?_ (by assumption))))).mono ?_
      rintro _ w7 ⟨b7, s7, r7, rfl, o7, m7, c7, _, hb7⟩
      obtain ⟨b7a, b7c, rfl⟩ := owns_shape o7
      obtain ⟨s7a, s7c, rfl⟩ := c7.len
      have HB7 := Lib.hid (show StmsIn w7 (fun _ => True) (.slice b7a L1.length b7c) L1 from StmsIn.of_owns o7 (fun _ _ => trivial))
      have X7 := Lib.hid (Xr.out.step hb7)
      have hbel7 := X7.out.below
      have HT7 := Lib.hid (HT.out.below hbel7)
      clear x0 y0 y1 y2 y3 y4 y5 o7 m7 c7
      have x0 : w7.cell? ⟨w1.heap.size, 0, none⟩ = some (.slice (some ⟨g, off, none⟩) fs.length vc) := X7.out.cell 0
      obtain ⟨y0, y1, y2, y3, y4, y5⟩ := Hcell.out _ hbel7
      clear hbel7
      go_wp2_with fail
      refine (HJ.out _ (by first | exact X7.out.below | (repeat (with_reducible first | exact Below.refl _ _ | assumption | refine ba ?_ _ | refine bd ?_ | refine bdN ?_ _ | refine bs ?_ (by first | exact Nat.le_refl _ | (dsimp only; omega) | (simp; done)) _ | refine bt ?_ (by assumption)))) (bt Hb2.out (by (repeat (with_reducible first | exact Below.refl _ _ | assumption | refine ba ?_ _ | refine bd ?_ | refine bdN ?_ _ | refine bs ?_ (by first | exact Nat.le_refl _ | (dsimp only; omega) | (simp; done)) _ | refine bt ?_ (by assumption)))))).mono ?_
      rintro _ w8 ⟨b8, s8, r8, rfl, o8, m8, c8, _, hb8⟩
      obtain ⟨b8a, b8c, rfl⟩ := owns_shape o8
      obtain ⟨s8a, s8c, rfl⟩ := c8.len
      have HB8 := Lib.hid (show StmsIn w8 (fun _ => True) (.slice b8a L1.length b8c) L1 from StmsIn.of_owns o8 (fun _ _ => trivial))
      have X8 := Lib.hid (X7.out.step hb8)
      have hbel8 := X8.out.below
      have HT8 := Lib.hid (HT.out.below hbel8)
      clear x0 y0 y1 y2 y3 y4 y5 o8 m8 c8
      have x0 : w8.cell? ⟨w1.heap.size, 0, none⟩ = some (.slice (some ⟨g, off, none⟩) fs.length vc) := X8.out.cell 0
      obtain ⟨y0, y1, y2, y3, y4, y5⟩ := Hcell.out _ hbel8
      clear hbel8
      go_wp2_with fail
      refine (laws_equalBody _ _ L1 L1 _ _ _ (HB7.out.below (by (repeat (with_reducible first | exact Below.refl _ _ | assumption | refine ba ?_ _ | refine bd ?_ | refine bdN ?_ _ | refine bs ?_ (by first | exact Nat.le_refl _ | (dsimp only; omega) | (simp; done)) _ | refine bt ?_ (by assumption))))) HB8.out).mono ?_
      rintro _ w9 ⟨rfl, hb9⟩
      rw [decide_eq_true (rfl : L1 = L1)]
      have X9 := Lib.hid (X8.out.step hb9)
      have Hb9 := Lib.hid (bt Hb2.out (show Below wr.heap.size wr w9 by (repeat (with_reducible first | exact Below.refl _ _ | assumption | refine ba ?_ _ | refine bd ?_ | refine bdN ?_ _ | refine bs ?_ (by first | exact Nat.le_refl _ | (dsimp only; omega) | (simp; done)) _ | refine bt ?_ (by assumption)))))
      cases had
      all_goals
        go_wp2_with fail
        go_roundw
        case rel => exact ⟨k + 1, by omega, by go_num, X9.out, Hb9.out⟩
        case measure => simp [intOf]; omega
    · have HCr := Lib.hid (HC2.out.below Hb2.out)
      have HQr := Lib.hid (HQ2.out.below Hb2.out)
      have hrl : (rs.length : Int) ≤ (fs.length : Int) := by have := Hrl.out; omega
      go_wp2_with fail
      refine (impl_ValidStore _ rs _ _ HCr.out HSS2.out).mono ?_
      rintro _ w7 ⟨rfl, hb7⟩
      have X7 := Lib.hid (Xr.out.step hb7)
      clear x0
      have x0 : w7.cell? ⟨w1.heap.size, 0, none⟩ = some (.slice va fs.length vc) := X7.out.cell 0
      rw [Hrok.out]
      go_wp2_with fail
      refine (impl_PruneStore _ rs r2 _ _ fs (fun _ => True) _ (HQr.out.below (by (repeat (with_reducible first | exact Below.refl _ _ | assumption | refine ba ?_ _ | refine bd ?_ | refine bdN ?_ _ | refine bs ?_ (by first | exact Nat.le_refl _ | (dsimp only; omega) | (simp; done)) _ | refine bt ?_ (by assumption))))) Hm2.out HSS.out.1 HSS.out.2 (HF.out.below (by first | exact X7.out.below | (repeat (with_reducible first | exact Below.refl _ _ | assumption | refine ba ?_ _ | refine bd ?_ | refine bdN ?_ _ | refine bs ?_ (by first | exact Nat.le_refl _ | (dsimp only; omega) | (simp; done)) _ | refine bt ?_ (by assumption))))) HT1.out HFo.out).mono ?_
      rintro _ w8 ⟨v8, r8, rfl, m8, o8, hb8⟩
      have X8 := Lib.hid (X7.out.step hb8)
      clear x0
      have x0 : w8.cell? ⟨w1.heap.size, 0, none⟩ = some (.slice va fs.length vc) := X8.out.cell 0
      rw [Hag.out] at m8
      obtain ⟨a8, c8, rfl⟩ := o8.len
      have hr8 : r8.length = (rs).length := by rw [← m8, List.length_map]
      have HC8 := Lib.hid (show CmpsIn w8 (fun _ => True) (.slice a8 (rs).length c8) (rs) by have h := o8.fils (D := fun _ => True) (fun _ _ => trivial); rw [m8, hr8] at h; exact h)
      have HQ8 := Lib.hid (show RowsC8 w8 _ (.slice a8 (rs).length c8) r8 by have h := o8.rows; rw [hr8] at h; exact h)
      have Hm8 := Lib.hid m8
      rw [hr8]
      clear o8 m8 hr8
      go_wp2_with fail
      refine (laws_equalStore _ _ rs _ _ _ HC8.out (HCr.out.below (by (repeat (with_reducible first | exact Below.refl _ _ | assumption | refine ba ?_ _ | refine bd ?_ | refine bdN ?_ _ | refine bs ?_ (by first | exact Nat.le_refl _ | (dsimp only; omega) | (simp; done)) _ | refine bt ?_ (by assumption)))))).mono ?_
      rintro _ w9 ⟨rfl, hb9⟩
      have X9 := Lib.hid (X8.out.step hb9)
      clear x0
      have x0 : w9.cell? ⟨w1.heap.size, 0, none⟩ = some (.slice va fs.length vc) := X9.out.cell 0
      go_wp2_with fail
      go_ret
      exact ⟨rfl, by have h := X9.out.below; have h1 := Hb1.out; exact h1.trans (h.mono h1.size)⟩

/-! ### THE STEP TO THE ROW -/
set_option maxRecDepth 100000 in
theorem lifted (os : Os) (started : os.Started) (H : Type) (enc : TypeId × Value → H) :
    ReturnsInHanded {} Try.checked os 12 .any (Rows.fnPruneStoreSpec.pre6 enc Try.prog Try.f12 Rows.fnPruneStoreRow.domain false) (Rows.fnPruneStoreSpec.post enc Try.prog Try.f12 false true false false) := by
  refine returnsInHanded_of_change (C := Try.checked) own started (by kernel_rfl) Try.func12
    (ChangeSpec.witness6 (enc := enc) (C := Try.checked) false ⟨#[], #[.slice none 0 0], []⟩ 8 (by kernel_rfl) (by kernel_rfl) (by kernel_rfl) (by kernel_rfl)) ?_
  intro W base args ds gs before hval0 hW hcnd _
  have hval : ∀ (j : Nat) t v, Try.f12.params[j]? = some t → args[j]? = some v → Value.okWide Try.prog W .any base t v := hval0
  have hW' := hW
  obtain ⟨p, q, hA0, hV, rfl, hfz, hnd⟩ := hW
  have hA : DataW.TrodAll enc Try.prog W 0 (fun _ => true) true Try.f12.params.toList args.toList ds p := hA0
  rw [Try.params12] at hA hval
  obtain ⟨v0, vs0, d0, ds0, p0, q0, hargs, rfl, rfl, h0, r0⟩ := trodAll_cons hA
  obtain ⟨rfl, rfl, rfl⟩ := trodAll_nil r0
  obtain rfl : args = #[v0] := by cases args; simp_all
  obtain ⟨rfl, rfl⟩ := trodVars_none hV
  obtain ⟨a0, len0, cap0, rfl⟩ := okWide_slice Try.underlying47 (hval 0 47 v0 rfl rfl)
  have k0 := h0
  have lt0 : ∀ x ∈ p0, x.block < W.heap.size := by obtain ⟨m, hm⟩ := k0; exact DataW.trod_lt m _ _ _ hm
  have w0 : Code W W.heap.size a0 len0 cap0 := by
    obtain ⟨fuel, hf⟩ := h0
    rcases open_ints Try.underlying47 Try.underlying5 (by kernel_rfl) hf with ⟨hcs, _⟩ | ⟨x, l, c, zs, hcs, _, hl, hm, hz, _, hcell, hwz⟩
    · simp [Value.cells] at hcs
      obtain ⟨rfl, rfl, rfl⟩ := hcs
      exact .inl ⟨rfl, by unfold maxLen; omega⟩
    · simp [Value.cells] at hcs
      obtain ⟨rfl, rfl, rfl⟩ := hcs
      exact code_row W _ _ _ zs hl hm (by simpa using hz) hcell hwz
  clear hA0 hval0
  refine (walk a0 len0 cap0 W w0).mono fun e W' ⟨he, bel⟩ => ?_
  subst he
  exact ⟨_, rfl, _, _, _, [], _, [], hW', trodAll_mk1 (shut_bool Try.underlying4 _), (trodAll_cons_mk (Below.trod laidOut (by kernel_rfl) (of_decide_eq_true (by kernel_rfl)) k0 bel lt0) trodAll_mk0), rfl, bel.frame _, fun h => by cases h⟩

theorem over : Rows.fnPruneStoreRow.holds Try.pinned (OpenSpec.ofChange Rows.fnPruneStoreSpec) :=
  OpenClaim.holds_of_wide 12 Try.f12 rfl rfl rfl rfl rfl rfl rfl ⟨rfl, rfl, rfl, rfl, rfl⟩ rfl rfl rfl rfl rfl (by kernel_rfl) Try.func12 (by kernel_rfl)
    (of_decide_eq_true (by kernel_rfl)) (by unfold Func.isWrapper; first | (rw [if_pos (by decide +kernel)]; kernel_rfl) | (rw [if_neg (by decide +kernel)]; exact ⟨rfl, rfl⟩))
    (fun os started H enc _ => lifted os started H enc)

/-- THE STATEMENT -/
theorem proved : Rows.FnPruneStoreSaid := over
end Go.Proofs.Ytomdmkhgkaalnaa.FnPruneStore
