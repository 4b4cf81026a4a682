/- FnWrongFiles returns true for every code. Written by mkwf.py. -/
import Derived.Test.YtomdmkhgkaalnaaDrawL
import Derived.Test.YtomdmkhgkaalnaaPlainW
import Derived.Test.YtomdmkhgkaalnaaWrong
import Derived.Test.YtomdmkhgkaalnaaEqLaw
import Derived.Test.YtomdmkhgkaalnaaEqAsc
import Derived.Test.YtomdmkhgkaalnaaStores
import Derived.Test.YtomdmkhgkaalnaaTrees
import Derived.Test.YtomdmkhgkaalnaaFrame
import Derived.BigQuiet
import Derived.Lib.QuietBelow
set_option linter.unusedVariables false
set_option linter.unusedSimpArgs false
namespace Go.Proofs.Ytomdmkhgkaalnaa.FnWrongFiles
open Go.Sort Go.ChangeShapes Go.WideShapes Go.ChangeAt Go.RowKit Go.Proofs.Ytomdmkhgkaalnaa.Nm

set_option maxRecDepth 100000 in
set_option maxHeartbeats 16000000 in
theorem walk (a : Option Addr) (n cap : Nat) (w : World) (hc : Code w w.heap.size a n cap) :
    Calls Try.prog 11 #[.slice a n cap] w fun e w' => e = .returned (.bool true) ∧ Below w.heap.size w w' := by
  by_cases hn : (1048576 : Int) < (n : Int)
  · go_enter Try.func11, Try.ntmps11
    go_wp2_with fail
    go_ret
    exact ⟨rfl, Below.refl _ _⟩
  have Hc := Lib.hid hc
  clear hc
  go_enter Try.func11, Try.ntmps11
  go_wp2_with fail
  refine (spec_DrawWrongFiles a n cap w Hc.out).mono ?_
  rintro e w1 ⟨lv, qs, v, ps, rfl, ⟨hrows, hfine, hl11⟩, ⟨htree, hsh, hp10, hbl⟩, hb1⟩
  obtain ⟨la, lc, rfl⟩ := hrows.len
  obtain ⟨cs, hcs⟩ : ∃ cs, cs = qs.map (·.1) := ⟨_, rfl⟩
  have hlen : qs.length = cs.length := by rw [hcs, List.length_map]
  have Hps := Lib.hid hcs.symm
  have HQ := Lib.hid hrows
  have HC := Lib.hid (show CmpsIn w1 (fun _ => True) (.slice la qs.length lc) cs by rw [hcs]; exact hrows.fils (fun _ _ => trivial))
  have HS1 := Lib.hid (show ShortCs 1048576 cs from fun c hc => by rw [hcs] at hc; obtain ⟨p, hp, rfl⟩ := List.mem_map.1 hc; exact shortC_mono (by omega) (hfine p hp).1)
  have HS2 := Lib.hid (shortCs_mono (B := 2000000) (by omega) HS1.out)
  have HCo := Lib.hid (show cmpsCost' cs from ⟨by omega, fun c hc => by rw [hcs] at hc; obtain ⟨p, hp, rfl⟩ := List.mem_map.1 hc; have := (hfine p hp).2.1; omega⟩)
  rw [hlen] at HQ HC ⊢
  clear hrows hfine hcs hlen
  obtain ⟨va, vc, rfl⟩ := htree.len
  obtain ⟨fs, hfs⟩ : ∃ fs, fs = ps.map (·.1) := ⟨_, rfl⟩
  have hlf : ps.length = fs.length := by rw [hfs, List.length_map]
  have Hpf := Lib.hid hfs.symm
  have HT := Lib.hid htree
  have HF := Lib.hid (show FilsIn w1 (fun _ => True) (.slice va ps.length vc) fs by rw [hfs]; exact htree.fils (fun _ _ => trivial))
  have HZs := Lib.hid (show ∀ p ∈ ps, ShortF 8 p.1 from fun p hp => hsh _ (List.mem_map.2 ⟨p, hp, rfl⟩))
  have HT1 := Lib.hid (show ShortT 1048576 fs by rw [hfs]; exact shortT_mono (by omega) hsh)
  have HT8 := Lib.hid (show ShortT 8000000 fs by rw [hfs]; exact shortT_mono (by omega) hsh)
  have HFo := Lib.hid (show filsCost' fs from ⟨by omega, fun f hf => by rw [hfs] at hf; obtain ⟨p, hp, rfl⟩ := List.mem_map.1 hf; have := hbl p hp; omega⟩)
  have HBl := Lib.hid hbl
  have hp12 : fs.length ≤ 12 := by omega
  have Hb1 := Lib.hid hb1
  rw [hlf] at HT HF ⊢
  have Hlf := Lib.hid hlf
  clear htree hfs hlf hsh hbl hb1
  have X1 := Lib.hid (Boxed.start w1 #[.slice va fs.length vc] 33)
  go_wp2_with fail
  refine (impl_WrongFiles _ cs (fun _ => True) _ fs ps _ _ (HC.out.below (by first | exact X1.out.below | (repeat (with_reducible first | exact Below.refl _ _ | assumption | refine ba ?_ _ | refine bd ?_ | refine bdN ?_ _ | refine bs ?_ (by first | exact Nat.le_refl _ | (dsimp only; omega) | (simp; done)) _ | refine bt ?_ (by assumption))))) HS1.out (HT.out.rows.below (by first | exact X1.out.below | (repeat (with_reducible first | exact Below.refl _ _ | assumption | refine ba ?_ _ | refine bd ?_ | refine bdN ?_ _ | refine bs ?_ (by first | exact Nat.le_refl _ | (dsimp only; omega) | (simp; done)) _ | refine bt ?_ (by assumption))))) Hpf.out HT1.out HFo.out).mono ?_
  rintro _ w2 ⟨v2, rfl, o2, hb2⟩
  have X2 := Lib.hid (X1.out.step hb2)
  have x0 : w2.cell? ⟨w1.heap.size, 0, none⟩ = some (.slice va fs.length vc) := X2.out.cell 0
  obtain ⟨a2, c2, rfl⟩ := owns_shape o2
  have HI2 := Lib.hid (IntsIn.of_owns o2)
  clear o2
  go_wp2_with fail
  refine (spec_WrongFiles _ cs (fun _ => True) _ fs ps _ _ (HC.out.below (by first | exact X2.out.below | (repeat (with_reducible first | exact Below.refl _ _ | assumption | refine ba ?_ _ | refine bd ?_ | refine bdN ?_ _ | refine bs ?_ (by first | exact Nat.le_refl _ | (dsimp only; omega) | (simp; done)) _ | refine bt ?_ (by assumption))))) HS1.out (HT.out.rows.below (by first | exact X2.out.below | (repeat (with_reducible first | exact Below.refl _ _ | assumption | refine ba ?_ _ | refine bd ?_ | refine bdN ?_ _ | refine bs ?_ (by first | exact Nat.le_refl _ | (dsimp only; omega) | (simp; done)) _ | refine bt ?_ (by assumption))))) Hpf.out HT1.out HFo.out).mono ?_
  rintro _ w3 ⟨v3, rfl, o3, hb3⟩
  have X3 := Lib.hid (X2.out.step hb3)
  clear x0
  have x0 : w3.cell? ⟨w1.heap.size, 0, none⟩ = some (.slice va fs.length vc) := X3.out.cell 0
  obtain ⟨a3, c3, rfl⟩ := owns_shape o3
  have HI3 := Lib.hid (IntsIn.of_owns o3)
  clear o3
  obtain ⟨xs, hxs⟩ : ∃ xs, xs = wrongs cs fs := ⟨_, rfl⟩
  have Hxs := Lib.hid hxs
  rw [← hxs] at HI2 HI3 ⊢
  have Hws := Lib.hid (fun (W : World) (hb : Below w1.heap.size w1 W) => (show Calls Try.prog 50 #[.slice la cs.length lc, .agg #[.slice va fs.length vc]] W (NewInts 3 xs W) by rw [hxs]; exact spec_WrongFiles _ cs (fun _ => True) _ fs ps _ W (HC.out.below hb) HS1.out (HT.out.rows.below hb) Hpf.out HT1.out HFo.out))
  clear hxs
  go_wp2_with fail
  refine (laws_equalInts _ _ xs xs _ (HI2.out.below (by first | exact X3.out.below | (repeat (with_reducible first | exact Below.refl _ _ | assumption | refine ba ?_ _ | refine bd ?_ | refine bdN ?_ _ | refine bs ?_ (by first | exact Nat.le_refl _ | (dsimp only; omega) | (simp; done)) _ | refine bt ?_ (by assumption))))) (HI3.out.below (by first | exact X3.out.below | (repeat (with_reducible first | exact Below.refl _ _ | assumption | refine ba ?_ _ | refine bd ?_ | refine bdN ?_ _ | refine bs ?_ (by first | exact Nat.le_refl _ | (dsimp only; omega) | (simp; done)) _ | refine bt ?_ (by assumption)))))).mono ?_
  rintro _ w4 ⟨rfl, hb4⟩
  have X4 := Lib.hid (X3.out.step hb4)
  clear x0
  have x0 : w4.cell? ⟨w1.heap.size, 0, none⟩ = some (.slice va fs.length vc) := X4.out.cell 0
  rw [decide_eq_true (rfl : xs = xs)]
  cases hs : okStore cs
  · have Hs := Lib.hid hs
    clear hs
    go_wp2_with fail
    refine (impl_ValidStore _ cs _ _ (HC.out.below (by first | exact X4.out.below | (repeat (with_reducible first | exact Below.refl _ _ | assumption | refine ba ?_ _ | refine bd ?_ | refine bdN ?_ _ | refine bs ?_ (by first | exact Nat.le_refl _ | (dsimp only; omega) | (simp; done)) _ | refine bt ?_ (by assumption))))) HS2.out).mono ?_
    rintro _ w5 ⟨rfl, hb5⟩
    have X5 := Lib.hid (X4.out.step hb5)
    clear x0
    have x0 : w5.cell? ⟨w1.heap.size, 0, none⟩ = some (.slice va fs.length vc) := X5.out.cell 0
    rw [Hs.out]
    go_wp2_with fail
    refine (Hws.out _ (by first | exact X5.out.below | (repeat (with_reducible first | exact Below.refl _ _ | assumption | refine ba ?_ _ | refine bd ?_ | refine bdN ?_ _ | refine bs ?_ (by first | exact Nat.le_refl _ | (dsimp only; omega) | (simp; done)) _ | refine bt ?_ (by assumption))))).mono ?_
    rintro _ w6 ⟨v6, rfl, o6, hb6⟩
    have X6 := Lib.hid (X5.out.step hb6)
    clear x0
    have x0 : w6.cell? ⟨w1.heap.size, 0, none⟩ = some (.slice va fs.length vc) := X6.out.cell 0
    obtain ⟨a6, c6, rfl⟩ := owns_shape o6
    have HI6 := Lib.hid (IntsIn.of_owns o6)
    clear o6
    go_wp2_with fail
    refine (laws_equalInts _ _ xs xs _ (HI2.out.below (by first | exact X6.out.below | (repeat (with_reducible first | exact Below.refl _ _ | assumption | refine ba ?_ _ | refine bd ?_ | refine bdN ?_ _ | refine bs ?_ (by first | exact Nat.le_refl _ | (dsimp only; omega) | (simp; done)) _ | refine bt ?_ (by assumption))))) (HI6.out.below (by first | exact X6.out.below | (repeat (with_reducible first | exact Below.refl _ _ | assumption | refine ba ?_ _ | refine bd ?_ | refine bdN ?_ _ | refine bs ?_ (by first | exact Nat.le_refl _ | (dsimp only; omega) | (simp; done)) _ | refine bt ?_ (by assumption)))))).mono ?_
    rintro _ w7 ⟨rfl, hb7⟩
    have X7 := Lib.hid (X6.out.step hb7)
    clear x0
    have x0 : w7.cell? ⟨w1.heap.size, 0, none⟩ = some (.slice va fs.length vc) := X7.out.cell 0
    rw [decide_eq_true (rfl : xs = xs)]
    go_wp2_with fail
    go_ret
    exact ⟨rfl, by have h := X7.out.below; have h1 := Hb1.out; exact h1.trans (h.mono h1.size)⟩
  have Hs := Lib.hid hs
  clear hs
  go_wp2_with fail
  refine (impl_ValidStore _ cs _ _ (HC.out.below (by first | exact X4.out.below | (repeat (with_reducible first | exact Below.refl _ _ | assumption | refine ba ?_ _ | refine bd ?_ | refine bdN ?_ _ | refine bs ?_ (by first | exact Nat.le_refl _ | (dsimp only; omega) | (simp; done)) _ | refine bt ?_ (by assumption))))) HS2.out).mono ?_
  rintro _ w5 ⟨rfl, hb5⟩
  have X5 := Lib.hid (X4.out.step hb5)
  clear x0
  have x0 : w5.cell? ⟨w1.heap.size, 0, none⟩ = some (.slice va fs.length vc) := X5.out.cell 0
  rw [Hs.out]
  cases ht : okTree fs
  · have Ht := Lib.hid ht
    clear ht
    go_wp2_with fail
    refine (impl_ValidTree _ fs _ _ (HF.out.below (by first | exact X5.out.below | (repeat (with_reducible first | exact Below.refl _ _ | assumption | refine ba ?_ _ | refine bd ?_ | refine bdN ?_ _ | refine bs ?_ (by first | exact Nat.le_refl _ | (dsimp only; omega) | (simp; done)) _ | refine bt ?_ (by assumption))))) HT8.out).mono ?_
    rintro _ w6 ⟨rfl, hb6⟩
    have X6 := Lib.hid (X5.out.step hb6)
    clear x0
    have x0 : w6.cell? ⟨w1.heap.size, 0, none⟩ = some (.slice va fs.length vc) := X6.out.cell 0
    rw [Ht.out]
    go_wp2_with fail
    refine (Hws.out _ (by first | exact X6.out.below | (repeat (with_reducible first | exact Below.refl _ _ | assumption | refine ba ?_ _ | refine bd ?_ | refine bdN ?_ _ | refine bs ?_ (by first | exact Nat.le_refl _ | (dsimp only; omega) | (simp; done)) _ | refine bt ?_ (by assumption))))).mono ?_
    rintro _ w7 ⟨v7, rfl, o7, hb7⟩
    have X7 := Lib.hid (X6.out.step hb7)
    clear x0
    have x0 : w7.cell? ⟨w1.heap.size, 0, none⟩ = some (.slice va fs.length vc) := X7.out.cell 0
    obtain ⟨a7, c7, rfl⟩ := owns_shape o7
    have HI7 := Lib.hid (IntsIn.of_owns o7)
    clear o7
    go_wp2_with fail
    refine (laws_equalInts _ _ xs xs _ (HI2.out.below (by first | exact X7.out.below | (repeat (with_reducible first | exact Below.refl _ _ | assumption | refine ba ?_ _ | refine bd ?_ | refine bdN ?_ _ | refine bs ?_ (by first | exact Nat.le_refl _ | (dsimp only; omega) | (simp; done)) _ | refine bt ?_ (by assumption))))) (HI7.out.below (by first | exact X7.out.below | (repeat (with_reducible first | exact Below.refl _ _ | assumption | refine ba ?_ _ | refine bd ?_ | refine bdN ?_ _ | refine bs ?_ (by first | exact Nat.le_refl _ | (dsimp only; omega) | (simp; done)) _ | refine bt ?_ (by assumption)))))).mono ?_
    rintro _ w8 ⟨rfl, hb8⟩
    have X8 := Lib.hid (X7.out.step hb8)
    clear x0
    have x0 : w8.cell? ⟨w1.heap.size, 0, none⟩ = some (.slice va fs.length vc) := X8.out.cell 0
    rw [decide_eq_true (rfl : xs = xs)]
    go_wp2_with fail
    go_ret
    exact ⟨rfl, by have h := X8.out.below; have h1 := Hb1.out; exact h1.trans (h.mono h1.size)⟩
  have Ht := Lib.hid ht
  clear ht
  go_wp2_with fail
  refine (impl_ValidTree _ fs _ _ (HF.out.below (by first | exact X5.out.below | (repeat (with_reducible first | exact Below.refl _ _ | assumption | refine ba ?_ _ | refine bd ?_ | refine bdN ?_ _ | refine bs ?_ (by first | exact Nat.le_refl _ | (dsimp only; omega) | (simp; done)) _ | refine bt ?_ (by assumption))))) HT8.out).mono ?_
  rintro _ w6 ⟨rfl, hb6⟩
  have X6 := Lib.hid (X5.out.step hb6)
  clear x0
  have x0 : w6.cell? ⟨w1.heap.size, 0, none⟩ = some (.slice va fs.length vc) := X6.out.cell 0
  rw [Ht.out]
  have Hb6 := Lib.hid (show Below w2.heap.size w2 w6 by (repeat (with_reducible first | exact Below.refl _ _ | assumption | refine ba ?_ _ | refine bd ?_ | refine bdN ?_ _ | refine bs ?_ (by first | exact Nat.le_refl _ | (dsimp only; omega) | (simp; done)) _ | refine bt ?_ (by assumption))))
  have hz2 := Hb6.out.size
  clear hb2 hb3 hb4 hb5 hb6 HI3 x0 X2 X3 X4 X5
  go_wp2_with fail
  go_loopw [6, 7, 8, 9] (fun iv _ _ _ wr => ∃ k : Nat, k ≤ fs.length ∧ iv = .int .i64 k ∧ Boxed w1 #[.slice va fs.length vc] 33 wr ∧ Below w2.heap.size w2 wr) (fun iv _ _ _ _ => fs.length - (intOf iv).toNat)
  case atStart => exact ⟨0, by omega, rfl, X6.out, Hb6.out⟩
  case round =>
    obtain ⟨k, hk, rfl, hbx, hb2⟩ := hrel
    have Xr := Lib.hid hbx
    have Hb2 := Lib.hid hb2
    have x0 : wr.cell? ⟨w1.heap.size, 0, none⟩ = some (.slice va fs.length vc) := Xr.out.cell 0
    have hbel := hbx.below
    clear hbx hb2
    by_cases hlt : k < fs.length
    · have hltp : k < ps.length := by rw [Hlf.out]; exact hlt
      have hrow := (HT.out.below hbel).1
      have Hrow := Lib.hid hrow
      obtain ⟨g, cap', e1, hg, hg2⟩ := hrow.form (by omega)
      simp only [Value.slice.injEq] at e1
      obtain ⟨rfl, hnn, rfl⟩ := e1
      clear hnn
      have hrow' := hrow
      rw [Hlf.out] at hrow'
      obtain ⟨⟨c0, c1, c2, c3, c4, c5⟩, _⟩ := own6 hrow' k hltp
      have Hwr := Lib.hid (mem_wrongs Hs.out Ht.out k hlt)
      have Hbd := Lib.hid (HT.out.2.1 _ (List.getElem_mem hltp))
      have Hzk := Lib.hid (HZs.out _ (List.getElem_mem hltp))
      have hlk := HBl.out _ (List.getElem_mem hltp)
      have hpe : ps[k].1 = fs[k] := by simp only [← Hpf.out, List.getElem_map]
      have Hok := Lib.hid (okTree_inW Ht.out (List.getElem_mem hlt))
      rw [← hpe] at Hwr Hok
      obtain ⟨p, hp⟩ : ∃ p, p = ps[k] := ⟨_, rfl⟩
      rw [← hp] at c0 c1 c2 c3 c4 c5 Hbd Hzk hlk Hwr Hok
      clear hp hrow hrow' hpe hg hg2
      obtain ⟨⟨fr, fp, fn, fi, fst, fb⟩, bv⟩ := p
      dsimp only at c0 c1 c2 c3 c4 c5 Hbd Hzk hlk Hwr Hok
      obtain ⟨ab, cb, hbv⟩ := owns_shape Hbd.out
      subst hbv
      have Hwb := Lib.hid (wrong_body (f := ⟨fr, fp, fn, fi, fst, fb⟩) Hs.out Hok.out)
      obtain ⟨⟨L1, L2, had⟩, hL⟩ : ∃ t, t = loadB cs ⟨fr, fp, fn, fi, fst, fb⟩ 0 := ⟨_, rfl⟩
      have HI := Lib.hid (fun (W : World) (hb : Below w1.heap.size w1 W) => (show Calls Try.prog 40 #[.slice la cs.length lc, .agg #[.int .i64 fr, .string (mk fp), .string (mk fn), .bool fi, .int .i64 fst, .slice ab fb.length cb], .int .i64 0] W (NewLoadX L1 L2 had W) by
        have h := impl_LoadBodyX _ cs qs fr fst fp fn fi _ fb 0 _ _ W (HQ.out.below hb) Hps.out HS1.out HCo.out (owns_below Hbd.out hb) (shortF_mono (B := 1048576) (by omega) Hzk.out) (by omega)
        rw [← hL] at h; exact h))
      rw [← hL] at Hwb
      dsimp only at Hwb
      clear hL
      obtain ⟨isw, hisw⟩ : ∃ b, b = isWrong cs ⟨fr, fp, fn, fi, fst, fb⟩ := ⟨_, rfl⟩
      rw [← hisw] at Hwb Hwr
      clear hisw
      rw [← Hxs.out] at Hwr
      have hk1 : (k : Int) < (fs.length : Int) := by omega
      have hk0 : (0 : Int) ≤ (k : Int) := by omega
      go_wp2_with fail
      refine (HI.out _ (by first | exact Xr.out.below | (repeat (with_reducible first | exact Below.refl _ _ | assumption | refine ba ?_ _ | refine bd ?_ | refine bdN ?_ _ | refine bs ?_ (by first | exact Nat.le_refl _ | (dsimp only; omega) | (simp; done)) _ | refine bt ?_ (by assumption))))).mono ?_
      rintro _ w7 ⟨b7, s7, r7, rfl, o7, m7, c7, _, hb7⟩
      obtain ⟨b7a, b7c, rfl⟩ := owns_shape o7
      obtain ⟨s7a, s7c, rfl⟩ := c7.len
      have HB7 := Lib.hid (show StmsIn w7 (fun _ => True) (.slice b7a L1.length b7c) L1 from StmsIn.of_owns o7 (fun _ _ => trivial))
      have X7 := Lib.hid (Xr.out.step hb7)
      have HBf := Lib.hid (show StmsIn w7 (fun _ => True) (.slice ab fb.length cb) fb from (StmsIn.of_owns (D := fun _ => True) Hbd.out (fun _ _ => trivial)).below X7.out.below)
      have HI7 := Lib.hid (HI2.out.below (bt Hb2.out hb7))
      have Hb7 := Lib.hid (bt Hb2.out hb7)
      clear x0 c0 c1 c2 c3 c4 o7 m7 c7
      have x0 := cell_regrown (show w7.cell? ⟨w1.heap.size, 0, none⟩ = some (.slice (some ⟨g, 0, none⟩) fs.length vc) from X7.out.cell 0)
      have k5 := cell_regrown ((hb7.cell (p := ⟨g, k * 6 + 5, none⟩) (Hrow.out.lt g rfl).2).trans c5)
      clear c5 hb7
      have cI : ∀ d os, Calls Try.prog 52 #[.slice a2 xs.length c2, .int .i64 k] (grow (redrawn w7 d) os) fun e w'' => e = .returned (.bool isw) ∧ ∃ p : Regrown, w'' = grow (redrawn w7 p.d) p.os := fun d os =>
        Calls.regrown_of ((laws_isIn _ xs k (grow (redrawn w7 d) os) (HI7.out.below (below_regrown w7 d os))).mono (fun _ _ h => ⟨by rw [h.1, Hwr.out], by rw [← h.2]; exact Below.refl _ _⟩))
      have cB : ∀ d os, Calls Try.prog 42 #[.slice b7a L1.length b7c, .slice ab fb.length cb] (grow (redrawn w7 d) os) fun e w'' => e = .returned (.bool (!isw)) ∧ ∃ p : Regrown, w'' = grow (redrawn w7 p.d) p.os := fun d os =>
        Calls.regrown_of ((laws_equalBody _ _ L1 fb _ _ (grow (redrawn w7 d) os) (HB7.out.below (below_regrown w7 d os)) (HBf.out.below (below_regrown w7 d os))).mono (fun _ _ h => ⟨by rw [h.1, Hwb.out], h.2⟩))
      go_wp2_with fail
      refine wp_region_quiet_below (by kernel_rfl) (by kernel_rfl) ?_
      repeat (go_big_quiet_step (first | exact cI _ _ | exact cB _ _))
      refine wpQuiet_nil ?_
      intro _ hw'
      obtain ⟨⟨dq, osq⟩, hw2⟩ := hw'
      subst hw2
      have X8 := Lib.hid (X7.out.step (below_regrown w7 dq osq))
      have Hb8 := Lib.hid (bt Hb7.out (below_regrown w7 dq osq))
      clear cI cB x0 k5
      cases isw
      all_goals
        go_wp2_with fail
        go_roundw
        case rel => exact ⟨k + 1, by omega, by go_num, X8.out, Hb8.out⟩
        case measure => simp [intOf]; omega
    · have HIr := Lib.hid (HI2.out.below Hb2.out)
      go_wp2_with fail
      refine (laws_ascends _ xs _ HIr.out (by rw [Hxs.out]; exact wrongs_up cs fs)).mono ?_
      rintro _ w9 ⟨rfl, hb9⟩
      have X9 := Lib.hid (Xr.out.step hb9)
      go_wp2_with fail
      go_ret
      exact ⟨rfl, by have h := X9.out.below; have h1 := Hb1.out; exact h1.trans (h.mono h1.size)⟩

/-! ### THE STEP TO THE ROW -/
set_option maxRecDepth 100000 in
theorem lifted (os : Os) (started : os.Started) (H : Type) (enc : TypeId × Value → H) :
    ReturnsInHanded {} Try.checked os 11 .any (Rows.fnWrongFilesSpec.pre6 enc Try.prog Try.f11 Rows.fnWrongFilesRow.domain false) (Rows.fnWrongFilesSpec.post enc Try.prog Try.f11 false true false false) := by
  refine returnsInHanded_of_change (C := Try.checked) own started (by kernel_rfl) Try.func11
    (ChangeSpec.witness6 (enc := enc) (C := Try.checked) false ⟨#[], #[.slice none 0 0], []⟩ 8 (by kernel_rfl) (by kernel_rfl) (by kernel_rfl) (by kernel_rfl)) ?_
  intro W base args ds gs before hval0 hW hcnd _
  have hval : ∀ (j : Nat) t v, Try.f11.params[j]? = some t → args[j]? = some v → Value.okWide Try.prog W .any base t v := hval0
  have hW' := hW
  obtain ⟨p, q, hA0, hV, rfl, hfz, hnd⟩ := hW
  have hA : DataW.TrodAll enc Try.prog W 0 (fun _ => true) true Try.f11.params.toList args.toList ds p := hA0
  rw [Try.params11] at hA hval
  obtain ⟨v0, vs0, d0, ds0, p0, q0, hargs, rfl, rfl, h0, r0⟩ := trodAll_cons hA
  obtain ⟨rfl, rfl, rfl⟩ := trodAll_nil r0
  obtain rfl : args = #[v0] := by cases args; simp_all
  obtain ⟨rfl, rfl⟩ := trodVars_none hV
  obtain ⟨a0, len0, cap0, rfl⟩ := okWide_slice Try.underlying47 (hval 0 47 v0 rfl rfl)
  have k0 := h0
  have lt0 : ∀ x ∈ p0, x.block < W.heap.size := by obtain ⟨m, hm⟩ := k0; exact DataW.trod_lt m _ _ _ hm
  have w0 : Code W W.heap.size a0 len0 cap0 := by
    obtain ⟨fuel, hf⟩ := h0
    rcases open_ints Try.underlying47 Try.underlying5 (by kernel_rfl) hf with ⟨hcs, _⟩ | ⟨x, l, c, zs, hcs, _, hl, hm, hz, _, hcell, hwz⟩
    · simp [Value.cells] at hcs
      obtain ⟨rfl, rfl, rfl⟩ := hcs
      exact .inl ⟨rfl, by unfold maxLen; omega⟩
    · simp [Value.cells] at hcs
      obtain ⟨rfl, rfl, rfl⟩ := hcs
      exact code_row W _ _ _ zs hl hm (by simpa using hz) hcell hwz
  clear hA0 hval0
  refine (walk a0 len0 cap0 W w0).mono fun e W' ⟨he, bel⟩ => ?_
  subst he
  exact ⟨_, rfl, _, _, _, [], _, [], hW', trodAll_mk1 (shut_bool Try.underlying4 _), (trodAll_cons_mk (Below.trod laidOut (by kernel_rfl) (of_decide_eq_true (by kernel_rfl)) k0 bel lt0) trodAll_mk0), rfl, bel.frame _, fun h => by cases h⟩

theorem over : Rows.fnWrongFilesRow.holds Try.pinned (OpenSpec.ofChange Rows.fnWrongFilesSpec) :=
  OpenClaim.holds_of_wide 11 Try.f11 rfl rfl rfl rfl rfl rfl rfl ⟨rfl, rfl, rfl, rfl, rfl⟩ rfl rfl rfl rfl rfl (by kernel_rfl) Try.func11 (by kernel_rfl)
    (of_decide_eq_true (by kernel_rfl)) (by unfold Func.isWrapper; first | (rw [if_pos (by decide +kernel)]; kernel_rfl) | (rw [if_neg (by decide +kernel)]; exact ⟨rfl, rfl⟩))
    (fun os started H enc _ => lifted os started H enc)

/-- THE STATEMENT -/
theorem proved : Rows.FnWrongFilesSaid := over
end Go.Proofs.Ytomdmkhgkaalnaa.FnWrongFiles
