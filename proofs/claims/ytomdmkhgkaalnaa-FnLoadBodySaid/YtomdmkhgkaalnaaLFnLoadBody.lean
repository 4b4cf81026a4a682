/- FnLoadBody returns true for every code. Written by mkload.py. -/
import Derived.Test.YtomdmkhgkaalnaaDrawL
import Derived.Test.YtomdmkhgkaalnaaLoad
import Derived.Test.YtomdmkhgkaalnaaEqCmp
import Derived.Test.YtomdmkhgkaalnaaStores
import Derived.Test.YtomdmkhgkaalnaaStmts
import Derived.Test.YtomdmkhgkaalnaaFrame
set_option linter.unusedVariables false
set_option linter.unusedSimpArgs false
namespace Go.Proofs.Ytomdmkhgkaalnaa.FnLoadBody
open Go.Sort Go.ChangeShapes Go.WideShapes Go.ChangeAt Go.RowKit Go.Proofs.Ytomdmkhgkaalnaa.Nm

set_option maxRecDepth 100000 in
set_option maxHeartbeats 16000000 in
theorem walk (a : Option Addr) (n cap : Nat) (w : World) (hc : Code w w.heap.size a n cap) :
    Calls Try.prog 7 #[.slice a n cap] w fun e w' => e = .returned (.bool true) ∧ Below w.heap.size w w' := by
  by_cases hn : (1048576 : Int) < (n : Int)
  · go_enter Try.func7, Try.ntmps7
    go_wp2_with fail
    go_ret
    exact ⟨rfl, Below.refl _ _⟩
  have Hc := Lib.hid hc
  clear hc
  go_enter Try.func7, Try.ntmps7
  go_wp2_with fail
  refine (spec_DrawLoadBody a n cap w Hc.out).mono ?_
  rintro e w1 ⟨lv, qs, ⟨fr, fp, fn, fi, fst, fb⟩, bv, m, rfl, ⟨hrows, hfine, hl11⟩, hbody, hsf, hl4, hb1⟩
  unfold filV
  dsimp only at hbody hl4 ⊢
  obtain ⟨la, lc, rfl⟩ := hrows.len
  obtain ⟨ab, cb, rfl⟩ := owns_shape hbody
  obtain ⟨cs, hcs⟩ : ∃ cs, cs = qs.map (·.1) := ⟨_, rfl⟩
  have hlen : qs.length = cs.length := by rw [hcs, List.length_map]
  have Hps := Lib.hid hcs.symm
  have HQ := Lib.hid hrows
  have HC := Lib.hid (show CmpsIn w1 (fun _ => True) (.slice la qs.length lc) cs by rw [hcs]; exact hrows.fils (fun _ _ => trivial))
  have HS1 := Lib.hid (show ShortCs 1048576 cs from fun c hc => by rw [hcs] at hc; obtain ⟨p, hp, rfl⟩ := List.mem_map.1 hc; exact shortC_mono (by omega) (hfine p hp).1)
  have HS2 := Lib.hid (shortCs_mono (B := 2000000) (by omega) HS1.out)
  have HCo := Lib.hid (show cmpsCost' cs from ⟨by omega, fun c hc => by rw [hcs] at hc; obtain ⟨p, hp, rfl⟩ := List.mem_map.1 hc; have := (hfine p hp).2.1; omega⟩)
  have HB := Lib.hid hbody
  have HBi := Lib.hid (show StmsIn w1 (fun _ => True) (.slice ab fb.length cb) fb from StmsIn.of_owns hbody (fun _ _ => trivial))
  have HZf := Lib.hid (shortF_mono (B := 1048576) (by omega) hsf)
  have HZb := Lib.hid (short_mono (B := 8000000) (by omega) hsf.2.2)
  have hfp : fp.length ≤ 8000000 := by have := hsf.1; dsimp only at this; omega
  have hfn : fn.length ≤ 8000000 := by have := hsf.2.1; dsimp only at this; omega
  have hfl : fb.length ≤ 1048576 := by omega
  have Hb1 := Lib.hid hb1
  rw [hlen] at HQ HC ⊢
  clear hrows hfine hbody hsf hb1 hcs hlen hl11
  obtain ⟨⟨L1, L2, had⟩, hL⟩ : ∃ t, t = loadB cs ⟨fr, fp, fn, fi, fst, fb⟩ m := ⟨_, rfl⟩
  have HL := Lib.hid hL
  have HI := Lib.hid (fun (W : World) (hb : Below w1.heap.size w1 W) => (show Calls Try.prog 40 #[.slice la cs.length lc, .agg #[.int .i64 fr, .string (mk fp), .string (mk fn), .bool fi, .int .i64 fst, .slice ab fb.length cb], .int .i64 m] W (NewLoadX L1 L2 had W) by
    have h := impl_LoadBodyX _ cs qs fr fst fp fn fi _ fb m _ _ W (HQ.out.below hb) Hps.out HS1.out HCo.out (owns_below HB.out hb) HZf.out hfl
    rw [← hL] at h; exact h))
  have HS := Lib.hid (fun (W : World) (hb : Below w1.heap.size w1 W) => (show Calls Try.prog 41 #[.slice la cs.length lc, .agg #[.int .i64 fr, .string (mk fp), .string (mk fn), .bool fi, .int .i64 fst, .slice ab fb.length cb], .int .i64 m] W (NewLoadX L1 L2 had W) by
    have h := spec_LoadBodyX _ cs qs fr fst fp fn fi _ fb m _ _ W (HQ.out.below hb) Hps.out HS1.out HCo.out (owns_below HB.out hb) HZf.out hfl
    rw [← hL] at h; exact h))
  have HMo := Lib.hid (fun (W : World) (hb : Below w1.heap.size w1 W) => impl_ModuleOf fr fst fp fn fi _ fb _ W hfp hfn (HBi.out.below hb) HZb.out)
  have X1 := Lib.hid (Boxed.start w1 #[.int .i64 fr, .string (mk fp), .string (mk fn), .bool fi, .int .i64 fst, .slice ab fb.length cb] 55)
  clear hL
  go_wp2_with fail
  refine (HI.out _ (by (repeat (with_reducible first | exact Below.refl _ _ | assumption | refine ba ?_ _ | refine bd ?_ | refine bdN ?_ _ | refine bs ?_ (by first | exact Nat.le_refl _ | (dsimp only; omega) | (simp; done)) _ | refine bt ?_ (by assumption))))).mono ?_
  rintro _ w2 ⟨b2, s2, r2, rfl, o2, m2, c2, _, hb2⟩
  have X2 := Lib.hid (X1.out.step hb2)
  obtain ⟨x0, x1, x2, x3, x4, x5⟩ : w2.cell? ⟨w1.heap.size, 0, none⟩ = some (.int .i64 fr) ∧ w2.cell? ⟨w1.heap.size, 1, none⟩ = some (.string (mk fp)) ∧ w2.cell? ⟨w1.heap.size, 2, none⟩ = some (.string (mk fn)) ∧ w2.cell? ⟨w1.heap.size, 3, none⟩ = some (.bool fi) ∧ w2.cell? ⟨w1.heap.size, 4, none⟩ = some (.int .i64 fst) ∧ w2.cell? ⟨w1.heap.size, 5, none⟩ = some (.slice ab fb.length cb) := ⟨X2.out.cell 0, X2.out.cell 1, X2.out.cell 2, X2.out.cell 3, X2.out.cell 4, X2.out.cell 5⟩
  obtain ⟨b2a, b2c, rfl⟩ := owns_shape o2
  obtain ⟨s2a, s2c, rfl⟩ := c2.len
  have hr2 : r2.length = L2.length := by rw [← m2, List.length_map]
  have HB2 := Lib.hid (show StmsIn w2 (fun _ => True) (.slice b2a L1.length b2c) L1 from StmsIn.of_owns o2 (fun _ _ => trivial))
  have HC2 := Lib.hid (show CmpsIn w2 (fun _ => True) (.slice s2a L2.length s2c) L2 by have h := c2.fils (D := fun _ => True) (fun _ _ => trivial); rw [m2, hr2] at h; exact h)
  have HQ2 := Lib.hid (show RowsC8 w2 _ (.slice s2a L2.length s2c) r2 by have h := c2.rows; rw [hr2] at h; exact h)
  have Hm2 := Lib.hid m2
  rw [hr2]
  clear o2 c2 m2 hr2
  go_wp2_with fail
  refine (HS.out _ (by first | exact X2.out.below | (repeat (with_reducible first | exact Below.refl _ _ | assumption | refine ba ?_ _ | refine bd ?_ | refine bdN ?_ _ | refine bs ?_ (by first | exact Nat.le_refl _ | (dsimp only; omega) | (simp; done)) _ | refine bt ?_ (by assumption))))).mono ?_
  rintro _ w3 ⟨b3, s3, r3, rfl, o3, m3, c3, _, hb3⟩
  have X3 := Lib.hid (X2.out.step hb3)
  clear x0 x1 x2 x3 x4 x5
  obtain ⟨x0, x1, x2, x3, x4, x5⟩ : w3.cell? ⟨w1.heap.size, 0, none⟩ = some (.int .i64 fr) ∧ w3.cell? ⟨w1.heap.size, 1, none⟩ = some (.string (mk fp)) ∧ w3.cell? ⟨w1.heap.size, 2, none⟩ = some (.string (mk fn)) ∧ w3.cell? ⟨w1.heap.size, 3, none⟩ = some (.bool fi) ∧ w3.cell? ⟨w1.heap.size, 4, none⟩ = some (.int .i64 fst) ∧ w3.cell? ⟨w1.heap.size, 5, none⟩ = some (.slice ab fb.length cb) := ⟨X3.out.cell 0, X3.out.cell 1, X3.out.cell 2, X3.out.cell 3, X3.out.cell 4, X3.out.cell 5⟩
  obtain ⟨b3a, b3c, rfl⟩ := owns_shape o3
  obtain ⟨s3a, s3c, rfl⟩ := c3.len
  have hr3 : r3.length = L2.length := by rw [← m3, List.length_map]
  have HB3 := Lib.hid (show StmsIn w3 (fun _ => True) (.slice b3a L1.length b3c) L1 from StmsIn.of_owns o3 (fun _ _ => trivial))
  have HC3 := Lib.hid (show CmpsIn w3 (fun _ => True) (.slice s3a L2.length s3c) L2 by have h := c3.fils (D := fun _ => True) (fun _ _ => trivial); rw [m3, hr3] at h; exact h)
  have HQ3 := Lib.hid (show RowsC8 w3 _ (.slice s3a L2.length s3c) r3 by have h := c3.rows; rw [hr3] at h; exact h)
  have Hm3 := Lib.hid m3
  rw [hr3]
  clear o3 c3 m3 hr3
  go_wp2_with fail
  refine (laws_equalBody _ _ L1 L1 _ _ _ (HB2.out.below (by first | exact X3.out.below | (repeat (with_reducible first | exact Below.refl _ _ | assumption | refine ba ?_ _ | refine bd ?_ | refine bdN ?_ _ | refine bs ?_ (by first | exact Nat.le_refl _ | (dsimp only; omega) | (simp; done)) _ | refine bt ?_ (by assumption))))) (HB3.out.below (by first | exact X3.out.below | (repeat (with_reducible first | exact Below.refl _ _ | assumption | refine ba ?_ _ | refine bd ?_ | refine bdN ?_ _ | refine bs ?_ (by first | exact Nat.le_refl _ | (dsimp only; omega) | (simp; done)) _ | refine bt ?_ (by assumption)))))).mono ?_
  rintro _ w4 ⟨rfl, hb4⟩
  have X4 := Lib.hid (X3.out.step hb4)
  clear x0 x1 x2 x3 x4 x5
  obtain ⟨x0, x1, x2, x3, x4, x5⟩ : w4.cell? ⟨w1.heap.size, 0, none⟩ = some (.int .i64 fr) ∧ w4.cell? ⟨w1.heap.size, 1, none⟩ = some (.string (mk fp)) ∧ w4.cell? ⟨w1.heap.size, 2, none⟩ = some (.string (mk fn)) ∧ w4.cell? ⟨w1.heap.size, 3, none⟩ = some (.bool fi) ∧ w4.cell? ⟨w1.heap.size, 4, none⟩ = some (.int .i64 fst) ∧ w4.cell? ⟨w1.heap.size, 5, none⟩ = some (.slice ab fb.length cb) := ⟨X4.out.cell 0, X4.out.cell 1, X4.out.cell 2, X4.out.cell 3, X4.out.cell 4, X4.out.cell 5⟩
  rw [decide_eq_true (rfl : L1 = L1)]
  go_wp2_with fail
  refine (laws_equalStore _ _ L2 _ _ _ (HC2.out.below (by first | exact X4.out.below | (repeat (with_reducible first | exact Below.refl _ _ | assumption | refine ba ?_ _ | refine bd ?_ | refine bdN ?_ _ | refine bs ?_ (by first | exact Nat.le_refl _ | (dsimp only; omega) | (simp; done)) _ | refine bt ?_ (by assumption))))) (HC3.out.below (by first | exact X4.out.below | (repeat (with_reducible first | exact Below.refl _ _ | assumption | refine ba ?_ _ | refine bd ?_ | refine bdN ?_ _ | refine bs ?_ (by first | exact Nat.le_refl _ | (dsimp only; omega) | (simp; done)) _ | refine bt ?_ (by assumption)))))).mono ?_
  rintro _ w5 ⟨rfl, hb5⟩
  have X5 := Lib.hid (X4.out.step hb5)
  clear x0 x1 x2 x3 x4 x5
  obtain ⟨x0, x1, x2, x3, x4, x5⟩ : w5.cell? ⟨w1.heap.size, 0, none⟩ = some (.int .i64 fr) ∧ w5.cell? ⟨w1.heap.size, 1, none⟩ = some (.string (mk fp)) ∧ w5.cell? ⟨w1.heap.size, 2, none⟩ = some (.string (mk fn)) ∧ w5.cell? ⟨w1.heap.size, 3, none⟩ = some (.bool fi) ∧ w5.cell? ⟨w1.heap.size, 4, none⟩ = some (.int .i64 fst) ∧ w5.cell? ⟨w1.heap.size, 5, none⟩ = some (.slice ab fb.length cb) := ⟨X5.out.cell 0, X5.out.cell 1, X5.out.cell 2, X5.out.cell 3, X5.out.cell 4, X5.out.cell 5⟩
  cases hs : okStore cs
  · have Hs := Lib.hid hs
    clear hs
    go_wp2_with fail
    refine (impl_ValidStore _ cs _ _ (HC.out.below (by first | exact X5.out.below | (repeat (with_reducible first | exact Below.refl _ _ | assumption | refine ba ?_ _ | refine bd ?_ | refine bdN ?_ _ | refine bs ?_ (by first | exact Nat.le_refl _ | (dsimp only; omega) | (simp; done)) _ | refine bt ?_ (by assumption))))) HS2.out).mono ?_
    rintro _ w6 ⟨rfl, hb6⟩
    have X6 := Lib.hid (X5.out.step hb6)
    clear x0 x1 x2 x3 x4 x5
    obtain ⟨x0, x1, x2, x3, x4, x5⟩ : w6.cell? ⟨w1.heap.size, 0, none⟩ = some (.int .i64 fr) ∧ w6.cell? ⟨w1.heap.size, 1, none⟩ = some (.string (mk fp)) ∧ w6.cell? ⟨w1.heap.size, 2, none⟩ = some (.string (mk fn)) ∧ w6.cell? ⟨w1.heap.size, 3, none⟩ = some (.bool fi) ∧ w6.cell? ⟨w1.heap.size, 4, none⟩ = some (.int .i64 fst) ∧ w6.cell? ⟨w1.heap.size, 5, none⟩ = some (.slice ab fb.length cb) := ⟨X6.out.cell 0, X6.out.cell 1, X6.out.cell 2, X6.out.cell 3, X6.out.cell 4, X6.out.cell 5⟩
    rw [Hs.out]
    go_wp2_with fail
    refine (laws_equalBody _ _ L1 L1 _ _ _ (HB2.out.below (by first | exact X6.out.below | (repeat (with_reducible first | exact Below.refl _ _ | assumption | refine ba ?_ _ | refine bd ?_ | refine bdN ?_ _ | refine bs ?_ (by first | exact Nat.le_refl _ | (dsimp only; omega) | (simp; done)) _ | refine bt ?_ (by assumption))))) (HB3.out.below (by first | exact X6.out.below | (repeat (with_reducible first | exact Below.refl _ _ | assumption | refine ba ?_ _ | refine bd ?_ | refine bdN ?_ _ | refine bs ?_ (by first | exact Nat.le_refl _ | (dsimp only; omega) | (simp; done)) _ | refine bt ?_ (by assumption)))))).mono ?_
    rintro _ w7 ⟨rfl, hb7⟩
    have X7 := Lib.hid (X6.out.step hb7)
    clear x0 x1 x2 x3 x4 x5
    obtain ⟨x0, x1, x2, x3, x4, x5⟩ : w7.cell? ⟨w1.heap.size, 0, none⟩ = some (.int .i64 fr) ∧ w7.cell? ⟨w1.heap.size, 1, none⟩ = some (.string (mk fp)) ∧ w7.cell? ⟨w1.heap.size, 2, none⟩ = some (.string (mk fn)) ∧ w7.cell? ⟨w1.heap.size, 3, none⟩ = some (.bool fi) ∧ w7.cell? ⟨w1.heap.size, 4, none⟩ = some (.int .i64 fst) ∧ w7.cell? ⟨w1.heap.size, 5, none⟩ = some (.slice ab fb.length cb) := ⟨X7.out.cell 0, X7.out.cell 1, X7.out.cell 2, X7.out.cell 3, X7.out.cell 4, X7.out.cell 5⟩
    rw [decide_eq_true (rfl : L1 = L1)]
    go_wp2_with fail
    refine (laws_equalStore _ _ L2 _ _ _ (HC2.out.below (by first | exact X7.out.below | (repeat (with_reducible first | exact Below.refl _ _ | assumption | refine ba ?_ _ | refine bd ?_ | refine bdN ?_ _ | refine bs ?_ (by first | exact Nat.le_refl _ | (dsimp only; omega) | (simp; done)) _ | refine bt ?_ (by assumption))))) (HC3.out.below (by first | exact X7.out.below | (repeat (with_reducible first | exact Below.refl _ _ | assumption | refine ba ?_ _ | refine bd ?_ | refine bdN ?_ _ | refine bs ?_ (by first | exact Nat.le_refl _ | (dsimp only; omega) | (simp; done)) _ | refine bt ?_ (by assumption)))))).mono ?_
    rintro _ w8 ⟨rfl, hb8⟩
    have X8 := Lib.hid (X7.out.step hb8)
    clear x0 x1 x2 x3 x4 x5
    obtain ⟨x0, x1, x2, x3, x4, x5⟩ : w8.cell? ⟨w1.heap.size, 0, none⟩ = some (.int .i64 fr) ∧ w8.cell? ⟨w1.heap.size, 1, none⟩ = some (.string (mk fp)) ∧ w8.cell? ⟨w1.heap.size, 2, none⟩ = some (.string (mk fn)) ∧ w8.cell? ⟨w1.heap.size, 3, none⟩ = some (.bool fi) ∧ w8.cell? ⟨w1.heap.size, 4, none⟩ = some (.int .i64 fst) ∧ w8.cell? ⟨w1.heap.size, 5, none⟩ = some (.slice ab fb.length cb) := ⟨X8.out.cell 0, X8.out.cell 1, X8.out.cell 2, X8.out.cell 3, X8.out.cell 4, X8.out.cell 5⟩
    go_wp2_with fail
    go_ret
    exact ⟨rfl, by have h := X8.out.below; have h1 := Hb1.out; exact h1.trans (h.mono h1.size)⟩
  have Hs := Lib.hid hs
  clear hs
  go_wp2_with fail
  refine (impl_ValidStore _ cs _ _ (HC.out.below (by first | exact X5.out.below | (repeat (with_reducible first | exact Below.refl _ _ | assumption | refine ba ?_ _ | refine bd ?_ | refine bdN ?_ _ | refine bs ?_ (by first | exact Nat.le_refl _ | (dsimp only; omega) | (simp; done)) _ | refine bt ?_ (by assumption))))) HS2.out).mono ?_
  rintro _ w6 ⟨rfl, hb6⟩
  have X6 := Lib.hid (X5.out.step hb6)
  clear x0 x1 x2 x3 x4 x5
  obtain ⟨x0, x1, x2, x3, x4, x5⟩ : w6.cell? ⟨w1.heap.size, 0, none⟩ = some (.int .i64 fr) ∧ w6.cell? ⟨w1.heap.size, 1, none⟩ = some (.string (mk fp)) ∧ w6.cell? ⟨w1.heap.size, 2, none⟩ = some (.string (mk fn)) ∧ w6.cell? ⟨w1.heap.size, 3, none⟩ = some (.bool fi) ∧ w6.cell? ⟨w1.heap.size, 4, none⟩ = some (.int .i64 fst) ∧ w6.cell? ⟨w1.heap.size, 5, none⟩ = some (.slice ab fb.length cb) := ⟨X6.out.cell 0, X6.out.cell 1, X6.out.cell 2, X6.out.cell 3, X6.out.cell 4, X6.out.cell 5⟩
  rw [Hs.out]
  cases hf : okFil ⟨fr, fp, fn, fi, fst, fb⟩
  · have Hf := Lib.hid hf
    clear hf
    go_wp2_with fail
    refine (HMo.out _ (by first | exact X6.out.below | (repeat (with_reducible first | exact Below.refl _ _ | assumption | refine ba ?_ _ | refine bd ?_ | refine bdN ?_ _ | refine bs ?_ (by first | exact Nat.le_refl _ | (dsimp only; omega) | (simp; done)) _ | refine bt ?_ (by assumption))))).mono ?_
    rintro _ w7 ⟨rfl, hb7⟩
    have X7 := Lib.hid (X6.out.step hb7)
    clear x0 x1 x2 x3 x4 x5
    obtain ⟨x0, x1, x2, x3, x4, x5⟩ : w7.cell? ⟨w1.heap.size, 0, none⟩ = some (.int .i64 fr) ∧ w7.cell? ⟨w1.heap.size, 1, none⟩ = some (.string (mk fp)) ∧ w7.cell? ⟨w1.heap.size, 2, none⟩ = some (.string (mk fn)) ∧ w7.cell? ⟨w1.heap.size, 3, none⟩ = some (.bool fi) ∧ w7.cell? ⟨w1.heap.size, 4, none⟩ = some (.int .i64 fst) ∧ w7.cell? ⟨w1.heap.size, 5, none⟩ = some (.slice ab fb.length cb) := ⟨X7.out.cell 0, X7.out.cell 1, X7.out.cell 2, X7.out.cell 3, X7.out.cell 4, X7.out.cell 5⟩
    rw [modOf_no Hf.out, show mk [] = (⟨#[]⟩ : ByteArray) from rfl]
    go_wp2_with fail
    refine (laws_equalBody _ _ L1 L1 _ _ _ (HB2.out.below (by first | exact X7.out.below | (repeat (with_reducible first | exact Below.refl _ _ | assumption | refine ba ?_ _ | refine bd ?_ | refine bdN ?_ _ | refine bs ?_ (by first | exact Nat.le_refl _ | (dsimp only; omega) | (simp; done)) _ | refine bt ?_ (by assumption))))) (HB3.out.below (by first | exact X7.out.below | (repeat (with_reducible first | exact Below.refl _ _ | assumption | refine ba ?_ _ | refine bd ?_ | refine bdN ?_ _ | refine bs ?_ (by first | exact Nat.le_refl _ | (dsimp only; omega) | (simp; done)) _ | refine bt ?_ (by assumption)))))).mono ?_
    rintro _ w8 ⟨rfl, hb8⟩
    have X8 := Lib.hid (X7.out.step hb8)
    clear x0 x1 x2 x3 x4 x5
    obtain ⟨x0, x1, x2, x3, x4, x5⟩ : w8.cell? ⟨w1.heap.size, 0, none⟩ = some (.int .i64 fr) ∧ w8.cell? ⟨w1.heap.size, 1, none⟩ = some (.string (mk fp)) ∧ w8.cell? ⟨w1.heap.size, 2, none⟩ = some (.string (mk fn)) ∧ w8.cell? ⟨w1.heap.size, 3, none⟩ = some (.bool fi) ∧ w8.cell? ⟨w1.heap.size, 4, none⟩ = some (.int .i64 fst) ∧ w8.cell? ⟨w1.heap.size, 5, none⟩ = some (.slice ab fb.length cb) := ⟨X8.out.cell 0, X8.out.cell 1, X8.out.cell 2, X8.out.cell 3, X8.out.cell 4, X8.out.cell 5⟩
    rw [decide_eq_true (rfl : L1 = L1)]
    go_wp2_with fail
    refine (laws_equalStore _ _ L2 _ _ _ (HC2.out.below (by first | exact X8.out.below | (repeat (with_reducible first | exact Below.refl _ _ | assumption | refine ba ?_ _ | refine bd ?_ | refine bdN ?_ _ | refine bs ?_ (by first | exact Nat.le_refl _ | (dsimp only; omega) | (simp; done)) _ | refine bt ?_ (by assumption))))) (HC3.out.below (by first | exact X8.out.below | (repeat (with_reducible first | exact Below.refl _ _ | assumption | refine ba ?_ _ | refine bd ?_ | refine bdN ?_ _ | refine bs ?_ (by first | exact Nat.le_refl _ | (dsimp only; omega) | (simp; done)) _ | refine bt ?_ (by assumption)))))).mono ?_
    rintro _ w9 ⟨rfl, hb9⟩
    have X9 := Lib.hid (X8.out.step hb9)
    clear x0 x1 x2 x3 x4 x5
    obtain ⟨x0, x1, x2, x3, x4, x5⟩ : w9.cell? ⟨w1.heap.size, 0, none⟩ = some (.int .i64 fr) ∧ w9.cell? ⟨w1.heap.size, 1, none⟩ = some (.string (mk fp)) ∧ w9.cell? ⟨w1.heap.size, 2, none⟩ = some (.string (mk fn)) ∧ w9.cell? ⟨w1.heap.size, 3, none⟩ = some (.bool fi) ∧ w9.cell? ⟨w1.heap.size, 4, none⟩ = some (.int .i64 fst) ∧ w9.cell? ⟨w1.heap.size, 5, none⟩ = some (.slice ab fb.length cb) := ⟨X9.out.cell 0, X9.out.cell 1, X9.out.cell 2, X9.out.cell 3, X9.out.cell 4, X9.out.cell 5⟩
    go_wp2_with fail
    go_ret
    exact ⟨rfl, by have h := X9.out.below; have h1 := Hb1.out; exact h1.trans (h.mono h1.size)⟩
  have Hf := Lib.hid hf
  clear hf
  go_wp2_with fail
  refine (HMo.out _ (by first | exact X6.out.below | (repeat (with_reducible first | exact Below.refl _ _ | assumption | refine ba ?_ _ | refine bd ?_ | refine bdN ?_ _ | refine bs ?_ (by first | exact Nat.le_refl _ | (dsimp only; omega) | (simp; done)) _ | refine bt ?_ (by assumption))))).mono ?_
  rintro _ w7 ⟨rfl, hb7⟩
  have X7 := Lib.hid (X6.out.step hb7)
  clear x0 x1 x2 x3 x4 x5
  obtain ⟨x0, x1, x2, x3, x4, x5⟩ : w7.cell? ⟨w1.heap.size, 0, none⟩ = some (.int .i64 fr) ∧ w7.cell? ⟨w1.heap.size, 1, none⟩ = some (.string (mk fp)) ∧ w7.cell? ⟨w1.heap.size, 2, none⟩ = some (.string (mk fn)) ∧ w7.cell? ⟨w1.heap.size, 3, none⟩ = some (.bool fi) ∧ w7.cell? ⟨w1.heap.size, 4, none⟩ = some (.int .i64 fst) ∧ w7.cell? ⟨w1.heap.size, 5, none⟩ = some (.slice ab fb.length cb) := ⟨X7.out.cell 0, X7.out.cell 1, X7.out.cell 2, X7.out.cell 3, X7.out.cell 4, X7.out.cell 5⟩
  have Hne := Lib.hid (modOf_ne Hf.out)
  obtain ⟨mo, hmo⟩ : ∃ mo, mo = modOf ⟨fr, fp, fn, fi, fst, fb⟩ := ⟨_, rfl⟩
  rw [← hmo] at Hne ⊢
  clear hmo
  have hne1 : ¬ mk mo = (⟨#[]⟩ : ByteArray) := fun e => Hne.out (mk_inj (e.trans (show (⟨#[]⟩ : ByteArray) = mk [] from rfl)))
  have hne2 : (mo == []) = false := by rw [beq_eq_false_iff_ne]; exact Hne.out
  by_cases hm0 : m < 0
  · skip
    go_wp2_with fail
    refine (laws_equalBody _ _ L1 L1 _ _ _ (HB2.out.below (by first | exact X7.out.below | (repeat (with_reducible first | exact Below.refl _ _ | assumption | refine ba ?_ _ | refine bd ?_ | refine bdN ?_ _ | refine bs ?_ (by first | exact Nat.le_refl _ | (dsimp only; omega) | (simp; done)) _ | refine bt ?_ (by assumption))))) (HB3.out.below (by first | exact X7.out.below | (repeat (with_reducible first | exact Below.refl _ _ | assumption | refine ba ?_ _ | refine bd ?_ | refine bdN ?_ _ | refine bs ?_ (by first | exact Nat.le_refl _ | (dsimp only; omega) | (simp; done)) _ | refine bt ?_ (by assumption)))))).mono ?_
    rintro _ w8 ⟨rfl, hb8⟩
    have X8 := Lib.hid (X7.out.step hb8)
    clear x0 x1 x2 x3 x4 x5
    obtain ⟨x0, x1, x2, x3, x4, x5⟩ : w8.cell? ⟨w1.heap.size, 0, none⟩ = some (.int .i64 fr) ∧ w8.cell? ⟨w1.heap.size, 1, none⟩ = some (.string (mk fp)) ∧ w8.cell? ⟨w1.heap.size, 2, none⟩ = some (.string (mk fn)) ∧ w8.cell? ⟨w1.heap.size, 3, none⟩ = some (.bool fi) ∧ w8.cell? ⟨w1.heap.size, 4, none⟩ = some (.int .i64 fst) ∧ w8.cell? ⟨w1.heap.size, 5, none⟩ = some (.slice ab fb.length cb) := ⟨X8.out.cell 0, X8.out.cell 1, X8.out.cell 2, X8.out.cell 3, X8.out.cell 4, X8.out.cell 5⟩
    rw [decide_eq_true (rfl : L1 = L1)]
    go_wp2_with fail
    refine (laws_equalStore _ _ L2 _ _ _ (HC2.out.below (by first | exact X8.out.below | (repeat (with_reducible first | exact Below.refl _ _ | assumption | refine ba ?_ _ | refine bd ?_ | refine bdN ?_ _ | refine bs ?_ (by first | exact Nat.le_refl _ | (dsimp only; omega) | (simp; done)) _ | refine bt ?_ (by assumption))))) (HC3.out.below (by first | exact X8.out.below | (repeat (with_reducible first | exact Below.refl _ _ | assumption | refine ba ?_ _ | refine bd ?_ | refine bdN ?_ _ | refine bs ?_ (by first | exact Nat.le_refl _ | (dsimp only; omega) | (simp; done)) _ | refine bt ?_ (by assumption)))))).mono ?_
    rintro _ w9 ⟨rfl, hb9⟩
    have X9 := Lib.hid (X8.out.step hb9)
    clear x0 x1 x2 x3 x4 x5
    obtain ⟨x0, x1, x2, x3, x4, x5⟩ : w9.cell? ⟨w1.heap.size, 0, none⟩ = some (.int .i64 fr) ∧ w9.cell? ⟨w1.heap.size, 1, none⟩ = some (.string (mk fp)) ∧ w9.cell? ⟨w1.heap.size, 2, none⟩ = some (.string (mk fn)) ∧ w9.cell? ⟨w1.heap.size, 3, none⟩ = some (.bool fi) ∧ w9.cell? ⟨w1.heap.size, 4, none⟩ = some (.int .i64 fst) ∧ w9.cell? ⟨w1.heap.size, 5, none⟩ = some (.slice ab fb.length cb) := ⟨X9.out.cell 0, X9.out.cell 1, X9.out.cell 2, X9.out.cell 3, X9.out.cell 4, X9.out.cell 5⟩
    go_wp2_with fail
    go_ret
    exact ⟨rfl, by have h := X9.out.below; have h1 := Hb1.out; exact h1.trans (h.mono h1.size)⟩
  by_cases hm2 : 2 < m
  · skip
    go_wp2_with fail
    refine (laws_equalBody _ _ L1 L1 _ _ _ (HB2.out.below (by first | exact X7.out.below | (repeat (with_reducible first | exact Below.refl _ _ | assumption | refine ba ?_ _ | refine bd ?_ | refine bdN ?_ _ | refine bs ?_ (by first | exact Nat.le_refl _ | (dsimp only; omega) | (simp; done)) _ | refine bt ?_ (by assumption))))) (HB3.out.below (by first | exact X7.out.below | (repeat (with_reducible first | exact Below.refl _ _ | assumption | refine ba ?_ _ | refine bd ?_ | refine bdN ?_ _ | refine bs ?_ (by first | exact Nat.le_refl _ | (dsimp only; omega) | (simp; done)) _ | refine bt ?_ (by assumption)))))).mono ?_
    rintro _ w8 ⟨rfl, hb8⟩
    have X8 := Lib.hid (X7.out.step hb8)
    clear x0 x1 x2 x3 x4 x5
    obtain ⟨x0, x1, x2, x3, x4, x5⟩ : w8.cell? ⟨w1.heap.size, 0, none⟩ = some (.int .i64 fr) ∧ w8.cell? ⟨w1.heap.size, 1, none⟩ = some (.string (mk fp)) ∧ w8.cell? ⟨w1.heap.size, 2, none⟩ = some (.string (mk fn)) ∧ w8.cell? ⟨w1.heap.size, 3, none⟩ = some (.bool fi) ∧ w8.cell? ⟨w1.heap.size, 4, none⟩ = some (.int .i64 fst) ∧ w8.cell? ⟨w1.heap.size, 5, none⟩ = some (.slice ab fb.length cb) := ⟨X8.out.cell 0, X8.out.cell 1, X8.out.cell 2, X8.out.cell 3, X8.out.cell 4, X8.out.cell 5⟩
    rw [decide_eq_true (rfl : L1 = L1)]
    go_wp2_with fail
    refine (laws_equalStore _ _ L2 _ _ _ (HC2.out.below (by first | exact X8.out.below | (repeat (with_reducible first | exact Below.refl _ _ | assumption | refine ba ?_ _ | refine bd ?_ | refine bdN ?_ _ | refine bs ?_ (by first | exact Nat.le_refl _ | (dsimp only; omega) | (simp; done)) _ | refine bt ?_ (by assumption))))) (HC3.out.below (by first | exact X8.out.below | (repeat (with_reducible first | exact Below.refl _ _ | assumption | refine ba ?_ _ | refine bd ?_ | refine bdN ?_ _ | refine bs ?_ (by first | exact Nat.le_refl _ | (dsimp only; omega) | (simp; done)) _ | refine bt ?_ (by assumption)))))).mono ?_
    rintro _ w9 ⟨rfl, hb9⟩
    have X9 := Lib.hid (X8.out.step hb9)
    clear x0 x1 x2 x3 x4 x5
    obtain ⟨x0, x1, x2, x3, x4, x5⟩ : w9.cell? ⟨w1.heap.size, 0, none⟩ = some (.int .i64 fr) ∧ w9.cell? ⟨w1.heap.size, 1, none⟩ = some (.string (mk fp)) ∧ w9.cell? ⟨w1.heap.size, 2, none⟩ = some (.string (mk fn)) ∧ w9.cell? ⟨w1.heap.size, 3, none⟩ = some (.bool fi) ∧ w9.cell? ⟨w1.heap.size, 4, none⟩ = some (.int .i64 fst) ∧ w9.cell? ⟨w1.heap.size, 5, none⟩ = some (.slice ab fb.length cb) := ⟨X9.out.cell 0, X9.out.cell 1, X9.out.cell 2, X9.out.cell 3, X9.out.cell 4, X9.out.cell 5⟩
    go_wp2_with fail
    go_ret
    exact ⟨rfl, by have h := X9.out.below; have h1 := Hb1.out; exact h1.trans (h.mono h1.size)⟩
  have Hin := Lib.hid (show inr m 0 2 = true by unfold inr; simp; omega)
  have hfa := loadB_facts (cs := cs) (f := ⟨fr, fp, fn, fi, fst, fb⟩) (mode := m) Hs.out Hf.out Hin.out
  rw [← HL.out] at hfa
  obtain ⟨hok, hge, hy, hn'⟩ := hfa
  dsimp only at hok hge hy hn'
  have Hok := Lib.hid hok
  have HSL := Lib.hid (shortCs_mono (B := 2000000) (by omega) (okStore_short hok).1)
  clear hok
  cases had
  · have hbe : L1 = fb := hn' rfl
    rw [hbe] at HB2 ⊢
    clear hy hn' hbe
    go_wp2_with fail
    refine (impl_ValidStore _ L2 _ _ (HC2.out.below (by first | exact X7.out.below | (repeat (with_reducible first | exact Below.refl _ _ | assumption | refine ba ?_ _ | refine bd ?_ | refine bdN ?_ _ | refine bs ?_ (by first | exact Nat.le_refl _ | (dsimp only; omega) | (simp; done)) _ | refine bt ?_ (by assumption))))) HSL.out).mono ?_
    rintro _ w8 ⟨rfl, hb8⟩
    have X8 := Lib.hid (X7.out.step hb8)
    clear x0 x1 x2 x3 x4 x5
    obtain ⟨x0, x1, x2, x3, x4, x5⟩ : w8.cell? ⟨w1.heap.size, 0, none⟩ = some (.int .i64 fr) ∧ w8.cell? ⟨w1.heap.size, 1, none⟩ = some (.string (mk fp)) ∧ w8.cell? ⟨w1.heap.size, 2, none⟩ = some (.string (mk fn)) ∧ w8.cell? ⟨w1.heap.size, 3, none⟩ = some (.bool fi) ∧ w8.cell? ⟨w1.heap.size, 4, none⟩ = some (.int .i64 fst) ∧ w8.cell? ⟨w1.heap.size, 5, none⟩ = some (.slice ab fb.length cb) := ⟨X8.out.cell 0, X8.out.cell 1, X8.out.cell 2, X8.out.cell 3, X8.out.cell 4, X8.out.cell 5⟩
    rw [Hok.out]
    go_wp2_with fail
    refine (laws_equalBody _ _ fb fb _ _ _ (HB2.out.below (by first | exact X8.out.below | (repeat (with_reducible first | exact Below.refl _ _ | assumption | refine ba ?_ _ | refine bd ?_ | refine bdN ?_ _ | refine bs ?_ (by first | exact Nat.le_refl _ | (dsimp only; omega) | (simp; done)) _ | refine bt ?_ (by assumption))))) (HBi.out.below (by first | exact X8.out.below | (repeat (with_reducible first | exact Below.refl _ _ | assumption | refine ba ?_ _ | refine bd ?_ | refine bdN ?_ _ | refine bs ?_ (by first | exact Nat.le_refl _ | (dsimp only; omega) | (simp; done)) _ | refine bt ?_ (by assumption)))))).mono ?_
    rintro _ w9 ⟨rfl, hb9⟩
    have X9 := Lib.hid (X8.out.step hb9)
    clear x0 x1 x2 x3 x4 x5
    obtain ⟨x0, x1, x2, x3, x4, x5⟩ : w9.cell? ⟨w1.heap.size, 0, none⟩ = some (.int .i64 fr) ∧ w9.cell? ⟨w1.heap.size, 1, none⟩ = some (.string (mk fp)) ∧ w9.cell? ⟨w1.heap.size, 2, none⟩ = some (.string (mk fn)) ∧ w9.cell? ⟨w1.heap.size, 3, none⟩ = some (.bool fi) ∧ w9.cell? ⟨w1.heap.size, 4, none⟩ = some (.int .i64 fst) ∧ w9.cell? ⟨w1.heap.size, 5, none⟩ = some (.slice ab fb.length cb) := ⟨X9.out.cell 0, X9.out.cell 1, X9.out.cell 2, X9.out.cell 3, X9.out.cell 4, X9.out.cell 5⟩
    rw [decide_eq_true (rfl : fb = fb)]
    go_wp2_with fail
    go_ret
    exact ⟨rfl, by have h := X9.out.below; have h1 := Hb1.out; exact h1.trans (h.mono h1.size)⟩
  · have hse : L2 = cs := hy rfl
    rw [hse] at HC2 HSL Hok ⊢
    clear hy hn' hse hge
    go_wp2_with fail
    refine (impl_ValidStore _ cs _ _ (HC2.out.below (by first | exact X7.out.below | (repeat (with_reducible first | exact Below.refl _ _ | assumption | refine ba ?_ _ | refine bd ?_ | refine bdN ?_ _ | refine bs ?_ (by first | exact Nat.le_refl _ | (dsimp only; omega) | (simp; done)) _ | refine bt ?_ (by assumption))))) HSL.out).mono ?_
    rintro _ w8 ⟨rfl, hb8⟩
    have X8 := Lib.hid (X7.out.step hb8)
    clear x0 x1 x2 x3 x4 x5
    obtain ⟨x0, x1, x2, x3, x4, x5⟩ : w8.cell? ⟨w1.heap.size, 0, none⟩ = some (.int .i64 fr) ∧ w8.cell? ⟨w1.heap.size, 1, none⟩ = some (.string (mk fp)) ∧ w8.cell? ⟨w1.heap.size, 2, none⟩ = some (.string (mk fn)) ∧ w8.cell? ⟨w1.heap.size, 3, none⟩ = some (.bool fi) ∧ w8.cell? ⟨w1.heap.size, 4, none⟩ = some (.int .i64 fst) ∧ w8.cell? ⟨w1.heap.size, 5, none⟩ = some (.slice ab fb.length cb) := ⟨X8.out.cell 0, X8.out.cell 1, X8.out.cell 2, X8.out.cell 3, X8.out.cell 4, X8.out.cell 5⟩
    rw [Hok.out]
    go_wp2_with fail
    refine (laws_equalStore _ _ cs _ _ _ (HC2.out.below (by first | exact X8.out.below | (repeat (with_reducible first | exact Below.refl _ _ | assumption | refine ba ?_ _ | refine bd ?_ | refine bdN ?_ _ | refine bs ?_ (by first | exact Nat.le_refl _ | (dsimp only; omega) | (simp; done)) _ | refine bt ?_ (by assumption))))) (HC.out.below (by first | exact X8.out.below | (repeat (with_reducible first | exact Below.refl _ _ | assumption | refine ba ?_ _ | refine bd ?_ | refine bdN ?_ _ | refine bs ?_ (by first | exact Nat.le_refl _ | (dsimp only; omega) | (simp; done)) _ | refine bt ?_ (by assumption)))))).mono ?_
    rintro _ w9 ⟨rfl, hb9⟩
    have X9 := Lib.hid (X8.out.step hb9)
    clear x0 x1 x2 x3 x4 x5
    obtain ⟨x0, x1, x2, x3, x4, x5⟩ : w9.cell? ⟨w1.heap.size, 0, none⟩ = some (.int .i64 fr) ∧ w9.cell? ⟨w1.heap.size, 1, none⟩ = some (.string (mk fp)) ∧ w9.cell? ⟨w1.heap.size, 2, none⟩ = some (.string (mk fn)) ∧ w9.cell? ⟨w1.heap.size, 3, none⟩ = some (.bool fi) ∧ w9.cell? ⟨w1.heap.size, 4, none⟩ = some (.int .i64 fst) ∧ w9.cell? ⟨w1.heap.size, 5, none⟩ = some (.slice ab fb.length cb) := ⟨X9.out.cell 0, X9.out.cell 1, X9.out.cell 2, X9.out.cell 3, X9.out.cell 4, X9.out.cell 5⟩
    go_wp2_with fail
    go_ret
    exact ⟨rfl, by have h := X9.out.below; have h1 := Hb1.out; exact h1.trans (h.mono h1.size)⟩

/-! ### THE STEP TO THE ROW -/
set_option maxRecDepth 100000 in
theorem lifted (os : Os) (started : os.Started) (H : Type) (enc : TypeId × Value → H) :
    ReturnsInHanded {} Try.checked os 7 .any (Rows.fnLoadBodySpec.pre6 enc Try.prog Try.f7 Rows.fnLoadBodyRow.domain false) (Rows.fnLoadBodySpec.post enc Try.prog Try.f7 false true false false) := by
  refine returnsInHanded_of_change (C := Try.checked) own started (by kernel_rfl) Try.func7
    (ChangeSpec.witness6 (enc := enc) (C := Try.checked) false ⟨#[], #[.slice none 0 0], []⟩ 8 (by kernel_rfl) (by kernel_rfl) (by kernel_rfl) (by kernel_rfl)) ?_
  intro W base args ds gs before hval0 hW hcnd _
  have hval : ∀ (j : Nat) t v, Try.f7.params[j]? = some t → args[j]? = some v → Value.okWide Try.prog W .any base t v := hval0
  have hW' := hW
  obtain ⟨p, q, hA0, hV, rfl, hfz, hnd⟩ := hW
  have hA : DataW.TrodAll enc Try.prog W 0 (fun _ => true) true Try.f7.params.toList args.toList ds p := hA0
  rw [Try.params7] at hA hval
  obtain ⟨v0, vs0, d0, ds0, p0, q0, hargs, rfl, rfl, h0, r0⟩ := trodAll_cons hA
  obtain ⟨rfl, rfl, rfl⟩ := trodAll_nil r0
  obtain rfl : args = #[v0] := by cases args; simp_all
  obtain ⟨rfl, rfl⟩ := trodVars_none hV
  obtain ⟨a0, len0, cap0, rfl⟩ := okWide_slice Try.underlying47 (hval 0 47 v0 rfl rfl)
  have k0 := h0
  have lt0 : ∀ x ∈ p0, x.block < W.heap.size := by obtain ⟨m, hm⟩ := k0; exact DataW.trod_lt m _ _ _ hm
  have w0 : Code W W.heap.size a0 len0 cap0 := by
    obtain ⟨fuel, hf⟩ := h0
    rcases open_ints Try.underlying47 Try.underlying5 (by kernel_rfl) hf with ⟨hcs, _⟩ | ⟨x, l, c, zs, hcs, _, hl, hm, hz, _, hcell, hwz⟩
    · simp [Value.cells] at hcs
      obtain ⟨rfl, rfl, rfl⟩ := hcs
      exact .inl ⟨rfl, by unfold maxLen; omega⟩
    · simp [Value.cells] at hcs
      obtain ⟨rfl, rfl, rfl⟩ := hcs
      exact code_row W _ _ _ zs hl hm (by simpa using hz) hcell hwz
  clear hA0 hval0
  refine (walk a0 len0 cap0 W w0).mono fun e W' ⟨he, bel⟩ => ?_
  subst he
  exact ⟨_, rfl, _, _, _, [], _, [], hW', trodAll_mk1 (shut_bool Try.underlying4 _), (trodAll_cons_mk (Below.trod laidOut (by kernel_rfl) (of_decide_eq_true (by kernel_rfl)) k0 bel lt0) trodAll_mk0), rfl, bel.frame _, fun h => by cases h⟩

theorem over : Rows.fnLoadBodyRow.holds Try.pinned (OpenSpec.ofChange Rows.fnLoadBodySpec) :=
  OpenClaim.holds_of_wide 7 Try.f7 rfl rfl rfl rfl rfl rfl rfl ⟨rfl, rfl, rfl, rfl, rfl⟩ rfl rfl rfl rfl rfl (by kernel_rfl) Try.func7 (by kernel_rfl)
    (of_decide_eq_true (by kernel_rfl)) (by unfold Func.isWrapper; first | (rw [if_pos (by decide +kernel)]; kernel_rfl) | (rw [if_neg (by decide +kernel)]; exact ⟨rfl, rfl⟩))
    (fun os started H enc _ => lifted os started H enc)

/-- THE STATEMENT -/
theorem proved : Rows.FnLoadBodySaid := over
end Go.Proofs.Ytomdmkhgkaalnaa.FnLoadBody
