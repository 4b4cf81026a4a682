/- FnLoadBodyHash returns true for every code. Written by mkload.py. -/
import Derived.Test.YtomdmkhgkaalnaaPlainX
import Derived.Test.YtomdmkhgkaalnaaHash
import Derived.Test.YtomdmkhgkaalnaaSizes
import Derived.BigQuiet
import Derived.Lib.QuietBelow
import Derived.Test.YtomdmkhgkaalnaaDrawL
import Derived.Test.YtomdmkhgkaalnaaLoad
import Derived.Test.YtomdmkhgkaalnaaEqCmp
import Derived.Test.YtomdmkhgkaalnaaStores
import Derived.Test.YtomdmkhgkaalnaaStmts
import Derived.Test.YtomdmkhgkaalnaaFrame
set_option linter.unusedVariables false
set_option linter.unusedSimpArgs false
namespace Go.Proofs.Ytomdmkhgkaalnaa.FnLoadBodyHash
open Go.Sort Go.ChangeShapes Go.WideShapes Go.ChangeAt Go.RowKit Go.Proofs.Ytomdmkhgkaalnaa.Nm

set_option maxRecDepth 100000 in
set_option maxHeartbeats 16000000 in
theorem walk (a : Option Addr) (n cap : Nat) (w : World) (hc : Code w w.heap.size a n cap) :
    Calls Try.prog 9 #[.slice a n cap] w fun e w' => e = .returned (.bool true) ∧ Below w.heap.size w w' := by
  by_cases hn : (1048576 : Int) < (n : Int)
  · go_enter Try.func9, Try.ntmps9
    go_wp2_with fail
    go_ret
    exact ⟨rfl, Below.refl _ _⟩
  have Hc := Lib.hid hc
  clear hc
  go_enter Try.func9, Try.ntmps9
  go_wp2_with fail
  refine (spec_DrawLoadBody a n cap w Hc.out).mono ?_
  rintro e w1 ⟨lv, qs, ⟨fr, fp, fn, fi, fst, fb⟩, bv, m, rfl, ⟨hrows, hfine, hl11⟩, hbody, hsf, hl4, hb1⟩
  unfold filV
  dsimp only at hbody hl4 ⊢
  obtain ⟨la, lc, rfl⟩ := hrows.len
  obtain ⟨ab, cb, rfl⟩ := owns_shape hbody
  obtain ⟨cs, hcs⟩ : ∃ cs, cs = qs.map (·.1) := ⟨_, rfl⟩
  have hlen : qs.length = cs.length := by rw [hcs, List.length_map]
  have Hps := Lib.hid hcs.symm
  have HQ := Lib.hid hrows
  have HC := Lib.hid (show CmpsIn w1 (fun _ => True) (.slice la qs.length lc) cs by rw [hcs]; exact hrows.fils (fun _ _ => trivial))
  have HS1 := Lib.hid (show ShortCs 1048576 cs from fun c hc => by rw [hcs] at hc; obtain ⟨p, hp, rfl⟩ := List.mem_map.1 hc; exact shortC_mono (by omega) (hfine p hp).1)
  have HS2 := Lib.hid (shortCs_mono (B := 2000000) (by omega) HS1.out)
  have HCo := Lib.hid (show cmpsCost' cs from ⟨by omega, fun c hc => by rw [hcs] at hc; obtain ⟨p, hp, rfl⟩ := List.mem_map.1 hc; have := (hfine p hp).2.1; omega⟩)
  have HB := Lib.hid hbody
  have HBi := Lib.hid (show StmsIn w1 (fun _ => True) (.slice ab fb.length cb) fb from StmsIn.of_owns hbody (fun _ _ => trivial))
  have HZf := Lib.hid (shortF_mono (B := 1048576) (by omega) hsf)
  have HZb := Lib.hid (short_mono (B := 8000000) (by omega) hsf.2.2)
  have hfp : fp.length ≤ 8000000 := by have := hsf.1; dsimp only at this; omega
  have hfn : fn.length ≤ 8000000 := by have := hsf.2.1; dsimp only at this; omega
  have hfl : fb.length ≤ 1048576 := by omega
  have Hb1 := Lib.hid hb1
  rw [hlen] at HQ HC ⊢
  clear hrows hfine hbody hsf hb1 hcs hlen hl11
  obtain ⟨⟨L1, L2, had⟩, hL⟩ : ∃ t, t = loadB cs ⟨fr, fp, fn, fi, fst, fb⟩ m := ⟨_, rfl⟩
  have HL := Lib.hid hL
  have HI := Lib.hid (fun (W : World) (hb : Below w1.heap.size w1 W) => (show Calls Try.prog 40 #[.slice la cs.length lc, .agg #[.int .i64 fr, .string (mk fp), .string (mk fn), .bool fi, .int .i64 fst, .slice ab fb.length cb], .int .i64 m] W (NewLoadX L1 L2 had W) by
    have h := impl_LoadBodyX _ cs qs fr fst fp fn fi _ fb m _ _ W (HQ.out.below hb) Hps.out HS1.out HCo.out (owns_below HB.out hb) HZf.out hfl
    rw [← hL] at h; exact h))
  have HS := Lib.hid (fun (W : World) (hb : Below w1.heap.size w1 W) => (show Calls Try.prog 41 #[.slice la cs.length lc, .agg #[.int .i64 fr, .string (mk fp), .string (mk fn), .bool fi, .int .i64 fst, .slice ab fb.length cb], .int .i64 m] W (NewLoadX L1 L2 had W) by
    have h := spec_LoadBodyX _ cs qs fr fst fp fn fi _ fb m _ _ W (HQ.out.below hb) Hps.out HS1.out HCo.out (owns_below HB.out hb) HZf.out hfl
    rw [← hL] at h; exact h))
  have HMo := Lib.hid (fun (W : World) (hb : Below w1.heap.size w1 W) => impl_ModuleOf fr fst fp fn fi _ fb _ W hfp hfn (HBi.out.below hb) HZb.out)
  have X1 := Lib.hid (Boxed.start w1 #[.int .i64 fr, .string (mk fp), .string (mk fn), .bool fi, .int .i64 fst, .slice ab fb.length cb] 55)
  clear hL
  go_wp2_with fail
  refine (HI.out _ (by (repeat (with_reducible first | exact Below.refl _ _ | assumption | refine ba ?_ _ | refine bd ?_ | refine bdN ?_ _ | refine bs ?_ (by first | exact Nat.le_refl _ | (dsimp only; omega) | (simp; done)) _ | refine bt ?_ (by assumption))))).mono ?_
  rintro _ w2 ⟨b2, s2, r2, rfl, o2, m2, c2, _, hb2⟩
  have X2 := Lib.hid (X1.out.step hb2)
  obtain ⟨x0, x1, x2, x3, x4, x5⟩ : w2.cell? ⟨w1.heap.size, 0, none⟩ = some (.int .i64 fr) ∧ w2.cell? ⟨w1.heap.size, 1, none⟩ = some (.string (mk fp)) ∧ w2.cell? ⟨w1.heap.size, 2, none⟩ = some (.string (mk fn)) ∧ w2.cell? ⟨w1.heap.size, 3, none⟩ = some (.bool fi) ∧ w2.cell? ⟨w1.heap.size, 4, none⟩ = some (.int .i64 fst) ∧ w2.cell? ⟨w1.heap.size, 5, none⟩ = some (.slice ab fb.length cb) := ⟨X2.out.cell 0, X2.out.cell 1, X2.out.cell 2, X2.out.cell 3, X2.out.cell 4, X2.out.cell 5⟩
  obtain ⟨b2a, b2c, rfl⟩ := owns_shape o2
  obtain ⟨s2a, s2c, rfl⟩ := c2.len
  have hr2 : r2.length = L2.length := by rw [← m2, List.length_map]
  have HB2 := Lib.hid (show StmsIn w2 (fun _ => True) (.slice b2a L1.length b2c) L1 from StmsIn.of_owns o2 (fun _ _ => trivial))
  have HC2 := Lib.hid (show CmpsIn w2 (fun _ => True) (.slice s2a L2.length s2c) L2 by have h := c2.fils (D := fun _ => True) (fun _ _ => trivial); rw [m2, hr2] at h; exact h)
  have HQ2 := Lib.hid (show RowsC8 w2 _ (.slice s2a L2.length s2c) r2 by have h := c2.rows; rw [hr2] at h; exact h)
  have Hm2 := Lib.hid m2
  rw [hr2]
  clear o2 c2 m2 hr2
  go_wp2_with fail
  refine (HS.out _ (by first | exact X2.out.below | (repeat (with_reducible first | exact Below.refl _ _ | assumption | refine ba ?_ _ | refine bd ?_ | refine bdN ?_ _ | refine bs ?_ (by first | exact Nat.le_refl _ | (dsimp only; omega) | (simp; done)) _ | refine bt ?_ (by assumption))))).mono ?_
  rintro _ w3 ⟨b3, s3, r3, rfl, o3, m3, c3, _, hb3⟩
  have X3 := Lib.hid (X2.out.step hb3)
  clear x0 x1 x2 x3 x4 x5
  obtain ⟨x0, x1, x2, x3, x4, x5⟩ : w3.cell? ⟨w1.heap.size, 0, none⟩ = some (.int .i64 fr) ∧ w3.cell? ⟨w1.heap.size, 1, none⟩ = some (.string (mk fp)) ∧ w3.cell? ⟨w1.heap.size, 2, none⟩ = some (.string (mk fn)) ∧ w3.cell? ⟨w1.heap.size, 3, none⟩ = some (.bool fi) ∧ w3.cell? ⟨w1.heap.size, 4, none⟩ = some (.int .i64 fst) ∧ w3.cell? ⟨w1.heap.size, 5, none⟩ = some (.slice ab fb.length cb) := ⟨X3.out.cell 0, X3.out.cell 1, X3.out.cell 2, X3.out.cell 3, X3.out.cell 4, X3.out.cell 5⟩
  obtain ⟨b3a, b3c, rfl⟩ := owns_shape o3
  obtain ⟨s3a, s3c, rfl⟩ := c3.len
  have hr3 : r3.length = L2.length := by rw [← m3, List.length_map]
  have HB3 := Lib.hid (show StmsIn w3 (fun _ => True) (.slice b3a L1.length b3c) L1 from StmsIn.of_owns o3 (fun _ _ => trivial))
  have HC3 := Lib.hid (show CmpsIn w3 (fun _ => True) (.slice s3a L2.length s3c) L2 by have h := c3.fils (D := fun _ => True) (fun _ _ => trivial); rw [m3, hr3] at h; exact h)
  have HQ3 := Lib.hid (show RowsC8 w3 _ (.slice s3a L2.length s3c) r3 by have h := c3.rows; rw [hr3] at h; exact h)
  have Hm3 := Lib.hid m3
  rw [hr3]
  clear o3 c3 m3 hr3
  go_wp2_with fail
  refine (laws_equalBody _ _ L1 L1 _ _ _ (HB2.out.below (by first | exact X3.out.below | (repeat (with_reducible first | exact Below.refl _ _ | assumption | refine ba ?_ _ | refine bd ?_ | refine bdN ?_ _ | refine bs ?_ (by first | exact Nat.le_refl _ | (dsimp only; omega) | (simp; done)) _ | refine bt ?_ (by assumption))))) (HB3.out.below (by first | exact X3.out.below | (repeat (with_reducible first | exact Below.refl _ _ | assumption | refine ba ?_ _ | refine bd ?_ | refine bdN ?_ _ | refine bs ?_ (by first | exact Nat.le_refl _ | (dsimp only; omega) | (simp; done)) _ | refine bt ?_ (by assumption)))))).mono ?_
  rintro _ w4 ⟨rfl, hb4⟩
  have X4 := Lib.hid (X3.out.step hb4)
  clear x0 x1 x2 x3 x4 x5
  obtain ⟨x0, x1, x2, x3, x4, x5⟩ : w4.cell? ⟨w1.heap.size, 0, none⟩ = some (.int .i64 fr) ∧ w4.cell? ⟨w1.heap.size, 1, none⟩ = some (.string (mk fp)) ∧ w4.cell? ⟨w1.heap.size, 2, none⟩ = some (.string (mk fn)) ∧ w4.cell? ⟨w1.heap.size, 3, none⟩ = some (.bool fi) ∧ w4.cell? ⟨w1.heap.size, 4, none⟩ = some (.int .i64 fst) ∧ w4.cell? ⟨w1.heap.size, 5, none⟩ = some (.slice ab fb.length cb) := ⟨X4.out.cell 0, X4.out.cell 1, X4.out.cell 2, X4.out.cell 3, X4.out.cell 4, X4.out.cell 5⟩
  rw [decide_eq_true (rfl : L1 = L1)]
  go_wp2_with fail
  refine (laws_equalStore _ _ L2 _ _ _ (HC2.out.below (by first | exact X4.out.below | (repeat (with_reducible first | exact Below.refl _ _ | assumption | refine ba ?_ _ | refine bd ?_ | refine bdN ?_ _ | refine bs ?_ (by first | exact Nat.le_refl _ | (dsimp only; omega) | (simp; done)) _ | refine bt ?_ (by assumption))))) (HC3.out.below (by first | exact X4.out.below | (repeat (with_reducible first | exact Below.refl _ _ | assumption | refine ba ?_ _ | refine bd ?_ | refine bdN ?_ _ | refine bs ?_ (by first | exact Nat.le_refl _ | (dsimp only; omega) | (simp; done)) _ | refine bt ?_ (by assumption)))))).mono ?_
  rintro _ w5 ⟨rfl, hb5⟩
  have X5 := Lib.hid (X4.out.step hb5)
  clear x0 x1 x2 x3 x4 x5
  obtain ⟨x0, x1, x2, x3, x4, x5⟩ : w5.cell? ⟨w1.heap.size, 0, none⟩ = some (.int .i64 fr) ∧ w5.cell? ⟨w1.heap.size, 1, none⟩ = some (.string (mk fp)) ∧ w5.cell? ⟨w1.heap.size, 2, none⟩ = some (.string (mk fn)) ∧ w5.cell? ⟨w1.heap.size, 3, none⟩ = some (.bool fi) ∧ w5.cell? ⟨w1.heap.size, 4, none⟩ = some (.int .i64 fst) ∧ w5.cell? ⟨w1.heap.size, 5, none⟩ = some (.slice ab fb.length cb) := ⟨X5.out.cell 0, X5.out.cell 1, X5.out.cell 2, X5.out.cell 3, X5.out.cell 4, X5.out.cell 5⟩
  cases hs : okStore cs
  · have Hs := Lib.hid hs
    clear hs
    go_wp2_with fail
    refine (impl_ValidStore _ cs _ _ (HC.out.below (by first | exact X5.out.below | (repeat (with_reducible first | exact Below.refl _ _ | assumption | refine ba ?_ _ | refine bd ?_ | refine bdN ?_ _ | refine bs ?_ (by first | exact Nat.le_refl _ | (dsimp only; omega) | (simp; done)) _ | refine bt ?_ (by assumption))))) HS2.out).mono ?_
    rintro _ w6 ⟨rfl, hb6⟩
    have X6 := Lib.hid (X5.out.step hb6)
    clear x0 x1 x2 x3 x4 x5
    obtain ⟨x0, x1, x2, x3, x4, x5⟩ : w6.cell? ⟨w1.heap.size, 0, none⟩ = some (.int .i64 fr) ∧ w6.cell? ⟨w1.heap.size, 1, none⟩ = some (.string (mk fp)) ∧ w6.cell? ⟨w1.heap.size, 2, none⟩ = some (.string (mk fn)) ∧ w6.cell? ⟨w1.heap.size, 3, none⟩ = some (.bool fi) ∧ w6.cell? ⟨w1.heap.size, 4, none⟩ = some (.int .i64 fst) ∧ w6.cell? ⟨w1.heap.size, 5, none⟩ = some (.slice ab fb.length cb) := ⟨X6.out.cell 0, X6.out.cell 1, X6.out.cell 2, X6.out.cell 3, X6.out.cell 4, X6.out.cell 5⟩
    rw [Hs.out]
    go_wp2_with fail
    refine (laws_equalBody _ _ L1 L1 _ _ _ (HB2.out.below (by first | exact X6.out.below | (repeat (with_reducible first | exact Below.refl _ _ | assumption | refine ba ?_ _ | refine bd ?_ | refine bdN ?_ _ | refine bs ?_ (by first | exact Nat.le_refl _ | (dsimp only; omega) | (simp; done)) _ | refine bt ?_ (by assumption))))) (HB3.out.below (by first | exact X6.out.below | (repeat (with_reducible first | exact Below.refl _ _ | assumption | refine ba ?_ _ | refine bd ?_ | refine bdN ?_ _ | refine bs ?_ (by first | exact Nat.le_refl _ | (dsimp only; omega) | (simp; done)) _ | refine bt ?_ (by assumption)))))).mono ?_
    rintro _ w7 ⟨rfl, hb7⟩
    have X7 := Lib.hid (X6.out.step hb7)
    clear x0 x1 x2 x3 x4 x5
    obtain ⟨x0, x1, x2, x3, x4, x5⟩ : w7.cell? ⟨w1.heap.size, 0, none⟩ = some (.int .i64 fr) ∧ w7.cell? ⟨w1.heap.size, 1, none⟩ = some (.string (mk fp)) ∧ w7.cell? ⟨w1.heap.size, 2, none⟩ = some (.string (mk fn)) ∧ w7.cell? ⟨w1.heap.size, 3, none⟩ = some (.bool fi) ∧ w7.cell? ⟨w1.heap.size, 4, none⟩ = some (.int .i64 fst) ∧ w7.cell? ⟨w1.heap.size, 5, none⟩ = some (.slice ab fb.length cb) := ⟨X7.out.cell 0, X7.out.cell 1, X7.out.cell 2, X7.out.cell 3, X7.out.cell 4, X7.out.cell 5⟩
    rw [decide_eq_true (rfl : L1 = L1)]
    go_wp2_with fail
    refine (laws_equalStore _ _ L2 _ _ _ (HC2.out.below (by first | exact X7.out.below | (repeat (with_reducible first | exact Below.refl _ _ | assumption | refine ba ?_ _ | refine bd ?_ | refine bdN ?_ _ | refine bs ?_ (by first | exact Nat.le_refl _ | (dsimp only; omega) | (simp; done)) _ | refine bt ?_ (by assumption))))) (HC3.out.below (by first | exact X7.out.below | (repeat (with_reducible first | exact Below.refl _ _ | assumption | refine ba ?_ _ | refine bd ?_ | refine bdN ?_ _ | refine bs ?_ (by first | exact Nat.le_refl _ | (dsimp only; omega) | (simp; done)) _ | refine bt ?_ (by assumption)))))).mono ?_
    rintro _ w8 ⟨rfl, hb8⟩
    have X8 := Lib.hid (X7.out.step hb8)
    clear x0 x1 x2 x3 x4 x5
    obtain ⟨x0, x1, x2, x3, x4, x5⟩ : w8.cell? ⟨w1.heap.size, 0, none⟩ = some (.int .i64 fr) ∧ w8.cell? ⟨w1.heap.size, 1, none⟩ = some (.string (mk fp)) ∧ w8.cell? ⟨w1.heap.size, 2, none⟩ = some (.string (mk fn)) ∧ w8.cell? ⟨w1.heap.size, 3, none⟩ = some (.bool fi) ∧ w8.cell? ⟨w1.heap.size, 4, none⟩ = some (.int .i64 fst) ∧ w8.cell? ⟨w1.heap.size, 5, none⟩ = some (.slice ab fb.length cb) := ⟨X8.out.cell 0, X8.out.cell 1, X8.out.cell 2, X8.out.cell 3, X8.out.cell 4, X8.out.cell 5⟩
    go_wp2_with fail
    go_ret
    exact ⟨rfl, by have h := X8.out.below; have h1 := Hb1.out; exact h1.trans (h.mono h1.size)⟩
  have Hs := Lib.hid hs
  clear hs
  go_wp2_with fail
  refine (impl_ValidStore _ cs _ _ (HC.out.below (by first | exact X5.out.below | (repeat (with_reducible first | exact Below.refl _ _ | assumption | refine ba ?_ _ | refine bd ?_ | refine bdN ?_ _ | refine bs ?_ (by first | exact Nat.le_refl _ | (dsimp only; omega) | (simp; done)) _ | refine bt ?_ (by assumption))))) HS2.out).mono ?_
  rintro _ w6 ⟨rfl, hb6⟩
  have X6 := Lib.hid (X5.out.step hb6)
  clear x0 x1 x2 x3 x4 x5
  obtain ⟨x0, x1, x2, x3, x4, x5⟩ : w6.cell? ⟨w1.heap.size, 0, none⟩ = some (.int .i64 fr) ∧ w6.cell? ⟨w1.heap.size, 1, none⟩ = some (.string (mk fp)) ∧ w6.cell? ⟨w1.heap.size, 2, none⟩ = some (.string (mk fn)) ∧ w6.cell? ⟨w1.heap.size, 3, none⟩ = some (.bool fi) ∧ w6.cell? ⟨w1.heap.size, 4, none⟩ = some (.int .i64 fst) ∧ w6.cell? ⟨w1.heap.size, 5, none⟩ = some (.slice ab fb.length cb) := ⟨X6.out.cell 0, X6.out.cell 1, X6.out.cell 2, X6.out.cell 3, X6.out.cell 4, X6.out.cell 5⟩
  rw [Hs.out]
  cases hf : okFil ⟨fr, fp, fn, fi, fst, fb⟩
  · have Hf := Lib.hid hf
    clear hf
    go_wp2_with fail
    refine (HMo.out _ (by first | exact X6.out.below | (repeat (with_reducible first | exact Below.refl _ _ | assumption | refine ba ?_ _ | refine bd ?_ | refine bdN ?_ _ | refine bs ?_ (by first | exact Nat.le_refl _ | (dsimp only; omega) | (simp; done)) _ | refine bt ?_ (by assumption))))).mono ?_
    rintro _ w7 ⟨rfl, hb7⟩
    have X7 := Lib.hid (X6.out.step hb7)
    clear x0 x1 x2 x3 x4 x5
    obtain ⟨x0, x1, x2, x3, x4, x5⟩ : w7.cell? ⟨w1.heap.size, 0, none⟩ = some (.int .i64 fr) ∧ w7.cell? ⟨w1.heap.size, 1, none⟩ = some (.string (mk fp)) ∧ w7.cell? ⟨w1.heap.size, 2, none⟩ = some (.string (mk fn)) ∧ w7.cell? ⟨w1.heap.size, 3, none⟩ = some (.bool fi) ∧ w7.cell? ⟨w1.heap.size, 4, none⟩ = some (.int .i64 fst) ∧ w7.cell? ⟨w1.heap.size, 5, none⟩ = some (.slice ab fb.length cb) := ⟨X7.out.cell 0, X7.out.cell 1, X7.out.cell 2, X7.out.cell 3, X7.out.cell 4, X7.out.cell 5⟩
    rw [modOf_no Hf.out, show mk [] = (⟨#[]⟩ : ByteArray) from rfl]
    go_wp2_with fail
    refine (laws_equalBody _ _ L1 L1 _ _ _ (HB2.out.below (by first | exact X7.out.below | (repeat (with_reducible first | exact Below.refl _ _ | assumption | refine ba ?_ _ | refine bd ?_ | refine bdN ?_ _ | refine bs ?_ (by first | exact Nat.le_refl _ | (dsimp only; omega) | (simp; done)) _ | refine bt ?_ (by assumption))))) (HB3.out.below (by first | exact X7.out.below | (repeat (with_reducible first | exact Below.refl _ _ | assumption | refine ba ?_ _ | refine bd ?_ | refine bdN ?_ _ | refine bs ?_ (by first | exact Nat.le_refl _ | (dsimp only; omega) | (simp; done)) _ | refine bt ?_ (by assumption)))))).mono ?_
    rintro _ w8 ⟨rfl, hb8⟩
    have X8 := Lib.hid (X7.out.step hb8)
    clear x0 x1 x2 x3 x4 x5
    obtain ⟨x0, x1, x2, x3, x4, x5⟩ : w8.cell? ⟨w1.heap.size, 0, none⟩ = some (.int .i64 fr) ∧ w8.cell? ⟨w1.heap.size, 1, none⟩ = some (.string (mk fp)) ∧ w8.cell? ⟨w1.heap.size, 2, none⟩ = some (.string (mk fn)) ∧ w8.cell? ⟨w1.heap.size, 3, none⟩ = some (.bool fi) ∧ w8.cell? ⟨w1.heap.size, 4, none⟩ = some (.int .i64 fst) ∧ w8.cell? ⟨w1.heap.size, 5, none⟩ = some (.slice ab fb.length cb) := ⟨X8.out.cell 0, X8.out.cell 1, X8.out.cell 2, X8.out.cell 3, X8.out.cell 4, X8.out.cell 5⟩
    rw [decide_eq_true (rfl : L1 = L1)]
    go_wp2_with fail
    refine (laws_equalStore _ _ L2 _ _ _ (HC2.out.below (by first | exact X8.out.below | (repeat (with_reducible first | exact Below.refl _ _ | assumption | refine ba ?_ _ | refine bd ?_ | refine bdN ?_ _ | refine bs ?_ (by first | exact Nat.le_refl _ | (dsimp only; omega) | (simp; done)) _ | refine bt ?_ (by assumption))))) (HC3.out.below (by first | exact X8.out.below | (repeat (with_reducible first | exact Below.refl _ _ | assumption | refine ba ?_ _ | refine bd ?_ | refine bdN ?_ _ | refine bs ?_ (by first | exact Nat.le_refl _ | (dsimp only; omega) | (simp; done)) _ | refine bt ?_ (by assumption)))))).mono ?_
    rintro _ w9 ⟨rfl, hb9⟩
    have X9 := Lib.hid (X8.out.step hb9)
    clear x0 x1 x2 x3 x4 x5
    obtain ⟨x0, x1, x2, x3, x4, x5⟩ : w9.cell? ⟨w1.heap.size, 0, none⟩ = some (.int .i64 fr) ∧ w9.cell? ⟨w1.heap.size, 1, none⟩ = some (.string (mk fp)) ∧ w9.cell? ⟨w1.heap.size, 2, none⟩ = some (.string (mk fn)) ∧ w9.cell? ⟨w1.heap.size, 3, none⟩ = some (.bool fi) ∧ w9.cell? ⟨w1.heap.size, 4, none⟩ = some (.int .i64 fst) ∧ w9.cell? ⟨w1.heap.size, 5, none⟩ = some (.slice ab fb.length cb) := ⟨X9.out.cell 0, X9.out.cell 1, X9.out.cell 2, X9.out.cell 3, X9.out.cell 4, X9.out.cell 5⟩
    go_wp2_with fail
    go_ret
    exact ⟨rfl, by have h := X9.out.below; have h1 := Hb1.out; exact h1.trans (h.mono h1.size)⟩
  have Hf := Lib.hid hf
  clear hf
  go_wp2_with fail
  refine (HMo.out _ (by first | exact X6.out.below | (repeat (with_reducible first | exact Below.refl _ _ | assumption | refine ba ?_ _ | refine bd ?_ | refine bdN ?_ _ | refine bs ?_ (by first | exact Nat.le_refl _ | (dsimp only; omega) | (simp; done)) _ | refine bt ?_ (by assumption))))).mono ?_
  rintro _ w7 ⟨rfl, hb7⟩
  have X7 := Lib.hid (X6.out.step hb7)
  clear x0 x1 x2 x3 x4 x5
  obtain ⟨x0, x1, x2, x3, x4, x5⟩ : w7.cell? ⟨w1.heap.size, 0, none⟩ = some (.int .i64 fr) ∧ w7.cell? ⟨w1.heap.size, 1, none⟩ = some (.string (mk fp)) ∧ w7.cell? ⟨w1.heap.size, 2, none⟩ = some (.string (mk fn)) ∧ w7.cell? ⟨w1.heap.size, 3, none⟩ = some (.bool fi) ∧ w7.cell? ⟨w1.heap.size, 4, none⟩ = some (.int .i64 fst) ∧ w7.cell? ⟨w1.heap.size, 5, none⟩ = some (.slice ab fb.length cb) := ⟨X7.out.cell 0, X7.out.cell 1, X7.out.cell 2, X7.out.cell 3, X7.out.cell 4, X7.out.cell 5⟩
  have Hne := Lib.hid (modOf_ne Hf.out)
  obtain ⟨mo, hmo⟩ : ∃ mo, mo = modOf ⟨fr, fp, fn, fi, fst, fb⟩ := ⟨_, rfl⟩
  rw [← hmo] at Hne ⊢
  have Hmo := Lib.hid hmo
  clear hmo
  have hne1 : ¬ mk mo = (⟨#[]⟩ : ByteArray) := fun e => Hne.out (mk_inj (e.trans (show (⟨#[]⟩ : ByteArray) = mk [] from rfl)))
  have hne2 : (mo == []) = false := by rw [beq_eq_false_iff_ne]; exact Hne.out
  by_cases hm0 : m < 0
  · skip
    go_wp2_with fail
    refine (laws_equalBody _ _ L1 L1 _ _ _ (HB2.out.below (by first | exact X7.out.below | (repeat (with_reducible first | exact Below.refl _ _ | assumption | refine ba ?_ _ | refine bd ?_ | refine bdN ?_ _ | refine bs ?_ (by first | exact Nat.le_refl _ | (dsimp only; omega) | (simp; done)) _ | refine bt ?_ (by assumption))))) (HB3.out.below (by first | exact X7.out.below | (repeat (with_reducible first | exact Below.refl _ _ | assumption | refine ba ?_ _ | refine bd ?_ | refine bdN ?_ _ | refine bs ?_ (by first | exact Nat.le_refl _ | (dsimp only; omega) | (simp; done)) _ | refine bt ?_ (by assumption)))))).mono ?_
    rintro _ w8 ⟨rfl, hb8⟩
    have X8 := Lib.hid (X7.out.step hb8)
    clear x0 x1 x2 x3 x4 x5
    obtain ⟨x0, x1, x2, x3, x4, x5⟩ : w8.cell? ⟨w1.heap.size, 0, none⟩ = some (.int .i64 fr) ∧ w8.cell? ⟨w1.heap.size, 1, none⟩ = some (.string (mk fp)) ∧ w8.cell? ⟨w1.heap.size, 2, none⟩ = some (.string (mk fn)) ∧ w8.cell? ⟨w1.heap.size, 3, none⟩ = some (.bool fi) ∧ w8.cell? ⟨w1.heap.size, 4, none⟩ = some (.int .i64 fst) ∧ w8.cell? ⟨w1.heap.size, 5, none⟩ = some (.slice ab fb.length cb) := ⟨X8.out.cell 0, X8.out.cell 1, X8.out.cell 2, X8.out.cell 3, X8.out.cell 4, X8.out.cell 5⟩
    rw [decide_eq_true (rfl : L1 = L1)]
    go_wp2_with fail
    refine (laws_equalStore _ _ L2 _ _ _ (HC2.out.below (by first | exact X8.out.below | (repeat (with_reducible first | exact Below.refl _ _ | assumption | refine ba ?_ _ | refine bd ?_ | refine bdN ?_ _ | refine bs ?_ (by first | exact Nat.le_refl _ | (dsimp only; omega) | (simp; done)) _ | refine bt ?_ (by assumption))))) (HC3.out.below (by first | exact X8.out.below | (repeat (with_reducible first | exact Below.refl _ _ | assumption | refine ba ?_ _ | refine bd ?_ | refine bdN ?_ _ | refine bs ?_ (by first | exact Nat.le_refl _ | (dsimp only; omega) | (simp; done)) _ | refine bt ?_ (by assumption)))))).mono ?_
    rintro _ w9 ⟨rfl, hb9⟩
    have X9 := Lib.hid (X8.out.step hb9)
    clear x0 x1 x2 x3 x4 x5
    obtain ⟨x0, x1, x2, x3, x4, x5⟩ : w9.cell? ⟨w1.heap.size, 0, none⟩ = some (.int .i64 fr) ∧ w9.cell? ⟨w1.heap.size, 1, none⟩ = some (.string (mk fp)) ∧ w9.cell? ⟨w1.heap.size, 2, none⟩ = some (.string (mk fn)) ∧ w9.cell? ⟨w1.heap.size, 3, none⟩ = some (.bool fi) ∧ w9.cell? ⟨w1.heap.size, 4, none⟩ = some (.int .i64 fst) ∧ w9.cell? ⟨w1.heap.size, 5, none⟩ = some (.slice ab fb.length cb) := ⟨X9.out.cell 0, X9.out.cell 1, X9.out.cell 2, X9.out.cell 3, X9.out.cell 4, X9.out.cell 5⟩
    go_wp2_with fail
    go_ret
    exact ⟨rfl, by have h := X9.out.below; have h1 := Hb1.out; exact h1.trans (h.mono h1.size)⟩
  by_cases hm2 : 2 < m
  · skip
    go_wp2_with fail
    refine (laws_equalBody _ _ L1 L1 _ _ _ (HB2.out.below (by first | exact X7.out.below | (repeat (with_reducible first | exact Below.refl _ _ | assumption | refine ba ?_ _ | refine bd ?_ | refine bdN ?_ _ | refine bs ?_ (by first | exact Nat.le_refl _ | (dsimp only; omega) | (simp; done)) _ | refine bt ?_ (by assumption))))) (HB3.out.below (by first | exact X7.out.below | (repeat (with_reducible first | exact Below.refl _ _ | assumption | refine ba ?_ _ | refine bd ?_ | refine bdN ?_ _ | refine bs ?_ (by first | exact Nat.le_refl _ | (dsimp only; omega) | (simp; done)) _ | refine bt ?_ (by assumption)))))).mono ?_
    rintro _ w8 ⟨rfl, hb8⟩
    have X8 := Lib.hid (X7.out.step hb8)
    clear x0 x1 x2 x3 x4 x5
    obtain ⟨x0, x1, x2, x3, x4, x5⟩ : w8.cell? ⟨w1.heap.size, 0, none⟩ = some (.int .i64 fr) ∧ w8.cell? ⟨w1.heap.size, 1, none⟩ = some (.string (mk fp)) ∧ w8.cell? ⟨w1.heap.size, 2, none⟩ = some (.string (mk fn)) ∧ w8.cell? ⟨w1.heap.size, 3, none⟩ = some (.bool fi) ∧ w8.cell? ⟨w1.heap.size, 4, none⟩ = some (.int .i64 fst) ∧ w8.cell? ⟨w1.heap.size, 5, none⟩ = some (.slice ab fb.length cb) := ⟨X8.out.cell 0, X8.out.cell 1, X8.out.cell 2, X8.out.cell 3, X8.out.cell 4, X8.out.cell 5⟩
    rw [decide_eq_true (rfl : L1 = L1)]
    go_wp2_with fail
    refine (laws_equalStore _ _ L2 _ _ _ (HC2.out.below (by first | exact X8.out.below | (repeat (with_reducible first | exact Below.refl _ _ | assumption | refine ba ?_ _ | refine bd ?_ | refine bdN ?_ _ | refine bs ?_ (by first | exact Nat.le_refl _ | (dsimp only; omega) | (simp; done)) _ | refine bt ?_ (by assumption))))) (HC3.out.below (by first | exact X8.out.below | (repeat (with_reducible first | exact Below.refl _ _ | assumption | refine ba ?_ _ | refine bd ?_ | refine bdN ?_ _ | refine bs ?_ (by first | exact Nat.le_refl _ | (dsimp only; omega) | (simp; done)) _ | refine bt ?_ (by assumption)))))).mono ?_
    rintro _ w9 ⟨rfl, hb9⟩
    have X9 := Lib.hid (X8.out.step hb9)
    clear x0 x1 x2 x3 x4 x5
    obtain ⟨x0, x1, x2, x3, x4, x5⟩ : w9.cell? ⟨w1.heap.size, 0, none⟩ = some (.int .i64 fr) ∧ w9.cell? ⟨w1.heap.size, 1, none⟩ = some (.string (mk fp)) ∧ w9.cell? ⟨w1.heap.size, 2, none⟩ = some (.string (mk fn)) ∧ w9.cell? ⟨w1.heap.size, 3, none⟩ = some (.bool fi) ∧ w9.cell? ⟨w1.heap.size, 4, none⟩ = some (.int .i64 fst) ∧ w9.cell? ⟨w1.heap.size, 5, none⟩ = some (.slice ab fb.length cb) := ⟨X9.out.cell 0, X9.out.cell 1, X9.out.cell 2, X9.out.cell 3, X9.out.cell 4, X9.out.cell 5⟩
    go_wp2_with fail
    go_ret
    exact ⟨rfl, by have h := X9.out.below; have h1 := Hb1.out; exact h1.trans (h.mono h1.size)⟩
  have Hin := Lib.hid (show inr m 0 2 = true by unfold inr; simp; omega)
  have HL1 := Lib.hid (show L1 = (loadB cs ⟨fr, fp, fn, fi, fst, fb⟩ m).1 by rw [← HL.out])
  have Hhad := Lib.hid (show had = (loadB cs ⟨fr, fp, fn, fi, fst, fb⟩ m).2.2 by rw [← HL.out])
  have Hmn := Lib.hid (show mo = modName ⟨fr, fp, fn, fi, fst, fb⟩ by rw [Hmo.out]; unfold modOf; rw [if_pos Hf.out])
  have Hb7 := Lib.hid (show Below w2.heap.size w2 w7 by (repeat (with_reducible first | exact Below.refl _ _ | assumption | refine ba ?_ _ | refine bd ?_ | refine bdN ?_ _ | refine bs ?_ (by first | exact Nat.le_refl _ | (dsimp only; omega) | (simp; done)) _ | refine bt ?_ (by assumption))))
  have hcl := (okStore_facts Hs.out).2.2
  have hL8 : L1.length ≤ 8 := by have h := (loadB_fine cs ⟨fr, fp, fn, fi, fst, fb⟩ m).1; rw [← HL1.out] at h; exact h
  have HSh1 := Lib.hid (show Short 8000000 L1 by
    rw [HL1.out]
    exact loadB_short Hs.out HZb.out)
  go_wp2_with fail
  clear hb2 hb3 hb4 hb5 hb6 hb7 x0 x1 x2 x3 x4 x5 X2 X3 X4 X5 X6 HB3 HC3 HQ3 Hm3 HC2 HQ2 Hm2
  go_loopw [12] (fun iv wr => ∃ k : Nat, k ≤ cs.length ∧ iv = .int .i64 k ∧ Boxed w1 #[.int .i64 fr, .string (mk fp), .string (mk fn), .bool fi, .int .i64 fst, .slice ab fb.length cb] 55 wr ∧ Below w2.heap.size w2 wr ∧ ∀ j (h : j < cs.length), j < k → cplace cs[j] = fplace ⟨fr, fp, fn, fi, fst, fb⟩ → ¬ cs[j].mode = 2 ∧ (cs[j].mode = 0 → had = false)) (fun iv _ => cs.length - (intOf iv).toNat)
  case atStart => exact ⟨0, by omega, rfl, X7.out, Hb7.out, fun j _ h => absurd h (by omega)⟩
  case round =>
    obtain ⟨k, hk, rfl, hbx, hb2, hno⟩ := hrel
    have Xr := Lib.hid hbx
    have Hb2 := Lib.hid hb2
    have Hno := Lib.hid hno
    clear hbx hb2 hno
    by_cases hlt : k < cs.length
    · have hltp : k < qs.length := by have := congrArg List.length Hps.out; simp at this; omega
      obtain ⟨g, cap', e1, hg, hg2⟩ := HQ.out.1.form (by omega)
      simp only [Value.slice.injEq] at e1
      obtain ⟨rfl, hnn, rfl⟩ := e1
      clear hnn
      have hpe : qs[k].1 = cs[k] := by simp only [← Hps.out, List.getElem_map]
      have hmem := List.getElem_mem hlt
      have hql : qs.length = cs.length := by rw [← Hps.out, List.length_map]
      have Hcell0 := Lib.hid (fun (W : World) (hb : Below w1.heap.size w1 W) => (own8 (g := g) (n := cs.length) (cap := lc) (L := qs) (by have h := (HQ.out.below hb).1; rw [hql] at h; exact h) k hltp).1)
      clear hql
      have Hbk := Lib.hid (HQ.out.2.1 _ (List.getElem_mem hltp))
      have Hnx := Lib.hid (fun (h : cplace cs[k] = fplace ⟨fr, fp, fn, fi, fst, fb⟩ → ¬ cs[k].mode = 2 ∧ (cs[k].mode = 0 → had = false)) j (hj : j < cs.length) (hjk : j < k + 1) => (by
        by_cases e : j = k
        · subst e; exact h
        · exact Hno.out j hj (by omega) : cplace cs[j] = fplace ⟨fr, fp, fn, fi, fst, fb⟩ → ¬ cs[j].mode = 2 ∧ (cs[j].mode = 0 → had = false)))
      rw [← hpe] at hmem Hnx
      have Hlt := Lib.hid hlt
      obtain ⟨p, hp⟩ : ∃ p, p = qs[k] := ⟨_, rfl⟩
      rw [← hp] at hmem Hnx Hcell0 Hbk
      clear hp hpe
      obtain ⟨⟨kr, km, ki, kd, ks, kz, kh, kb⟩, kv⟩ := p
      dsimp only at hmem Hnx Hcell0 Hbk
      obtain ⟨kva, kvc, hkv⟩ := owns_shape Hbk.out
      subst hkv
      have HCell := Lib.hid (fun (W : World) (hb : Below w1.heap.size w1 W) => (⟨(Hcell0.out W hb).1, (Hcell0.out W hb).2.1, (Hcell0.out W hb).2.2.1, (Hcell0.out W hb).2.2.2.1, (Hcell0.out W hb).2.2.2.2.2.2.2⟩ : W.cell? ⟨g, k * 8, none⟩ = some (.int .i64 kr) ∧ W.cell? ⟨g, k * 8 + 1, none⟩ = some (.string (mk km)) ∧ W.cell? ⟨g, k * 8 + 2, none⟩ = some (.bool ki) ∧ W.cell? ⟨g, k * 8 + 3, none⟩ = some (.int .i64 kd) ∧ W.cell? ⟨g, k * 8 + 7, none⟩ = some (.slice kva kb.length kvc)))
      have Hmem := Lib.hid hmem
      have hk1 : (k : Int) < (cs.length : Int) := by omega
      have hk0 : (0 : Int) ≤ (k : Int) := by omega
      clear hmem Hcell0
      go_upto_region 11 with fail
      by_cases a1 : kr = fr
      case neg =>
        have a1b : (kr == fr) = false := by simpa using a1
        obtain ⟨y0, y1, y2, y3, y7⟩ := HCell.out wr Xr.out.below
        have j0 := cell_regrown (show wr.cell? ⟨w1.heap.size, 0, none⟩ = some (.int .i64 fr) from Xr.out.cell 0)
        have j1 := cell_regrown (show wr.cell? ⟨w1.heap.size, 1, none⟩ = some (.string (mk fp)) from Xr.out.cell 1)
        have j2 := cell_regrown (show wr.cell? ⟨w1.heap.size, 2, none⟩ = some (.string (mk fn)) from Xr.out.cell 2)
        have j3 := cell_regrown (show wr.cell? ⟨w1.heap.size, 3, none⟩ = some (.bool fi) from Xr.out.cell 3)
        have j4 := cell_regrown (show wr.cell? ⟨w1.heap.size, 4, none⟩ = some (.int .i64 fst) from Xr.out.cell 4)
        have j5 := cell_regrown (show wr.cell? ⟨w1.heap.size, 5, none⟩ = some (.slice ab fb.length cb) from Xr.out.cell 5)
        have k0 := cell_regrown y0
        have k1 := cell_regrown y1
        have k2 := cell_regrown y2
        have k3 := cell_regrown y3
        clear y0 y1 y2 y3 y7
        have cM : ∀ d os, Calls Try.prog 36 #[.agg #[.int .i64 fr, .string (mk fp), .string (mk fn), .bool fi, .int .i64 fst, .slice ab fb.length cb]] (grow (redrawn wr d) os) fun e w'' => e = .returned (.string (mk mo)) ∧ ∃ p : Regrown, w'' = grow (redrawn wr p.d) p.os := fun d os =>
          Calls.regrown_of (by have h := HMo.out (grow (redrawn wr d) os) (bt Xr.out.below (below_regrown wr d os)); rw [← Hmo.out] at h; exact h)
        refine wp_region_quiet_below (by kernel_rfl) (by kernel_rfl) ?_
        repeat (go_big_quiet_step (exact cM _ _))
        refine wpQuiet_nil ?_
        intro _ hw'
        obtain ⟨⟨dq, osq⟩, hw2⟩ := hw'
        subst hw2
        have Xq := Lib.hid (Xr.out.step (below_regrown wr dq osq))
        have Hbq := Lib.hid (bt Hb2.out (below_regrown wr dq osq))
        obtain ⟨wq, hWn⟩ : ∃ W, W = grow (redrawn wr dq) osq := ⟨_, rfl⟩
        rw [← hWn] at Xq Hbq ⊢
        clear hWn cM j0 j1 j2 j3 j4 j5 k0 k1 k2 k3
        go_upto_region 13 with fail
        obtain ⟨y0, y1, y2, y3, y7⟩ := HCell.out wq Xq.out.below
        have j0 := cell_regrown (show wq.cell? ⟨w1.heap.size, 0, none⟩ = some (.int .i64 fr) from Xq.out.cell 0)
        have j1 := cell_regrown (show wq.cell? ⟨w1.heap.size, 1, none⟩ = some (.string (mk fp)) from Xq.out.cell 1)
        have j2 := cell_regrown (show wq.cell? ⟨w1.heap.size, 2, none⟩ = some (.string (mk fn)) from Xq.out.cell 2)
        have j3 := cell_regrown (show wq.cell? ⟨w1.heap.size, 3, none⟩ = some (.bool fi) from Xq.out.cell 3)
        have j4 := cell_regrown (show wq.cell? ⟨w1.heap.size, 4, none⟩ = some (.int .i64 fst) from Xq.out.cell 4)
        have j5 := cell_regrown (show wq.cell? ⟨w1.heap.size, 5, none⟩ = some (.slice ab fb.length cb) from Xq.out.cell 5)
        have k0 := cell_regrown y0
        have k1 := cell_regrown y1
        have k2 := cell_regrown y2
        have k3 := cell_regrown y3
        clear y0 y1 y2 y3 y7
        have cM : ∀ d os, Calls Try.prog 36 #[.agg #[.int .i64 fr, .string (mk fp), .string (mk fn), .bool fi, .int .i64 fst, .slice ab fb.length cb]] (grow (redrawn wq d) os) fun e w'' => e = .returned (.string (mk mo)) ∧ ∃ p : Regrown, w'' = grow (redrawn wq p.d) p.os := fun d os =>
          Calls.regrown_of (by have h := HMo.out (grow (redrawn wq d) os) (bt Xq.out.below (below_regrown wq d os)); rw [← Hmo.out] at h; exact h)
        refine wp_region_quiet_below (by kernel_rfl) (by kernel_rfl) ?_
        repeat (go_big_quiet_step (exact cM _ _))
        refine wpQuiet_nil ?_
        intro _ hw'
        obtain ⟨⟨dq, osq⟩, hw2⟩ := hw'
        subst hw2
        have Xs := Lib.hid (Xq.out.step (below_regrown wq dq osq))
        have Hbs := Lib.hid (bt Hbq.out (below_regrown wq dq osq))
        obtain ⟨ws, hWn⟩ : ∃ W, W = grow (redrawn wq dq) osq := ⟨_, rfl⟩
        rw [← hWn] at Xs Hbs ⊢
        clear hWn cM j0 j1 j2 j3 j4 j5 k0 k1 k2 k3
        go_wp2_with fail
        go_roundw
        case rel => exact ⟨k + 1, Hlt.out, by go_num, Xs.out, Hbs.out, Hnx.out (fun e => absurd (congrArg Prod.fst e) a1)⟩
        case measure => have := Hlt.out; simp [intOf]; omega
      have a1s := a1.symm
      subst a1s
      clear a1
      by_cases a2 : km = mo
      case neg =>
        have a2b : (km == mo) = false := by rw [beq_eq_false_iff_ne]; exact a2
        have Ha2 := Lib.hid a2
        clear a2
        obtain ⟨y0, y1, y2, y3, y7⟩ := HCell.out wr Xr.out.below
        have j0 := cell_regrown (show wr.cell? ⟨w1.heap.size, 0, none⟩ = some (.int .i64 fr) from Xr.out.cell 0)
        have j1 := cell_regrown (show wr.cell? ⟨w1.heap.size, 1, none⟩ = some (.string (mk fp)) from Xr.out.cell 1)
        have j2 := cell_regrown (show wr.cell? ⟨w1.heap.size, 2, none⟩ = some (.string (mk fn)) from Xr.out.cell 2)
        have j3 := cell_regrown (show wr.cell? ⟨w1.heap.size, 3, none⟩ = some (.bool fi) from Xr.out.cell 3)
        have j4 := cell_regrown (show wr.cell? ⟨w1.heap.size, 4, none⟩ = some (.int .i64 fst) from Xr.out.cell 4)
        have j5 := cell_regrown (show wr.cell? ⟨w1.heap.size, 5, none⟩ = some (.slice ab fb.length cb) from Xr.out.cell 5)
        have k0 := cell_regrown y0
        have k1 := cell_regrown y1
        have k2 := cell_regrown y2
        have k3 := cell_regrown y3
        clear y0 y1 y2 y3 y7
        have cM : ∀ d os, Calls Try.prog 36 #[.agg #[.int .i64 fr, .string (mk fp), .string (mk fn), .bool fi, .int .i64 fst, .slice ab fb.length cb]] (grow (redrawn wr d) os) fun e w'' => e = .returned (.string (mk mo)) ∧ ∃ p : Regrown, w'' = grow (redrawn wr p.d) p.os := fun d os =>
          Calls.regrown_of (by have h := HMo.out (grow (redrawn wr d) os) (bt Xr.out.below (below_regrown wr d os)); rw [← Hmo.out] at h; exact h)
        refine wp_region_quiet_below (by kernel_rfl) (by kernel_rfl) ?_
        repeat (go_big_quiet_step (exact cM _ _))
        refine wpQuiet_nil ?_
        intro _ hw'
        obtain ⟨⟨dq, osq⟩, hw2⟩ := hw'
        subst hw2
        have Xq := Lib.hid (Xr.out.step (below_regrown wr dq osq))
        have Hbq := Lib.hid (bt Hb2.out (below_regrown wr dq osq))
        obtain ⟨wq, hWn⟩ : ∃ W, W = grow (redrawn wr dq) osq := ⟨_, rfl⟩
        rw [← hWn] at Xq Hbq ⊢
        clear hWn cM j0 j1 j2 j3 j4 j5 k0 k1 k2 k3
        go_upto_region 13 with fail
        obtain ⟨y0, y1, y2, y3, y7⟩ := HCell.out wq Xq.out.below
        have j0 := cell_regrown (show wq.cell? ⟨w1.heap.size, 0, none⟩ = some (.int .i64 fr) from Xq.out.cell 0)
        have j1 := cell_regrown (show wq.cell? ⟨w1.heap.size, 1, none⟩ = some (.string (mk fp)) from Xq.out.cell 1)
        have j2 := cell_regrown (show wq.cell? ⟨w1.heap.size, 2, none⟩ = some (.string (mk fn)) from Xq.out.cell 2)
        have j3 := cell_regrown (show wq.cell? ⟨w1.heap.size, 3, none⟩ = some (.bool fi) from Xq.out.cell 3)
        have j4 := cell_regrown (show wq.cell? ⟨w1.heap.size, 4, none⟩ = some (.int .i64 fst) from Xq.out.cell 4)
        have j5 := cell_regrown (show wq.cell? ⟨w1.heap.size, 5, none⟩ = some (.slice ab fb.length cb) from Xq.out.cell 5)
        have k0 := cell_regrown y0
        have k1 := cell_regrown y1
        have k2 := cell_regrown y2
        have k3 := cell_regrown y3
        clear y0 y1 y2 y3 y7
        have cM : ∀ d os, Calls Try.prog 36 #[.agg #[.int .i64 fr, .string (mk fp), .string (mk fn), .bool fi, .int .i64 fst, .slice ab fb.length cb]] (grow (redrawn wq d) os) fun e w'' => e = .returned (.string (mk mo)) ∧ ∃ p : Regrown, w'' = grow (redrawn wq p.d) p.os := fun d os =>
          Calls.regrown_of (by have h := HMo.out (grow (redrawn wq d) os) (bt Xq.out.below (below_regrown wq d os)); rw [← Hmo.out] at h; exact h)
        refine wp_region_quiet_below (by kernel_rfl) (by kernel_rfl) ?_
        repeat (go_big_quiet_step (exact cM _ _))
        refine wpQuiet_nil ?_
        intro _ hw'
        obtain ⟨⟨dq, osq⟩, hw2⟩ := hw'
        subst hw2
        have Xs := Lib.hid (Xq.out.step (below_regrown wq dq osq))
        have Hbs := Lib.hid (bt Hbq.out (below_regrown wq dq osq))
        obtain ⟨ws, hWn⟩ : ∃ W, W = grow (redrawn wq dq) osq := ⟨_, rfl⟩
        rw [← hWn] at Xs Hbs ⊢
        clear hWn cM j0 j1 j2 j3 j4 j5 k0 k1 k2 k3
        go_wp2_with fail
        go_roundw
        case rel => exact ⟨k + 1, Hlt.out, by go_num, Xs.out, Hbs.out, Hnx.out (fun e => absurd ((congrArg (fun x => x.2.1) e).trans Hmn.out.symm) Ha2.out)⟩
        case measure => have := Hlt.out; simp [intOf]; omega
      have a2s := a2.symm
      subst a2s
      clear a2
      by_cases a3 : ki = fi
      case neg =>
        have a3n : ki = !fi := by cases ki <;> cases fi <;> simp_all
        subst a3n
        clear a3
        obtain ⟨y0, y1, y2, y3, y7⟩ := HCell.out wr Xr.out.below
        have j0 := cell_regrown (show wr.cell? ⟨w1.heap.size, 0, none⟩ = some (.int .i64 fr) from Xr.out.cell 0)
        have j1 := cell_regrown (show wr.cell? ⟨w1.heap.size, 1, none⟩ = some (.string (mk fp)) from Xr.out.cell 1)
        have j2 := cell_regrown (show wr.cell? ⟨w1.heap.size, 2, none⟩ = some (.string (mk fn)) from Xr.out.cell 2)
        have j3 := cell_regrown (show wr.cell? ⟨w1.heap.size, 3, none⟩ = some (.bool fi) from Xr.out.cell 3)
        have j4 := cell_regrown (show wr.cell? ⟨w1.heap.size, 4, none⟩ = some (.int .i64 fst) from Xr.out.cell 4)
        have j5 := cell_regrown (show wr.cell? ⟨w1.heap.size, 5, none⟩ = some (.slice ab fb.length cb) from Xr.out.cell 5)
        have k0 := cell_regrown y0
        have k1 := cell_regrown y1
        have k2 := cell_regrown y2
        have k3 := cell_regrown y3
        clear y0 y1 y2 y3 y7
        have cM : ∀ d os, Calls Try.prog 36 #[.agg #[.int .i64 fr, .string (mk fp), .string (mk fn), .bool fi, .int .i64 fst, .slice ab fb.length cb]] (grow (redrawn wr d) os) fun e w'' => e = .returned (.string (mk mo)) ∧ ∃ p : Regrown, w'' = grow (redrawn wr p.d) p.os := fun d os =>
          Calls.regrown_of (by have h := HMo.out (grow (redrawn wr d) os) (bt Xr.out.below (below_regrown wr d os)); rw [← Hmo.out] at h; exact h)
        refine wp_region_quiet_below (by kernel_rfl) (by kernel_rfl) ?_
        repeat (go_big_quiet_step (exact cM _ _))
        refine wpQuiet_nil ?_
        intro _ hw'
        obtain ⟨⟨dq, osq⟩, hw2⟩ := hw'
        subst hw2
        have Xq := Lib.hid (Xr.out.step (below_regrown wr dq osq))
        have Hbq := Lib.hid (bt Hb2.out (below_regrown wr dq osq))
        obtain ⟨wq, hWn⟩ : ∃ W, W = grow (redrawn wr dq) osq := ⟨_, rfl⟩
        rw [← hWn] at Xq Hbq ⊢
        clear hWn cM j0 j1 j2 j3 j4 j5 k0 k1 k2 k3
        go_upto_region 13 with fail
        obtain ⟨y0, y1, y2, y3, y7⟩ := HCell.out wq Xq.out.below
        have j0 := cell_regrown (show wq.cell? ⟨w1.heap.size, 0, none⟩ = some (.int .i64 fr) from Xq.out.cell 0)
        have j1 := cell_regrown (show wq.cell? ⟨w1.heap.size, 1, none⟩ = some (.string (mk fp)) from Xq.out.cell 1)
        have j2 := cell_regrown (show wq.cell? ⟨w1.heap.size, 2, none⟩ = some (.string (mk fn)) from Xq.out.cell 2)
        have j3 := cell_regrown (show wq.cell? ⟨w1.heap.size, 3, none⟩ = some (.bool fi) from Xq.out.cell 3)
        have j4 := cell_regrown (show wq.cell? ⟨w1.heap.size, 4, none⟩ = some (.int .i64 fst) from Xq.out.cell 4)
        have j5 := cell_regrown (show wq.cell? ⟨w1.heap.size, 5, none⟩ = some (.slice ab fb.length cb) from Xq.out.cell 5)
        have k0 := cell_regrown y0
        have k1 := cell_regrown y1
        have k2 := cell_regrown y2
        have k3 := cell_regrown y3
        clear y0 y1 y2 y3 y7
        have cM : ∀ d os, Calls Try.prog 36 #[.agg #[.int .i64 fr, .string (mk fp), .string (mk fn), .bool fi, .int .i64 fst, .slice ab fb.length cb]] (grow (redrawn wq d) os) fun e w'' => e = .returned (.string (mk mo)) ∧ ∃ p : Regrown, w'' = grow (redrawn wq p.d) p.os := fun d os =>
          Calls.regrown_of (by have h := HMo.out (grow (redrawn wq d) os) (bt Xq.out.below (below_regrown wq d os)); rw [← Hmo.out] at h; exact h)
        refine wp_region_quiet_below (by kernel_rfl) (by kernel_rfl) ?_
        repeat (go_big_quiet_step (exact cM _ _))
        refine wpQuiet_nil ?_
        intro _ hw'
        obtain ⟨⟨dq, osq⟩, hw2⟩ := hw'
        subst hw2
        have Xs := Lib.hid (Xq.out.step (below_regrown wq dq osq))
        have Hbs := Lib.hid (bt Hbq.out (below_regrown wq dq osq))
        obtain ⟨ws, hWn⟩ : ∃ W, W = grow (redrawn wq dq) osq := ⟨_, rfl⟩
        rw [← hWn] at Xs Hbs ⊢
        clear hWn cM j0 j1 j2 j3 j4 j5 k0 k1 k2 k3
        go_wp2_with fail
        go_roundw
        case rel => exact ⟨k + 1, Hlt.out, by go_num, Xs.out, Hbs.out, Hnx.out (fun e => absurd (congrArg (fun x => x.2.2) e) (by cases fi <;> simp [cplace, fplace]))⟩
        case measure => have := Hlt.out; simp [intOf]; omega
      have a3s := a3.symm
      subst a3s
      clear a3
      have hpl : cplace ⟨fr, mo, fi, kd, ks, kz, kh, kb⟩ = fplace ⟨fr, fp, fn, fi, fst, fb⟩ := by unfold cplace fplace; rw [Hmn.out]
      have Hpl := Lib.hid hpl
      clear hpl
      by_cases a4 : kd = 2
      · subst a4
        have htr := load_trust Hs.out Hf.out Hin.out Hmem.out Hpl.out rfl
        rw [← HL1.out, ← Hhad.out] at htr
        obtain ⟨t1, t2⟩ := htr
        dsimp only at t1
        have T1 := Lib.hid t1
        subst t2
        clear t1
        obtain ⟨y0, y1, y2, y3, y7⟩ := HCell.out wr Xr.out.below
        have j0 := cell_regrown (show wr.cell? ⟨w1.heap.size, 0, none⟩ = some (.int .i64 fr) from Xr.out.cell 0)
        have j1 := cell_regrown (show wr.cell? ⟨w1.heap.size, 1, none⟩ = some (.string (mk fp)) from Xr.out.cell 1)
        have j2 := cell_regrown (show wr.cell? ⟨w1.heap.size, 2, none⟩ = some (.string (mk fn)) from Xr.out.cell 2)
        have j3 := cell_regrown (show wr.cell? ⟨w1.heap.size, 3, none⟩ = some (.bool fi) from Xr.out.cell 3)
        have j4 := cell_regrown (show wr.cell? ⟨w1.heap.size, 4, none⟩ = some (.int .i64 fst) from Xr.out.cell 4)
        have j5 := cell_regrown (show wr.cell? ⟨w1.heap.size, 5, none⟩ = some (.slice ab fb.length cb) from Xr.out.cell 5)
        have k0 := cell_regrown y0
        have k1 := cell_regrown y1
        have k2 := cell_regrown y2
        have k3 := cell_regrown y3
        clear y0 y1 y2 y3 y7
        have cM : ∀ d os, Calls Try.prog 36 #[.agg #[.int .i64 fr, .string (mk fp), .string (mk fn), .bool fi, .int .i64 fst, .slice ab fb.length cb]] (grow (redrawn wr d) os) fun e w'' => e = .returned (.string (mk mo)) ∧ ∃ p : Regrown, w'' = grow (redrawn wr p.d) p.os := fun d os =>
          Calls.regrown_of (by have h := HMo.out (grow (redrawn wr d) os) (bt Xr.out.below (below_regrown wr d os)); rw [← Hmo.out] at h; exact h)
        refine wp_region_quiet_below (by kernel_rfl) (by kernel_rfl) ?_
        repeat (go_big_quiet_step (exact cM _ _))
        refine wpQuiet_nil ?_
        intro _ hw'
        obtain ⟨⟨dq, osq⟩, hw2⟩ := hw'
        subst hw2
        have Xq := Lib.hid (Xr.out.step (below_regrown wr dq osq))
        have Hbq := Lib.hid (bt Hb2.out (below_regrown wr dq osq))
        obtain ⟨wq, hWn⟩ : ∃ W, W = grow (redrawn wr dq) osq := ⟨_, rfl⟩
        rw [← hWn] at Xq Hbq ⊢
        clear hWn cM j0 j1 j2 j3 j4 j5 k0 k1 k2 k3
        obtain ⟨y0, y1, y2, y3, y7⟩ := HCell.out wq Xq.out.below
        have HBq := Lib.hid (HB2.out.below Hbq.out)
        have HKq := Lib.hid ((StmsIn.of_owns (D := fun _ => True) Hbk.out (fun _ _ => trivial)).below Xq.out.below)
        go_wp2_with fail
        refine (laws_equalBody _ _ L1 kb _ _ _ HBq.out HKq.out).mono ?_
        rintro _ w9 ⟨rfl, hb9⟩
        rw [decide_eq_true T1.out]
        have X9 := Lib.hid (Xq.out.step hb9)
        go_wp2_with fail
        go_ret
        exact ⟨rfl, by have h := X9.out.below; have h1 := Hb1.out; exact h1.trans (h.mono h1.size)⟩
      have a4b : (kd == 2) = false := by rw [beq_eq_false_iff_ne]; exact a4
      by_cases a5 : kd = 0
      case neg =>
        have a5b : (kd == 0) = false := by rw [beq_eq_false_iff_ne]; exact a5
        have A4 := Lib.hid a4
        have A5 := Lib.hid a5
        obtain ⟨y0, y1, y2, y3, y7⟩ := HCell.out wr Xr.out.below
        have j0 := cell_regrown (show wr.cell? ⟨w1.heap.size, 0, none⟩ = some (.int .i64 fr) from Xr.out.cell 0)
        have j1 := cell_regrown (show wr.cell? ⟨w1.heap.size, 1, none⟩ = some (.string (mk fp)) from Xr.out.cell 1)
        have j2 := cell_regrown (show wr.cell? ⟨w1.heap.size, 2, none⟩ = some (.string (mk fn)) from Xr.out.cell 2)
        have j3 := cell_regrown (show wr.cell? ⟨w1.heap.size, 3, none⟩ = some (.bool fi) from Xr.out.cell 3)
        have j4 := cell_regrown (show wr.cell? ⟨w1.heap.size, 4, none⟩ = some (.int .i64 fst) from Xr.out.cell 4)
        have j5 := cell_regrown (show wr.cell? ⟨w1.heap.size, 5, none⟩ = some (.slice ab fb.length cb) from Xr.out.cell 5)
        have k0 := cell_regrown y0
        have k1 := cell_regrown y1
        have k2 := cell_regrown y2
        have k3 := cell_regrown y3
        clear y0 y1 y2 y3 y7
        have cM : ∀ d os, Calls Try.prog 36 #[.agg #[.int .i64 fr, .string (mk fp), .string (mk fn), .bool fi, .int .i64 fst, .slice ab fb.length cb]] (grow (redrawn wr d) os) fun e w'' => e = .returned (.string (mk mo)) ∧ ∃ p : Regrown, w'' = grow (redrawn wr p.d) p.os := fun d os =>
          Calls.regrown_of (by have h := HMo.out (grow (redrawn wr d) os) (bt Xr.out.below (below_regrown wr d os)); rw [← Hmo.out] at h; exact h)
        refine wp_region_quiet_below (by kernel_rfl) (by kernel_rfl) ?_
        repeat (go_big_quiet_step (exact cM _ _))
        refine wpQuiet_nil ?_
        intro _ hw'
        obtain ⟨⟨dq, osq⟩, hw2⟩ := hw'
        subst hw2
        have Xq := Lib.hid (Xr.out.step (below_regrown wr dq osq))
        have Hbq := Lib.hid (bt Hb2.out (below_regrown wr dq osq))
        obtain ⟨wq, hWn⟩ : ∃ W, W = grow (redrawn wr dq) osq := ⟨_, rfl⟩
        rw [← hWn] at Xq Hbq ⊢
        clear hWn cM j0 j1 j2 j3 j4 j5 k0 k1 k2 k3
        go_upto_region 13 with fail
        obtain ⟨y0, y1, y2, y3, y7⟩ := HCell.out wq Xq.out.below
        have j0 := cell_regrown (show wq.cell? ⟨w1.heap.size, 0, none⟩ = some (.int .i64 fr) from Xq.out.cell 0)
        have j1 := cell_regrown (show wq.cell? ⟨w1.heap.size, 1, none⟩ = some (.string (mk fp)) from Xq.out.cell 1)
        have j2 := cell_regrown (show wq.cell? ⟨w1.heap.size, 2, none⟩ = some (.string (mk fn)) from Xq.out.cell 2)
        have j3 := cell_regrown (show wq.cell? ⟨w1.heap.size, 3, none⟩ = some (.bool fi) from Xq.out.cell 3)
        have j4 := cell_regrown (show wq.cell? ⟨w1.heap.size, 4, none⟩ = some (.int .i64 fst) from Xq.out.cell 4)
        have j5 := cell_regrown (show wq.cell? ⟨w1.heap.size, 5, none⟩ = some (.slice ab fb.length cb) from Xq.out.cell 5)
        have k0 := cell_regrown y0
        have k1 := cell_regrown y1
        have k2 := cell_regrown y2
        have k3 := cell_regrown y3
        clear y0 y1 y2 y3 y7
        have cM : ∀ d os, Calls Try.prog 36 #[.agg #[.int .i64 fr, .string (mk fp), .string (mk fn), .bool fi, .int .i64 fst, .slice ab fb.length cb]] (grow (redrawn wq d) os) fun e w'' => e = .returned (.string (mk mo)) ∧ ∃ p : Regrown, w'' = grow (redrawn wq p.d) p.os := fun d os =>
          Calls.regrown_of (by have h := HMo.out (grow (redrawn wq d) os) (bt Xq.out.below (below_regrown wq d os)); rw [← Hmo.out] at h; exact h)
        refine wp_region_quiet_below (by kernel_rfl) (by kernel_rfl) ?_
        repeat (go_big_quiet_step (exact cM _ _))
        refine wpQuiet_nil ?_
        intro _ hw'
        obtain ⟨⟨dq, osq⟩, hw2⟩ := hw'
        subst hw2
        have Xs := Lib.hid (Xq.out.step (below_regrown wq dq osq))
        have Hbs := Lib.hid (bt Hbq.out (below_regrown wq dq osq))
        obtain ⟨ws, hWn⟩ : ∃ W, W = grow (redrawn wq dq) osq := ⟨_, rfl⟩
        rw [← hWn] at Xs Hbs ⊢
        clear hWn cM j0 j1 j2 j3 j4 j5 k0 k1 k2 k3
        go_wp2_with fail
        go_roundw
        case rel => exact ⟨k + 1, Hlt.out, by go_num, Xs.out, Hbs.out, Hnx.out (fun _ => ⟨A4.out, fun h => absurd h A5.out⟩)⟩
        case measure => have := Hlt.out; simp [intOf]; omega
      subst a5
      cases had
      · skip
        obtain ⟨y0, y1, y2, y3, y7⟩ := HCell.out wr Xr.out.below
        have j0 := cell_regrown (show wr.cell? ⟨w1.heap.size, 0, none⟩ = some (.int .i64 fr) from Xr.out.cell 0)
        have j1 := cell_regrown (show wr.cell? ⟨w1.heap.size, 1, none⟩ = some (.string (mk fp)) from Xr.out.cell 1)
        have j2 := cell_regrown (show wr.cell? ⟨w1.heap.size, 2, none⟩ = some (.string (mk fn)) from Xr.out.cell 2)
        have j3 := cell_regrown (show wr.cell? ⟨w1.heap.size, 3, none⟩ = some (.bool fi) from Xr.out.cell 3)
        have j4 := cell_regrown (show wr.cell? ⟨w1.heap.size, 4, none⟩ = some (.int .i64 fst) from Xr.out.cell 4)
        have j5 := cell_regrown (show wr.cell? ⟨w1.heap.size, 5, none⟩ = some (.slice ab fb.length cb) from Xr.out.cell 5)
        have k0 := cell_regrown y0
        have k1 := cell_regrown y1
        have k2 := cell_regrown y2
        have k3 := cell_regrown y3
        clear y0 y1 y2 y3 y7
        have cM : ∀ d os, Calls Try.prog 36 #[.agg #[.int .i64 fr, .string (mk fp), .string (mk fn), .bool fi, .int .i64 fst, .slice ab fb.length cb]] (grow (redrawn wr d) os) fun e w'' => e = .returned (.string (mk mo)) ∧ ∃ p : Regrown, w'' = grow (redrawn wr p.d) p.os := fun d os =>
          Calls.regrown_of (by have h := HMo.out (grow (redrawn wr d) os) (bt Xr.out.below (below_regrown wr d os)); rw [← Hmo.out] at h; exact h)
        refine wp_region_quiet_below (by kernel_rfl) (by kernel_rfl) ?_
        repeat (go_big_quiet_step (exact cM _ _))
        refine wpQuiet_nil ?_
        intro _ hw'
        obtain ⟨⟨dq, osq⟩, hw2⟩ := hw'
        subst hw2
        have Xq := Lib.hid (Xr.out.step (below_regrown wr dq osq))
        have Hbq := Lib.hid (bt Hb2.out (below_regrown wr dq osq))
        obtain ⟨wq, hWn⟩ : ∃ W, W = grow (redrawn wr dq) osq := ⟨_, rfl⟩
        rw [← hWn] at Xq Hbq ⊢
        clear hWn cM j0 j1 j2 j3 j4 j5 k0 k1 k2 k3
        go_upto_region 13 with fail
        obtain ⟨y0, y1, y2, y3, y7⟩ := HCell.out wq Xq.out.below
        have j0 := cell_regrown (show wq.cell? ⟨w1.heap.size, 0, none⟩ = some (.int .i64 fr) from Xq.out.cell 0)
        have j1 := cell_regrown (show wq.cell? ⟨w1.heap.size, 1, none⟩ = some (.string (mk fp)) from Xq.out.cell 1)
        have j2 := cell_regrown (show wq.cell? ⟨w1.heap.size, 2, none⟩ = some (.string (mk fn)) from Xq.out.cell 2)
        have j3 := cell_regrown (show wq.cell? ⟨w1.heap.size, 3, none⟩ = some (.bool fi) from Xq.out.cell 3)
        have j4 := cell_regrown (show wq.cell? ⟨w1.heap.size, 4, none⟩ = some (.int .i64 fst) from Xq.out.cell 4)
        have j5 := cell_regrown (show wq.cell? ⟨w1.heap.size, 5, none⟩ = some (.slice ab fb.length cb) from Xq.out.cell 5)
        have k0 := cell_regrown y0
        have k1 := cell_regrown y1
        have k2 := cell_regrown y2
        have k3 := cell_regrown y3
        clear y0 y1 y2 y3 y7
        have cM : ∀ d os, Calls Try.prog 36 #[.agg #[.int .i64 fr, .string (mk fp), .string (mk fn), .bool fi, .int .i64 fst, .slice ab fb.length cb]] (grow (redrawn wq d) os) fun e w'' => e = .returned (.string (mk mo)) ∧ ∃ p : Regrown, w'' = grow (redrawn wq p.d) p.os := fun d os =>
          Calls.regrown_of (by have h := HMo.out (grow (redrawn wq d) os) (bt Xq.out.below (below_regrown wq d os)); rw [← Hmo.out] at h; exact h)
        refine wp_region_quiet_below (by kernel_rfl) (by kernel_rfl) ?_
        repeat (go_big_quiet_step (exact cM _ _))
        refine wpQuiet_nil ?_
        intro _ hw'
        obtain ⟨⟨dq, osq⟩, hw2⟩ := hw'
        subst hw2
        have Xs := Lib.hid (Xq.out.step (below_regrown wq dq osq))
        have Hbs := Lib.hid (bt Hbq.out (below_regrown wq dq osq))
        obtain ⟨ws, hWn⟩ : ∃ W, W = grow (redrawn wq dq) osq := ⟨_, rfl⟩
        rw [← hWn] at Xs Hbs ⊢
        clear hWn cM j0 j1 j2 j3 j4 j5 k0 k1 k2 k3
        go_wp2_with fail
        go_roundw
        case rel => exact ⟨k + 1, Hlt.out, by go_num, Xs.out, Hbs.out, fun j h hjk e => ⟨(Hnx.out (fun _ => ⟨by decide, fun _ => rfl⟩) j h hjk e).1, fun _ => trivial⟩⟩
        case measure => have := Hlt.out; simp [intOf]; omega
      have hsz := load_size Hs.out Hf.out Hin.out Hmem.out Hpl.out rfl Hhad.out.symm
      rw [← HL1.out] at hsz
      dsimp only at hsz
      have Hsz := Lib.hid hsz
      clear hsz
      obtain ⟨y0, y1, y2, y3, y7⟩ := HCell.out wr Xr.out.below
      have j0 := cell_regrown (show wr.cell? ⟨w1.heap.size, 0, none⟩ = some (.int .i64 fr) from Xr.out.cell 0)
      have j1 := cell_regrown (show wr.cell? ⟨w1.heap.size, 1, none⟩ = some (.string (mk fp)) from Xr.out.cell 1)
      have j2 := cell_regrown (show wr.cell? ⟨w1.heap.size, 2, none⟩ = some (.string (mk fn)) from Xr.out.cell 2)
      have j3 := cell_regrown (show wr.cell? ⟨w1.heap.size, 3, none⟩ = some (.bool fi) from Xr.out.cell 3)
      have j4 := cell_regrown (show wr.cell? ⟨w1.heap.size, 4, none⟩ = some (.int .i64 fst) from Xr.out.cell 4)
      have j5 := cell_regrown (show wr.cell? ⟨w1.heap.size, 5, none⟩ = some (.slice ab fb.length cb) from Xr.out.cell 5)
      have k0 := cell_regrown y0
      have k1 := cell_regrown y1
      have k2 := cell_regrown y2
      have k3 := cell_regrown y3
      clear y0 y1 y2 y3 y7
      have cM : ∀ d os, Calls Try.prog 36 #[.agg #[.int .i64 fr, .string (mk fp), .string (mk fn), .bool fi, .int .i64 fst, .slice ab fb.length cb]] (grow (redrawn wr d) os) fun e w'' => e = .returned (.string (mk mo)) ∧ ∃ p : Regrown, w'' = grow (redrawn wr p.d) p.os := fun d os =>
        Calls.regrown_of (by have h := HMo.out (grow (redrawn wr d) os) (bt Xr.out.below (below_regrown wr d os)); rw [← Hmo.out] at h; exact h)
      refine wp_region_quiet_below (by kernel_rfl) (by kernel_rfl) ?_
      repeat (go_big_quiet_step (exact cM _ _))
      refine wpQuiet_nil ?_
      intro _ hw'
      obtain ⟨⟨dq, osq⟩, hw2⟩ := hw'
      subst hw2
      have Xq := Lib.hid (Xr.out.step (below_regrown wr dq osq))
      have Hbq := Lib.hid (bt Hb2.out (below_regrown wr dq osq))
      obtain ⟨wq, hWn⟩ : ∃ W, W = grow (redrawn wr dq) osq := ⟨_, rfl⟩
      rw [← hWn] at Xq Hbq ⊢
      clear hWn cM j0 j1 j2 j3 j4 j5 k0 k1 k2 k3
      go_upto_region 13 with fail
      obtain ⟨y0, y1, y2, y3, y7⟩ := HCell.out wq Xq.out.below
      have j0 := cell_regrown (show wq.cell? ⟨w1.heap.size, 0, none⟩ = some (.int .i64 fr) from Xq.out.cell 0)
      have j1 := cell_regrown (show wq.cell? ⟨w1.heap.size, 1, none⟩ = some (.string (mk fp)) from Xq.out.cell 1)
      have j2 := cell_regrown (show wq.cell? ⟨w1.heap.size, 2, none⟩ = some (.string (mk fn)) from Xq.out.cell 2)
      have j3 := cell_regrown (show wq.cell? ⟨w1.heap.size, 3, none⟩ = some (.bool fi) from Xq.out.cell 3)
      have j4 := cell_regrown (show wq.cell? ⟨w1.heap.size, 4, none⟩ = some (.int .i64 fst) from Xq.out.cell 4)
      have j5 := cell_regrown (show wq.cell? ⟨w1.heap.size, 5, none⟩ = some (.slice ab fb.length cb) from Xq.out.cell 5)
      have k0 := cell_regrown y0
      have k1 := cell_regrown y1
      have k2 := cell_regrown y2
      have k3 := cell_regrown y3
      clear y0 y1 y2 y3 y7
      have cM : ∀ d os, Calls Try.prog 36 #[.agg #[.int .i64 fr, .string (mk fp), .string (mk fn), .bool fi, .int .i64 fst, .slice ab fb.length cb]] (grow (redrawn wq d) os) fun e w'' => e = .returned (.string (mk mo)) ∧ ∃ p : Regrown, w'' = grow (redrawn wq p.d) p.os := fun d os =>
        Calls.regrown_of (by have h := HMo.out (grow (redrawn wq d) os) (bt Xq.out.below (below_regrown wq d os)); rw [← Hmo.out] at h; exact h)
      refine wp_region_quiet_below (by kernel_rfl) (by kernel_rfl) ?_
      repeat (go_big_quiet_step (exact cM _ _))
      refine wpQuiet_nil ?_
      intro _ hw'
      obtain ⟨⟨dq, osq⟩, hw2⟩ := hw'
      subst hw2
      have Xs := Lib.hid (Xq.out.step (below_regrown wq dq osq))
      have Hbs := Lib.hid (bt Hbq.out (below_regrown wq dq osq))
      obtain ⟨ws, hWn⟩ : ∃ W, W = grow (redrawn wq dq) osq := ⟨_, rfl⟩
      rw [← hWn] at Xs Hbs ⊢
      clear hWn cM j0 j1 j2 j3 j4 j5 k0 k1 k2 k3
      go_upto_region 14 with fail
      have j5 := cell_regrown (show ws.cell? ⟨w1.heap.size, 5, none⟩ = some (.slice ab fb.length cb) from Xs.out.cell 5)
      have HBz := Lib.hid (HB2.out.below Hbs.out)
      have HFz := Lib.hid (HBi.out.below Xs.out.below)
      have cA : ∀ d os, Calls Try.prog 38 #[.slice b2a L1.length b2c] (grow (redrawn ws d) os) fun e w'' => e = .returned (.int .i64 (bodySize fb)) ∧ ∃ p : Regrown, w'' = grow (redrawn ws p.d) p.os := fun d os =>
        Calls.regrown_of ((impl_SizeOf _ L1 _ (grow (redrawn ws d) os) (HBz.out.below (below_regrown ws d os)) HSh1.out).mono (fun _ _ h => ⟨by rw [h.1, Hsz.out], h.2⟩))
      have cB : ∀ d os, Calls Try.prog 38 #[.slice ab fb.length cb] (grow (redrawn ws d) os) fun e w'' => e = .returned (.int .i64 (bodySize fb)) ∧ ∃ p : Regrown, w'' = grow (redrawn ws p.d) p.os := fun d os =>
        Calls.regrown_of (impl_SizeOf _ fb _ (grow (redrawn ws d) os) (HFz.out.below (below_regrown ws d os)) HZb.out)
      generalize bodySize fb = zz at cA cB
      refine wp_region_quiet_below (by kernel_rfl) (by kernel_rfl) ?_
      repeat (go_big_quiet_step (first | with_reducible exact cA _ _ | with_reducible exact cB _ _))
      refine wpQuiet_nil ?_
      intro _ hw'
      obtain ⟨⟨dq, osq⟩, hw2⟩ := hw'
      subst hw2
      have X9 := Lib.hid (Xs.out.step (below_regrown ws dq osq))
      clear cA cB j5
      go_wp2_with fail
      go_ret
      exact ⟨rfl, by have h := X9.out.below; have h1 := Hb1.out; exact h1.trans (h.mono h1.size)⟩
    · have Hhh := Lib.hid (show hashOf L1 = hashOf fb by
        rw [HL1.out]
        refine load_hash Hs.out Hf.out Hin.out (fun c hc hp => ?_)
        obtain ⟨j, hj, rfl⟩ := List.getElem_of_mem hc
        rw [← Hhad.out]
        exact Hno.out j hj (by omega) hp)
      go_upto_region 15 with fail
      have j5 := cell_regrown (show wr.cell? ⟨w1.heap.size, 5, none⟩ = some (.slice ab fb.length cb) from Xr.out.cell 5)
      have HBz := Lib.hid (HB2.out.below Hb2.out)
      have HFz := Lib.hid (HBi.out.below Xr.out.below)
      have cA : ∀ d os, Calls Try.prog 37 #[.slice b2a L1.length b2c] (grow (redrawn wr d) os) fun e w'' => e = .returned (.int .i64 (hashOf fb)) ∧ ∃ p : Regrown, w'' = grow (redrawn wr p.d) p.os := fun d os =>
        Calls.regrown_of ((impl_HashOf _ L1 _ (grow (redrawn wr d) os) (HBz.out.below (below_regrown wr d os)) HSh1.out).mono (fun _ _ h => ⟨by rw [h.1, Hhh.out], h.2⟩))
      have cB : ∀ d os, Calls Try.prog 37 #[.slice ab fb.length cb] (grow (redrawn wr d) os) fun e w'' => e = .returned (.int .i64 (hashOf fb)) ∧ ∃ p : Regrown, w'' = grow (redrawn wr p.d) p.os := fun d os =>
        Calls.regrown_of (impl_HashOf _ fb _ (grow (redrawn wr d) os) (HFz.out.below (below_regrown wr d os)) HZb.out)
      generalize hashOf fb = zz at cA cB
      refine wp_region_quiet_below (by kernel_rfl) (by kernel_rfl) ?_
      repeat (go_big_quiet_step (first | with_reducible exact cA _ _ | with_reducible exact cB _ _))
      refine wpQuiet_nil ?_
      intro _ hw'
      obtain ⟨⟨dq, osq⟩, hw2⟩ := hw'
      subst hw2
      have X9 := Lib.hid (Xr.out.step (below_regrown wr dq osq))
      clear cA cB j5
      go_wp2_with fail
      go_ret
      exact ⟨rfl, by have h := X9.out.below; have h1 := Hb1.out; exact h1.trans (h.mono h1.size)⟩

/-! ### THE STEP TO THE ROW -/
set_option maxRecDepth 100000 in
theorem lifted (os : Os) (started : os.Started) (H : Type) (enc : TypeId × Value → H) :
    ReturnsInHanded {} Try.checked os 9 .any (Rows.fnLoadBodyHashSpec.pre6 enc Try.prog Try.f9 Rows.fnLoadBodyHashRow.domain false) (Rows.fnLoadBodyHashSpec.post enc Try.prog Try.f9 false true false false) := by
  refine returnsInHanded_of_change (C := Try.checked) own started (by kernel_rfl) Try.func9
    (ChangeSpec.witness6 (enc := enc) (C := Try.checked) false ⟨#[], #[.slice none 0 0], []⟩ 8 (by kernel_rfl) (by kernel_rfl) (by kernel_rfl) (by kernel_rfl)) ?_
  intro W base args ds gs before hval0 hW hcnd _
  have hval : ∀ (j : Nat) t v, Try.f9.params[j]? = some t → args[j]? = some v → Value.okWide Try.prog W .any base t v := hval0
  have hW' := hW
  obtain ⟨p, q, hA0, hV, rfl, hfz, hnd⟩ := hW
  have hA : DataW.TrodAll enc Try.prog W 0 (fun _ => true) true Try.f9.params.toList args.toList ds p := hA0
  rw [Try.params9] at hA hval
  obtain ⟨v0, vs0, d0, ds0, p0, q0, hargs, rfl, rfl, h0, r0⟩ := trodAll_cons hA
  obtain ⟨rfl, rfl, rfl⟩ := trodAll_nil r0
  obtain rfl : args = #[v0] := by cases args; simp_all
  obtain ⟨rfl, rfl⟩ := trodVars_none hV
  obtain ⟨a0, len0, cap0, rfl⟩ := okWide_slice Try.underlying47 (hval 0 47 v0 rfl rfl)
  have k0 := h0
  have lt0 : ∀ x ∈ p0, x.block < W.heap.size := by obtain ⟨m, hm⟩ := k0; exact DataW.trod_lt m _ _ _ hm
  have w0 : Code W W.heap.size a0 len0 cap0 := by
    obtain ⟨fuel, hf⟩ := h0
    rcases open_ints Try.underlying47 Try.underlying5 (by kernel_rfl) hf with ⟨hcs, _⟩ | ⟨x, l, c, zs, hcs, _, hl, hm, hz, _, hcell, hwz⟩
    · simp [Value.cells] at hcs
      obtain ⟨rfl, rfl, rfl⟩ := hcs
      exact .inl ⟨rfl, by unfold maxLen; omega⟩
    · simp [Value.cells] at hcs
      obtain ⟨rfl, rfl, rfl⟩ := hcs
      exact code_row W _ _ _ zs hl hm (by simpa using hz) hcell hwz
  clear hA0 hval0
  refine (walk a0 len0 cap0 W w0).mono fun e W' ⟨he, bel⟩ => ?_
  subst he
  exact ⟨_, rfl, _, _, _, [], _, [], hW', trodAll_mk1 (shut_bool Try.underlying4 _), (trodAll_cons_mk (Below.trod laidOut (by kernel_rfl) (of_decide_eq_true (by kernel_rfl)) k0 bel lt0) trodAll_mk0), rfl, bel.frame _, fun h => by cases h⟩

theorem over : Rows.fnLoadBodyHashRow.holds Try.pinned (OpenSpec.ofChange Rows.fnLoadBodyHashSpec) :=
  OpenClaim.holds_of_wide 9 Try.f9 rfl rfl rfl rfl rfl rfl rfl ⟨rfl, rfl, rfl, rfl, rfl⟩ rfl rfl rfl rfl rfl (by kernel_rfl) Try.func9 (by kernel_rfl)
    (of_decide_eq_true (by kernel_rfl)) (by unfold Func.isWrapper; first | (rw [if_pos (by decide +kernel)]; kernel_rfl) | (rw [if_neg (by decide +kernel)]; exact ⟨rfl, rfl⟩))
    (fun os started H enc _ => lifted os started H enc)

/-- THE STATEMENT -/
theorem proved : Rows.FnLoadBodyHashSaid := over
end Go.Proofs.Ytomdmkhgkaalnaa.FnLoadBodyHash
