/- FnIsUsable returns true for every code. Written by mkwf.py. -/
import Derived.Test.YtomdmkhgkaalnaaDrawI
import Derived.Test.YtomdmkhgkaalnaaSUsab2
import Derived.Test.YtomdmkhgkaalnaaUsable
import Derived.Test.YtomdmkhgkaalnaaLoad
import Derived.Test.YtomdmkhgkaalnaaStmts
import Derived.Test.YtomdmkhgkaalnaaHash
import Derived.Test.YtomdmkhgkaalnaaSizes
import Derived.Test.YtomdmkhgkaalnaaFrame
import Derived.BigQuiet
import Derived.Lib.QuietBelow
set_option linter.unusedVariables false
set_option linter.unusedSimpArgs false
namespace Go.Proofs.Ytomdmkhgkaalnaa.FnIsUsable
open Go.Sort Go.ChangeShapes Go.WideShapes Go.ChangeAt Go.RowKit Go.Proofs.Ytomdmkhgkaalnaa.Nm

theorem okCmp_size2 {c : Cmp} (h : okCmp c = true) : 0 ≤ c.mode ∧ c.mode ≤ 2 := by
  unfold okCmp inr at h
  simp only [Bool.and_eq_true, decide_eq_true_eq] at h
  omega
set_option maxRecDepth 100000 in
set_option maxHeartbeats 16000000 in
theorem walk (a : Option Addr) (n cap : Nat) (w : World) (hc : Code w w.heap.size a n cap) :
    Calls Try.prog 6 #[.slice a n cap] w fun e w' => e = .returned (.bool true) ∧ Below w.heap.size w w' := by
  by_cases hn : (1048576 : Int) < (n : Int)
  · go_enter Try.func6, Try.ntmps6
    go_wp2_with fail
    go_ret
    exact ⟨rfl, Below.refl _ _⟩
  have Hc := Lib.hid hc
  clear hc
  go_enter Try.func6, Try.ntmps6
  go_wp2_with fail
  refine (spec_DrawIsUsable a n cap w Hc.out).mono ?_
  rintro e w1 ⟨⟨x0, x1, x2, x3, x4, x5, x6, cb⟩, cv, ⟨fr, fp, fn, fi, fst, fb⟩, bv, rfl, hoc, hsc, hlc, hof, hsf, hlf, hb1⟩
  unfold cmpV filV
  dsimp only at hoc hlc hof hlf ⊢
  obtain ⟨ca, cc, rfl⟩ := owns_shape hoc
  obtain ⟨ab, ac, rfl⟩ := owns_shape hof
  have HC := Lib.hid (show StmsIn w1 (fun _ => True) (.slice ca cb.length cc) cb from StmsIn.of_owns hoc (fun _ _ => trivial))
  have HF := Lib.hid (show StmsIn w1 (fun _ => True) (.slice ab fb.length ac) fb from StmsIn.of_owns hof (fun _ _ => trivial))
  have HO := Lib.hid hof
  have HZc := Lib.hid (shortC_mono (B := 1048576) (by omega) hsc)
  have HZf := Lib.hid (shortF_mono (B := 1048576) (by omega) hsf)
  have HZb := Lib.hid (short_mono (B := 8000000) (by omega) hsf.2.2)
  have hfp : fp.length ≤ 8000000 := by have := hsf.1; dsimp only at this; omega
  have hfn : fn.length ≤ 8000000 := by have := hsf.2.1; dsimp only at this; omega
  have Hb1 := Lib.hid hb1
  clear hoc hof hsc hsf hb1
  obtain ⟨us, hus⟩ : ∃ us, us = isUsable ⟨x0, x1, x2, x3, x4, x5, x6, cb⟩ ⟨fr, fp, fn, fi, fst, fb⟩ := ⟨_, rfl⟩
  have HI := Lib.hid (fun (W : World) (hb : Below w1.heap.size w1 W) => (show Calls Try.prog 34 #[.agg #[.int .i64 x0, .string (mk x1), .bool x2, .int .i64 x3, .int .i64 x4, .int .i64 x5, .int .i64 x6, .slice ca cb.length cc], .agg #[.int .i64 fr, .string (mk fp), .string (mk fn), .bool fi, .int .i64 fst, .slice ab fb.length ac]] W (fun e w' => e = .returned (.bool us) ∧ Below W.heap.size W w') by
    rw [hus]; exact impl_IsUsable _ _ _ _ _ _ _ _ cb _ _ _ _ _ _ fb _ _ W (HC.out.below hb) (owns_below HO.out hb) HZc.out HZf.out (by omega)))
  have HS := Lib.hid (fun (W : World) (hb : Below w1.heap.size w1 W) => (show Calls Try.prog 35 #[.agg #[.int .i64 x0, .string (mk x1), .bool x2, .int .i64 x3, .int .i64 x4, .int .i64 x5, .int .i64 x6, .slice ca cb.length cc], .agg #[.int .i64 fr, .string (mk fp), .string (mk fn), .bool fi, .int .i64 fst, .slice ab fb.length ac]] W (fun e w' => e = .returned (.bool us) ∧ Below W.heap.size W w') by
    rw [hus]; exact spec_IsUsable _ _ _ _ _ _ _ _ cb _ _ _ _ _ _ fb _ _ W (HC.out.below hb) (HF.out.below hb) HZc.out HZf.out))
  have Hus := Lib.hid hus
  clear hus
  have X1 := Lib.hid (Boxed2.start w1 #[.int .i64 x0, .string (mk x1), .bool x2, .int .i64 x3, .int .i64 x4, .int .i64 x5, .int .i64 x6, .slice ca cb.length cc] 53 #[.int .i64 fr, .string (mk fp), .string (mk fn), .bool fi, .int .i64 fst, .slice ab fb.length ac] 55)
  cases us
  · skip
    go_wp2_with fail
    refine (HI.out _ (by (repeat (with_reducible first | exact Below.refl _ _ | assumption | refine ba ?_ _ | refine bd ?_ | refine bdN ?_ _ | refine bs ?_ (by first | exact Nat.le_refl _ | (dsimp only; omega) | (simp; done)) _ | refine bt ?_ (by assumption))))).mono ?_
    rintro _ w2 ⟨rfl, hb2⟩
    have X2 := Lib.hid (X1.out.step hb2)
    have k0 : w2.cell? ⟨w1.heap.size, 0, none⟩ = some (.int .i64 x0) := X2.out.one.cell 0
    have k1 : w2.cell? ⟨w1.heap.size, 1, none⟩ = some (.string (mk x1)) := X2.out.one.cell 1
    have k2 : w2.cell? ⟨w1.heap.size, 2, none⟩ = some (.bool x2) := X2.out.one.cell 2
    have k3 : w2.cell? ⟨w1.heap.size, 3, none⟩ = some (.int .i64 x3) := X2.out.one.cell 3
    have k4 : w2.cell? ⟨w1.heap.size, 4, none⟩ = some (.int .i64 x4) := X2.out.one.cell 4
    have k5 : w2.cell? ⟨w1.heap.size, 5, none⟩ = some (.int .i64 x5) := X2.out.one.cell 5
    have k6 : w2.cell? ⟨w1.heap.size, 6, none⟩ = some (.int .i64 x6) := X2.out.one.cell 6
    have k7 : w2.cell? ⟨w1.heap.size, 7, none⟩ = some (.slice ca cb.length cc) := X2.out.one.cell 7
    have j0 : w2.cell? ⟨w1.heap.size + 1, 0, none⟩ = some (.int .i64 fr) := X2.out.cell 0
    have j1 : w2.cell? ⟨w1.heap.size + 1, 1, none⟩ = some (.string (mk fp)) := X2.out.cell 1
    have j2 : w2.cell? ⟨w1.heap.size + 1, 2, none⟩ = some (.string (mk fn)) := X2.out.cell 2
    have j3 : w2.cell? ⟨w1.heap.size + 1, 3, none⟩ = some (.bool fi) := X2.out.cell 3
    have j4 : w2.cell? ⟨w1.heap.size + 1, 4, none⟩ = some (.int .i64 fst) := X2.out.cell 4
    have j5 : w2.cell? ⟨w1.heap.size + 1, 5, none⟩ = some (.slice ab fb.length ac) := X2.out.cell 5
    go_wp2_with fail
    refine (HS.out _ (by have h := X2.out.below; (repeat (with_reducible first | exact Below.refl _ _ | assumption | refine ba ?_ _ | refine bd ?_ | refine bdN ?_ _ | refine bs ?_ (by first | exact Nat.le_refl _ | (dsimp only; omega) | (simp; done)) _ | refine bt ?_ (by assumption))))).mono ?_
    rintro _ w3 ⟨rfl, hb3⟩
    have X3 := Lib.hid (X2.out.step hb3)
    clear k0 k1 k2 k3 k4 k5 k6 k7 j0 j1 j2 j3 j4 j5
    have k0 : w3.cell? ⟨w1.heap.size, 0, none⟩ = some (.int .i64 x0) := X3.out.one.cell 0
    have k1 : w3.cell? ⟨w1.heap.size, 1, none⟩ = some (.string (mk x1)) := X3.out.one.cell 1
    have k2 : w3.cell? ⟨w1.heap.size, 2, none⟩ = some (.bool x2) := X3.out.one.cell 2
    have k3 : w3.cell? ⟨w1.heap.size, 3, none⟩ = some (.int .i64 x3) := X3.out.one.cell 3
    have k4 : w3.cell? ⟨w1.heap.size, 4, none⟩ = some (.int .i64 x4) := X3.out.one.cell 4
    have k5 : w3.cell? ⟨w1.heap.size, 5, none⟩ = some (.int .i64 x5) := X3.out.one.cell 5
    have k6 : w3.cell? ⟨w1.heap.size, 6, none⟩ = some (.int .i64 x6) := X3.out.one.cell 6
    have k7 : w3.cell? ⟨w1.heap.size, 7, none⟩ = some (.slice ca cb.length cc) := X3.out.one.cell 7
    have j0 : w3.cell? ⟨w1.heap.size + 1, 0, none⟩ = some (.int .i64 fr) := X3.out.cell 0
    have j1 : w3.cell? ⟨w1.heap.size + 1, 1, none⟩ = some (.string (mk fp)) := X3.out.cell 1
    have j2 : w3.cell? ⟨w1.heap.size + 1, 2, none⟩ = some (.string (mk fn)) := X3.out.cell 2
    have j3 : w3.cell? ⟨w1.heap.size + 1, 3, none⟩ = some (.bool fi) := X3.out.cell 3
    have j4 : w3.cell? ⟨w1.heap.size + 1, 4, none⟩ = some (.int .i64 fst) := X3.out.cell 4
    have j5 : w3.cell? ⟨w1.heap.size + 1, 5, none⟩ = some (.slice ab fb.length ac) := X3.out.cell 5
    go_wp2_with fail
    refine (HS.out _ (by have h := X3.out.below; (repeat (with_reducible first | exact Below.refl _ _ | assumption | refine ba ?_ _ | refine bd ?_ | refine bdN ?_ _ | refine bs ?_ (by first | exact Nat.le_refl _ | (dsimp only; omega) | (simp; done)) _ | refine bt ?_ (by assumption))))).mono ?_
    rintro _ w4 ⟨rfl, hb4⟩
    have X4 := Lib.hid (X3.out.step hb4)
    clear k0 k1 k2 k3 k4 k5 k6 k7 j0 j1 j2 j3 j4 j5
    have k0 : w4.cell? ⟨w1.heap.size, 0, none⟩ = some (.int .i64 x0) := X4.out.one.cell 0
    have k1 : w4.cell? ⟨w1.heap.size, 1, none⟩ = some (.string (mk x1)) := X4.out.one.cell 1
    have k2 : w4.cell? ⟨w1.heap.size, 2, none⟩ = some (.bool x2) := X4.out.one.cell 2
    have k3 : w4.cell? ⟨w1.heap.size, 3, none⟩ = some (.int .i64 x3) := X4.out.one.cell 3
    have k4 : w4.cell? ⟨w1.heap.size, 4, none⟩ = some (.int .i64 x4) := X4.out.one.cell 4
    have k5 : w4.cell? ⟨w1.heap.size, 5, none⟩ = some (.int .i64 x5) := X4.out.one.cell 5
    have k6 : w4.cell? ⟨w1.heap.size, 6, none⟩ = some (.int .i64 x6) := X4.out.one.cell 6
    have k7 : w4.cell? ⟨w1.heap.size, 7, none⟩ = some (.slice ca cb.length cc) := X4.out.one.cell 7
    have j0 : w4.cell? ⟨w1.heap.size + 1, 0, none⟩ = some (.int .i64 fr) := X4.out.cell 0
    have j1 : w4.cell? ⟨w1.heap.size + 1, 1, none⟩ = some (.string (mk fp)) := X4.out.cell 1
    have j2 : w4.cell? ⟨w1.heap.size + 1, 2, none⟩ = some (.string (mk fn)) := X4.out.cell 2
    have j3 : w4.cell? ⟨w1.heap.size + 1, 3, none⟩ = some (.bool fi) := X4.out.cell 3
    have j4 : w4.cell? ⟨w1.heap.size + 1, 4, none⟩ = some (.int .i64 fst) := X4.out.cell 4
    have j5 : w4.cell? ⟨w1.heap.size + 1, 5, none⟩ = some (.slice ab fb.length ac) := X4.out.cell 5
    go_wp2_with fail
    go_ret
    exact ⟨rfl, by have h := X4.out.below; have h1 := Hb1.out; exact h1.trans (h.mono h1.size)⟩
  go_wp2_with fail
  refine (HI.out _ (by (repeat (with_reducible first | exact Below.refl _ _ | assumption | refine ba ?_ _ | refine bd ?_ | refine bdN ?_ _ | refine bs ?_ (by first | exact Nat.le_refl _ | (dsimp only; omega) | (simp; done)) _ | refine bt ?_ (by assumption))))).mono ?_
  rintro _ w2 ⟨rfl, hb2⟩
  have X2 := Lib.hid (X1.out.step hb2)
  have k0 : w2.cell? ⟨w1.heap.size, 0, none⟩ = some (.int .i64 x0) := X2.out.one.cell 0
  have k1 : w2.cell? ⟨w1.heap.size, 1, none⟩ = some (.string (mk x1)) := X2.out.one.cell 1
  have k2 : w2.cell? ⟨w1.heap.size, 2, none⟩ = some (.bool x2) := X2.out.one.cell 2
  have k3 : w2.cell? ⟨w1.heap.size, 3, none⟩ = some (.int .i64 x3) := X2.out.one.cell 3
  have k4 : w2.cell? ⟨w1.heap.size, 4, none⟩ = some (.int .i64 x4) := X2.out.one.cell 4
  have k5 : w2.cell? ⟨w1.heap.size, 5, none⟩ = some (.int .i64 x5) := X2.out.one.cell 5
  have k6 : w2.cell? ⟨w1.heap.size, 6, none⟩ = some (.int .i64 x6) := X2.out.one.cell 6
  have k7 : w2.cell? ⟨w1.heap.size, 7, none⟩ = some (.slice ca cb.length cc) := X2.out.one.cell 7
  have j0 : w2.cell? ⟨w1.heap.size + 1, 0, none⟩ = some (.int .i64 fr) := X2.out.cell 0
  have j1 : w2.cell? ⟨w1.heap.size + 1, 1, none⟩ = some (.string (mk fp)) := X2.out.cell 1
  have j2 : w2.cell? ⟨w1.heap.size + 1, 2, none⟩ = some (.string (mk fn)) := X2.out.cell 2
  have j3 : w2.cell? ⟨w1.heap.size + 1, 3, none⟩ = some (.bool fi) := X2.out.cell 3
  have j4 : w2.cell? ⟨w1.heap.size + 1, 4, none⟩ = some (.int .i64 fst) := X2.out.cell 4
  have j5 : w2.cell? ⟨w1.heap.size + 1, 5, none⟩ = some (.slice ab fb.length ac) := X2.out.cell 5
  go_wp2_with fail
  refine (HS.out _ (by have h := X2.out.below; (repeat (with_reducible first | exact Below.refl _ _ | assumption | refine ba ?_ _ | refine bd ?_ | refine bdN ?_ _ | refine bs ?_ (by first | exact Nat.le_refl _ | (dsimp only; omega) | (simp; done)) _ | refine bt ?_ (by assumption))))).mono ?_
  rintro _ w3 ⟨rfl, hb3⟩
  have X3 := Lib.hid (X2.out.step hb3)
  clear k0 k1 k2 k3 k4 k5 k6 k7 j0 j1 j2 j3 j4 j5
  have k0 : w3.cell? ⟨w1.heap.size, 0, none⟩ = some (.int .i64 x0) := X3.out.one.cell 0
  have k1 : w3.cell? ⟨w1.heap.size, 1, none⟩ = some (.string (mk x1)) := X3.out.one.cell 1
  have k2 : w3.cell? ⟨w1.heap.size, 2, none⟩ = some (.bool x2) := X3.out.one.cell 2
  have k3 : w3.cell? ⟨w1.heap.size, 3, none⟩ = some (.int .i64 x3) := X3.out.one.cell 3
  have k4 : w3.cell? ⟨w1.heap.size, 4, none⟩ = some (.int .i64 x4) := X3.out.one.cell 4
  have k5 : w3.cell? ⟨w1.heap.size, 5, none⟩ = some (.int .i64 x5) := X3.out.one.cell 5
  have k6 : w3.cell? ⟨w1.heap.size, 6, none⟩ = some (.int .i64 x6) := X3.out.one.cell 6
  have k7 : w3.cell? ⟨w1.heap.size, 7, none⟩ = some (.slice ca cb.length cc) := X3.out.one.cell 7
  have j0 : w3.cell? ⟨w1.heap.size + 1, 0, none⟩ = some (.int .i64 fr) := X3.out.cell 0
  have j1 : w3.cell? ⟨w1.heap.size + 1, 1, none⟩ = some (.string (mk fp)) := X3.out.cell 1
  have j2 : w3.cell? ⟨w1.heap.size + 1, 2, none⟩ = some (.string (mk fn)) := X3.out.cell 2
  have j3 : w3.cell? ⟨w1.heap.size + 1, 3, none⟩ = some (.bool fi) := X3.out.cell 3
  have j4 : w3.cell? ⟨w1.heap.size + 1, 4, none⟩ = some (.int .i64 fst) := X3.out.cell 4
  have j5 : w3.cell? ⟨w1.heap.size + 1, 5, none⟩ = some (.slice ab fb.length ac) := X3.out.cell 5
  go_upto_region 7 with fail
  have hu := Hus.out.symm
  unfold isUsable at hu
  simp only [Bool.and_eq_true, decide_eq_true_eq] at hu
  obtain ⟨⟨⟨hoc, hof⟩, hpl⟩, hu⟩ := hu
  have hsz := (okCmp_size2 hoc)
  dsimp only at hsz
  unfold cplace fplace at hpl
  simp only [Prod.mk.injEq] at hpl
  obtain ⟨p0, p1, p2⟩ := hpl
  have hmo : modOf ⟨fr, fp, fn, fi, fst, fb⟩ = x1 := by unfold modOf; rw [if_pos hof]; exact p1.symm
  have hbz : bodySize fb = (sizeSum fb : Int) := by unfold bodySize; rw [if_pos (show okBody fb = true from okFil_body hof)]
  unfold usable at hu
  dsimp only at hu
  have Hmo := Lib.hid hmo
  have q0 := p0.symm
  have q2 := p2.symm
  clear hmo hoc hof p1 Hus
  obtain ⟨zz, hzz⟩ : ∃ zz, zz = bodySize fb := ⟨_, rfl⟩
  obtain ⟨hh, hhh⟩ : ∃ hh, hh = hashOf fb := ⟨_, rfl⟩
  rw [← hbz, ← hzz, ← hhh] at hu
  have Hzz := Lib.hid hzz
  have Hhh := Lib.hid hhh
  clear hzz hhh hbz
  have a0 := cell_regrown k0
  have a1 := cell_regrown k1
  have a2 := cell_regrown k2
  have a3 := cell_regrown k3
  have a4 := cell_regrown k4
  have a5 := cell_regrown k5
  have a6 := cell_regrown k6
  have a7 := cell_regrown k7
  have b0 := cell_regrown j0
  have b1 := cell_regrown j1
  have b2 := cell_regrown j2
  have b3 := cell_regrown j3
  have b4 := cell_regrown j4
  have b5 := cell_regrown j5
  clear k0 k1 k2 k3 k4 k5 k6 k7 j0 j1 j2 j3 j4 j5
  have cM : ∀ d os, Calls Try.prog 36 #[.agg #[.int .i64 fr, .string (mk fp), .string (mk fn), .bool fi, .int .i64 fst, .slice ab fb.length ac]] (grow (redrawn w3 d) os) fun e w'' => e = .returned (.string (mk x1)) ∧ ∃ p : Regrown, w'' = grow (redrawn w3 p.d) p.os := fun d os =>
    Calls.regrown_of (by have h := impl_ModuleOf fr fst fp fn fi _ fb _ (grow (redrawn w3 d) os) hfp hfn (HF.out.below (bt X3.out.below (below_regrown w3 d os))) HZb.out; rw [Hmo.out] at h; exact h)
  have cH : ∀ d os, Calls Try.prog 37 #[.slice ab fb.length ac] (grow (redrawn w3 d) os) fun e w'' => e = .returned (.int .i64 hh) ∧ ∃ p : Regrown, w'' = grow (redrawn w3 p.d) p.os := fun d os =>
    Calls.regrown_of (by rw [Hhh.out]; exact impl_HashOf _ fb _ (grow (redrawn w3 d) os) (HF.out.below (bt X3.out.below (below_regrown w3 d os))) HZb.out)
  have cS : ∀ d os, Calls Try.prog 38 #[.slice ab fb.length ac] (grow (redrawn w3 d) os) fun e w'' => e = .returned (.int .i64 zz) ∧ ∃ p : Regrown, w'' = grow (redrawn w3 p.d) p.os := fun d os =>
    Calls.regrown_of (by rw [Hzz.out]; exact impl_SizeOf _ fb _ (grow (redrawn w3 d) os) (HF.out.below (bt X3.out.below (below_regrown w3 d os))) HZb.out)
  clear hb2 hb3 X2 HI HS
  subst q0
  subst q2
  clear p0 p2
  by_cases m0 : x3 = 0
  · subst m0
    simp only [↓reduceIte, Bool.and_eq_true, decide_eq_true_eq] at hu
    obtain ⟨u1, u2⟩ := hu
    have u1' := u1.symm
    have u2' := u2.symm
    subst u1'
    subst u2'
    clear u1 u2 hsz
    refine wp_region_quiet_below (by kernel_rfl) (by kernel_rfl) ?_
    repeat (go_big_quiet_step (first | with_reducible exact cM _ _ | with_reducible exact cH _ _ | with_reducible exact cS _ _))
    refine wpQuiet_nil ?_
    intro _ hw'
    obtain ⟨⟨dq, osq⟩, hw2⟩ := hw'
    subst hw2
    have X9 := Lib.hid (X3.out.step (below_regrown w3 dq osq))
    go_wp2_with fail
    go_ret
    exact ⟨rfl, by have h := X9.out.below; have h1 := Hb1.out; exact h1.trans (h.mono h1.size)⟩
  by_cases m1 : x3 = 1
  · subst m1
    have hu2 : x6 = hh := by simpa using hu
    have u1' := hu2.symm
    subst u1'
    clear hu hu2 hsz
    refine wp_region_quiet_below (by kernel_rfl) (by kernel_rfl) ?_
    repeat (go_big_quiet_step (first | with_reducible exact cM _ _ | with_reducible exact cH _ _ | with_reducible exact cS _ _))
    refine wpQuiet_nil ?_
    intro _ hw'
    obtain ⟨⟨dq, osq⟩, hw2⟩ := hw'
    subst hw2
    have X9 := Lib.hid (X3.out.step (below_regrown w3 dq osq))
    go_wp2_with fail
    go_ret
    exact ⟨rfl, by have h := X9.out.below; have h1 := Hb1.out; exact h1.trans (h.mono h1.size)⟩
  obtain rfl : x3 = 2 := by omega
  clear hu hsz m0 m1
  refine wp_region_quiet_below (by kernel_rfl) (by kernel_rfl) ?_
  repeat (go_big_quiet_step (first | with_reducible exact cM _ _ | with_reducible exact cH _ _ | with_reducible exact cS _ _))
  refine wpQuiet_nil ?_
  intro _ hw'
  obtain ⟨⟨dq, osq⟩, hw2⟩ := hw'
  subst hw2
  have X9 := Lib.hid (X3.out.step (below_regrown w3 dq osq))
  go_wp2_with fail
  go_ret
  exact ⟨rfl, by have h := X9.out.below; have h1 := Hb1.out; exact h1.trans (h.mono h1.size)⟩

/-! ### THE STEP TO THE ROW -/
set_option maxRecDepth 100000 in
theorem lifted (os : Os) (started : os.Started) (H : Type) (enc : TypeId × Value → H) :
    ReturnsInHanded {} Try.checked os 6 .any (Rows.fnIsUsableSpec.pre6 enc Try.prog Try.f6 Rows.fnIsUsableRow.domain false) (Rows.fnIsUsableSpec.post enc Try.prog Try.f6 false true false false) := by
  refine returnsInHanded_of_change (C := Try.checked) own started (by kernel_rfl) Try.func6
    (ChangeSpec.witness6 (enc := enc) (C := Try.checked) false ⟨#[], #[.slice none 0 0], []⟩ 8 (by kernel_rfl) (by kernel_rfl) (by kernel_rfl) (by kernel_rfl)) ?_
  intro W base args ds gs before hval0 hW hcnd _
  have hval : ∀ (j : Nat) t v, Try.f6.params[j]? = some t → args[j]? = some v → Value.okWide Try.prog W .any base t v := hval0
  have hW' := hW
  obtain ⟨p, q, hA0, hV, rfl, hfz, hnd⟩ := hW
  have hA : DataW.TrodAll enc Try.prog W 0 (fun _ => true) true Try.f6.params.toList args.toList ds p := hA0
  rw [Try.params6] at hA hval
  obtain ⟨v0, vs0, d0, ds0, p0, q0, hargs, rfl, rfl, h0, r0⟩ := trodAll_cons hA
  obtain ⟨rfl, rfl, rfl⟩ := trodAll_nil r0
  obtain rfl : args = #[v0] := by cases args; simp_all
  obtain ⟨rfl, rfl⟩ := trodVars_none hV
  obtain ⟨a0, len0, cap0, rfl⟩ := okWide_slice Try.underlying47 (hval 0 47 v0 rfl rfl)
  have k0 := h0
  have lt0 : ∀ x ∈ p0, x.block < W.heap.size := by obtain ⟨m, hm⟩ := k0; exact DataW.trod_lt m _ _ _ hm
  have w0 : Code W W.heap.size a0 len0 cap0 := by
    obtain ⟨fuel, hf⟩ := h0
    rcases open_ints Try.underlying47 Try.underlying5 (by kernel_rfl) hf with ⟨hcs, _⟩ | ⟨x, l, c, zs, hcs, _, hl, hm, hz, _, hcell, hwz⟩
    · simp [Value.cells] at hcs
      obtain ⟨rfl, rfl, rfl⟩ := hcs
      exact .inl ⟨rfl, by unfold maxLen; omega⟩
    · simp [Value.cells] at hcs
      obtain ⟨rfl, rfl, rfl⟩ := hcs
      exact code_row W _ _ _ zs hl hm (by simpa using hz) hcell hwz
  clear hA0 hval0
  refine (walk a0 len0 cap0 W w0).mono fun e W' ⟨he, bel⟩ => ?_
  subst he
  exact ⟨_, rfl, _, _, _, [], _, [], hW', trodAll_mk1 (shut_bool Try.underlying4 _), (trodAll_cons_mk (Below.trod laidOut (by kernel_rfl) (of_decide_eq_true (by kernel_rfl)) k0 bel lt0) trodAll_mk0), rfl, bel.frame _, fun h => by cases h⟩

theorem over : Rows.fnIsUsableRow.holds Try.pinned (OpenSpec.ofChange Rows.fnIsUsableSpec) :=
  OpenClaim.holds_of_wide 6 Try.f6 rfl rfl rfl rfl rfl rfl rfl ⟨rfl, rfl, rfl, rfl, rfl⟩ rfl rfl rfl rfl rfl (by kernel_rfl) Try.func6 (by kernel_rfl)
    (of_decide_eq_true (by kernel_rfl)) (by unfold Func.isWrapper; first | (rw [if_pos (by decide +kernel)]; kernel_rfl) | (rw [if_neg (by decide +kernel)]; exact ⟨rfl, rfl⟩))
    (fun os started H enc _ => lifted os started H enc)

/-- THE STATEMENT -/
theorem proved : Rows.FnIsUsableSaid := over
end Go.Proofs.Ytomdmkhgkaalnaa.FnIsUsable
