/- Contracts of the functions that say whether what is compiled can be used for a file, of both sides. -/
import Derived.Test.YtomdmkhgkaalnaaCompile
set_option linter.unusedVariables false
set_option linter.unusedSimpArgs false
namespace Go.Proofs.Ytomdmkhgkaalnaa
open Go.RowKit Go.Proofs.Ytomdmkhgkaalnaa.Nm
open Go.Sort (grow)

/-- By what a mode tells bodies. -/
def fpOf (mode stamp size hash : Int) : Int × Int := if mode = 0 then (stamp, size) else if mode = 1 then (hash, 0) else (0, 0)
def fpVal (p : Int × Int) : Value := .agg #[.int .i64 p.1, .int .i64 p.2]
theorem okStore_one (c : Cmp) : okStore [c] = okCmp c := by simp [okStore]
theorem usable_fp (c : Cmp) (f : Fil) : usable c f = decide (fpOf c.mode c.stamp c.size c.hash = fpOf c.mode f.stamp (sizeSum f.body : Nat) (hashOf f.body)) := by
  unfold usable fpOf
  by_cases h0 : c.mode = 0
  · simp [h0, Prod.ext_iff]
  · by_cases h1 : c.mode = 1
    · simp [h1]
    · simp [h0, h1]

theorem plNeC (x y : Pl) (w : World) : (binOp .neq 90 (plVal x) (plVal y)).run Try.prog w = .ok (.bool (!decide (x = y))) w := by
  obtain ⟨a, b, c, d⟩ := x
  obtain ⟨a', b', c', d'⟩ := y
  by_cases h1 : a = a' <;> by_cases h2 : b = b' <;> by_cases h3 : c = c' <;> by_cases h4 : d = d' <;> simp [plVal, go_sem, h1, h2, h3, h4, Try.underlying90, Try.underlying3, Try.underlying9, Try.underlying4]
theorem fpEqIn (a b a' b' : Int) (w : World) : (Op.equalIn 10000 120 (.agg #[.int .i64 a, .int .i64 b]) (.agg #[.int .i64 a', .int .i64 b'])).run Try.prog w = .ok (a == a' && b == b') w := by
  have u3 := Try.underlying3
  have a3 := Try.isAgg3
  have z3 := Try.sizeOf3
  rw [show (10000 : Nat) = 9999 + 1 from rfl, Op.equalIn]
  simp only [Sem.run_bind, run_underlying Try.underlying120, Result.andThen_ok]
  simp only [Std.Legacy.Range.forIn_eq_forIn_range', Std.Legacy.Range.size, Nat.sub_zero, Nat.add_sub_cancel, Nat.div_one, List.range'_succ, List.range'_zero, List.forIn_cons, List.forIn_nil]
  go_simp
  by_cases h1 : a = a' <;> by_cases h2 : b = b' <;> simp [h1, h2]
theorem fpEq (x y : Int × Int) (w : World) : (binOp .eql 120 (fpVal x) (fpVal y)).run Try.prog w = .ok (.bool (decide (x = y))) w := by
  obtain ⟨a, b⟩ := x
  obtain ⟨a', b'⟩ := y
  unfold fpVal
  rw [run_eql_struct, fpEqIn]
  by_cases h1 : a = a' <;> by_cases h2 : b = b' <;> simp [h1, h2]
set_option maxRecDepth 100000 in
set_option maxHeartbeats 1000000 in
theorem impl_fingerprintOf (x0 : Int) (x1 : Bs) (x2 : Bool) (x3 x4 x5 x6 : Int) (bv : Value) (w : World) :
    Calls Try.prog 92 #[.agg #[.int .i64 x0, .string (mk x1), .bool x2, .int .i64 x3, .int .i64 x4, .int .i64 x5, .int .i64 x6, bv]] w fun e w' => e = .returned (fpVal (fpOf x3 x4 x5 x6)) ∧ Below w.heap.size w w' := by
  by_cases h0 : x3 = 0
  · subst h0
    have Hv := Lib.hid (show fpOf 0 x4 x5 x6 = (x4, x5) from rfl)
    go_enter Try.func92, Try.ntmps92
    go_wp2_with fail
    refine bodyPost_ret (v := fpVal (x4, x5)) (by simp [results, Try.results92, go_sem, fpVal]) rfl ?_
    rw [Hv.out]
    exact ⟨rfl, by (repeat (with_reducible first | exact Below.refl _ _ | assumption | refine ba ?_ _ | refine bd ?_ | refine bdN ?_ _ | refine bs ?_ (by first | exact Nat.le_refl _ | (dsimp only; omega) | (simp; done)) _ | refine bt ?_ (by assumption)))⟩
  by_cases h1 : x3 = 1
  · subst h1
    have Hv := Lib.hid (show fpOf 1 x4 x5 x6 = (x6, 0) from rfl)
    clear h0
    go_enter Try.func92, Try.ntmps92
    go_wp2_with fail
    refine bodyPost_ret (v := fpVal (x6, 0)) (by simp [results, Try.results92, go_sem, fpVal]) rfl ?_
    rw [Hv.out]
    exact ⟨rfl, by (repeat (with_reducible first | exact Below.refl _ _ | assumption | refine ba ?_ _ | refine bd ?_ | refine bdN ?_ _ | refine bs ?_ (by first | exact Nat.le_refl _ | (dsimp only; omega) | (simp; done)) _ | refine bt ?_ (by assumption)))⟩
  have Hv := Lib.hid (show fpOf x3 x4 x5 x6 = (0, 0) by unfold fpOf; rw [if_neg h0, if_neg h1])
  have h0b : (x3 == 0) = false := by simp [h0]
  have h1b : (x3 == 1) = false := by simp [h1]
  go_enter Try.func92, Try.ntmps92
  go_wp2_with fail
  refine bodyPost_ret (v := fpVal (0, 0)) (by simp [results, Try.results92, go_sem, fpVal]) rfl ?_
  rw [Hv.out]
  exact ⟨rfl, by (repeat (with_reducible first | exact Below.refl _ _ | assumption | refine ba ?_ _ | refine bd ?_ | refine bdN ?_ _ | refine bs ?_ (by first | exact Nat.le_refl _ | (dsimp only; omega) | (simp; done)) _ | refine bt ?_ (by assumption)))⟩
set_option maxRecDepth 100000 in
set_option maxHeartbeats 4000000 in
theorem impl_IsUsable (x0 : Int) (x1 : Bs) (x2 : Bool) (x3 x4 x5 x6 : Int) (cv : Value) (cb : List Stm) (r st : Int) (p n : Bs) (i : Bool) (bv : Value) (body : List Stm) (D : Nat → Prop) (B : Nat) (w : World)
    (hc : StmsIn w D cv cb) (hf : w.ownsRow B 124 5 bv body.length (body.flatMap stmCells)) (hzc : ShortC 1048576 ⟨x0, x1, x2, x3, x4, x5, x6, cb⟩) (hzf : ShortF 1048576 ⟨r, p, n, i, st, body⟩) (hl : body.length ≤ 1048576) :
    Calls Try.prog 34 #[.agg #[.int .i64 x0, .string (mk x1), .bool x2, .int .i64 x3, .int .i64 x4, .int .i64 x5, .int .i64 x6, cv], .agg #[.int .i64 r, .string (mk p), .string (mk n), .bool i, .int .i64 st, bv]] w
      fun e w' => e = .returned (.bool (isUsable ⟨x0, x1, x2, x3, x4, x5, x6, cb⟩ ⟨r, p, n, i, st, body⟩)) ∧ Below w.heap.size w w' := by
  have Hzf := Lib.hid hzf
  obtain ⟨hz1, hz2, hz3⟩ := hzf
  obtain ⟨hy1, hy2⟩ := hzc
  dsimp only at hz1 hz2 hz3 hy1 hy2
  have Hf := Lib.hid hf
  obtain ⟨ab, cbp, rfl⟩ := owns_shape hf
  have HS := Lib.hid (show StmsIn w (fun _ => True) (.slice ab body.length cbp) body from StmsIn.of_owns hf (fun _ _ => trivial))
  have HC := Lib.hid hc
  obtain ⟨ac, cc, rfl, _, _⟩ := hc.len
  have HZ3 := Lib.hid (short_mono (B := 8000000) (by omega) hz3)
  have HY2 := Lib.hid (short_mono (B := 8000000) (by omega) hy2)
  clear hf hc hz3 hy2
  obtain ⟨ans, hans⟩ : ∃ a, a = isUsable ⟨x0, x1, x2, x3, x4, x5, x6, cb⟩ ⟨r, p, n, i, st, body⟩ := ⟨_, rfl⟩
  rw [← hans]
  have Hans := Lib.hid hans
  clear hans
  obtain ⟨W1, hW1⟩ : ∃ W1, W1 = (w.alloc (.cells #[.int .i64 x0, .string (mk x1), .bool x2, .int .i64 x3, .int .i64 x4, .int .i64 x5, .int .i64 x6, .slice ac cb.length cc] 53)).alloc (.cells #[.int .i64 r, .string (mk p), .string (mk n), .bool i, .int .i64 st, .slice ab body.length cbp] 55) := ⟨_, rfl⟩
  have Hb := Lib.hid (show Below w.heap.size w W1 by rw [hW1]; (repeat (with_reducible first | exact Below.refl _ _ | assumption | refine ba ?_ _ | refine bd ?_ | refine bdN ?_ _ | refine bs ?_ (by first | exact Nat.le_refl _ | (dsimp only; omega) | (simp; done)) _ | refine bt ?_ (by assumption))))
  have X0 := Lib.hid (show BoxC W1 w.heap.size #[.int .i64 x0, .string (mk x1), .bool x2, .int .i64 x3, .int .i64 x4, .int .i64 x5, .int .i64 x6, .slice ac cb.length cc] by rw [hW1]; exact (BoxC.start w _ _).below (by (repeat (with_reducible first | exact Below.refl _ _ | assumption | refine ba ?_ _ | refine bd ?_ | refine bdN ?_ _ | refine bs ?_ (by first | exact Nat.le_refl _ | (dsimp only; omega) | (simp; done)) _ | refine bt ?_ (by assumption)))))
  have X1 := Lib.hid (show BoxC W1 (w.heap.size + 1) #[.int .i64 r, .string (mk p), .string (mk n), .bool i, .int .i64 st, .slice ab body.length cbp] by rw [hW1]; exact (BoxC.start (w.alloc (.cells #[.int .i64 x0, .string (mk x1), .bool x2, .int .i64 x3, .int .i64 x4, .int .i64 x5, .int .i64 x6, .slice ac cb.length cc] 53)) _ _).at (by simp))
  have HWe := Lib.hid hW1
  clear hW1
  have k0 := cell_regrown (show W1.cell? ⟨w.heap.size, 0, none⟩ = some (.int .i64 x0) from X0.out.2 0)
  have k1 := cell_regrown (show W1.cell? ⟨w.heap.size, 1, none⟩ = some (.string (mk x1)) from X0.out.2 1)
  have k2 := cell_regrown (show W1.cell? ⟨w.heap.size, 2, none⟩ = some (.bool x2) from X0.out.2 2)
  have k3 := cell_regrown (show W1.cell? ⟨w.heap.size, 3, none⟩ = some (.int .i64 x3) from X0.out.2 3)
  have k4 := cell_regrown (show W1.cell? ⟨w.heap.size, 4, none⟩ = some (.int .i64 x4) from X0.out.2 4)
  have k5 := cell_regrown (show W1.cell? ⟨w.heap.size, 5, none⟩ = some (.int .i64 x5) from X0.out.2 5)
  have k6 := cell_regrown (show W1.cell? ⟨w.heap.size, 6, none⟩ = some (.int .i64 x6) from X0.out.2 6)
  have k7 := cell_regrown (show W1.cell? ⟨w.heap.size, 7, none⟩ = some (.slice ac cb.length cc) from X0.out.2 7)
  have j0 := cell_regrown (show W1.cell? ⟨w.heap.size + 1, 0, none⟩ = some (.int .i64 r) from X1.out.2 0)
  have j1 := cell_regrown (show W1.cell? ⟨w.heap.size + 1, 1, none⟩ = some (.string (mk p)) from X1.out.2 1)
  have j2 := cell_regrown (show W1.cell? ⟨w.heap.size + 1, 2, none⟩ = some (.string (mk n)) from X1.out.2 2)
  have j3 := cell_regrown (show W1.cell? ⟨w.heap.size + 1, 3, none⟩ = some (.bool i) from X1.out.2 3)
  have j4 := cell_regrown (show W1.cell? ⟨w.heap.size + 1, 4, none⟩ = some (.int .i64 st) from X1.out.2 4)
  have j5 := cell_regrown (show W1.cell? ⟨w.heap.size + 1, 5, none⟩ = some (.slice ab body.length cbp) from X1.out.2 5)
  have cC : ∀ d os, Calls Try.prog 82 #[.agg #[.int .i64 x0, .string (mk x1), .bool x2, .int .i64 x3, .int .i64 x4, .int .i64 x5, .int .i64 x6, .slice ac cb.length cc]] (grow (redrawn W1 d) os) fun e w'' => e = .returned (.bool (okCmp ⟨x0, x1, x2, x3, x4, x5, x6, cb⟩)) ∧ ∃ p : Regrown, w'' = grow (redrawn W1 p.d) p.os := fun d os =>
    Calls.regrown_of (impl_validCompiled x0 x1 x2 x3 x4 x5 x6 _ cb D _ (HC.out.below (bt Hb.out (below_regrown W1 d os))) HY2.out (by omega))
  have cF : ∀ d os, Calls Try.prog 90 #[.agg #[.int .i64 r, .string (mk p), .string (mk n), .bool i, .int .i64 st, .slice ab body.length cbp]] (grow (redrawn W1 d) os) fun e w'' => e = .returned (.bool (okFil ⟨r, p, n, i, st, body⟩)) ∧ ∃ p : Regrown, w'' = grow (redrawn W1 p.d) p.os := fun d os =>
    Calls.regrown_of (impl_validFile r st p n i _ body (fun _ => True) _ (by omega) (by omega) (HS.out.below (bt Hb.out (below_regrown W1 d os))) HZ3.out)
  have cS : ∀ d os, Calls Try.prog 68 #[.agg #[.int .i64 x0, .string (mk x1), .bool x2, .int .i64 x3, .int .i64 x4, .int .i64 x5, .int .i64 x6, .slice ac cb.length cc]] (grow (redrawn W1 d) os) fun e w'' => e = .returned (plVal (srcPlace (x0, x1, x2))) ∧ ∃ p : Regrown, w'' = grow (redrawn W1 p.d) p.os := fun d os =>
    Calls.regrown_of (impl_placeOfSource x0 x1 x2 x3 x4 x5 x6 _ _ (by omega))
  have cP : ∀ d os, Calls Try.prog 91 #[.agg #[.int .i64 r, .string (mk p), .string (mk n), .bool i, .int .i64 st, .slice ab body.length cbp]] (grow (redrawn W1 d) os) fun e w'' => e = .returned (plVal (r, p, n, i)) ∧ ∃ p : Regrown, w'' = grow (redrawn W1 p.d) p.os := fun d os =>
    Calls.regrown_of (impl_placeOf r st p n i _ _)
  have Hpl := Lib.hid (fun (h1 : okCmp ⟨x0, x1, x2, x3, x4, x5, x6, cb⟩ = true) (h2 : okFil ⟨r, p, n, i, st, body⟩ = true) => (srcPlace_is (p := (x0, x1, x2)) (okCmp_vn h1) h2 : srcPlace (x0, x1, x2) = place ⟨r, p, n, i, st, body⟩ ↔ (x0, x1, x2) = fplace ⟨r, p, n, i, st, body⟩))
  have cN : ∀ W, (binOp .neq 90 (plVal (srcPlace (x0, x1, x2))) (plVal (r, p, n, i))).run Try.prog W = .ok (.bool (!decide (srcPlace (x0, x1, x2) = (r, p, n, i)))) W := fun W => plNeC _ _ W
  obtain ⟨⟨sr, sp, sn, si⟩, hsp⟩ : ∃ s, s = srcPlace (x0, x1, x2) := ⟨_, rfl⟩
  rw [← hsp] at cS cN Hpl
  have hcase : (ans = false ∧ (okCmp ⟨x0, x1, x2, x3, x4, x5, x6, cb⟩ = false ∨ (okCmp ⟨x0, x1, x2, x3, x4, x5, x6, cb⟩ = true ∧ okFil ⟨r, p, n, i, st, body⟩ = false) ∨
      (okCmp ⟨x0, x1, x2, x3, x4, x5, x6, cb⟩ = true ∧ okFil ⟨r, p, n, i, st, body⟩ = true ∧ decide ((sr, sp, sn, si) = (r, p, n, i)) = false))) ∨
      (okCmp ⟨x0, x1, x2, x3, x4, x5, x6, cb⟩ = true ∧ okFil ⟨r, p, n, i, st, body⟩ = true ∧ decide ((sr, sp, sn, si) = (r, p, n, i)) = true ∧ ans = usable ⟨x0, x1, x2, x3, x4, x5, x6, cb⟩ ⟨r, p, n, i, st, body⟩) := by
    rw [Hans.out]
    unfold isUsable
    cases h1 : okCmp ⟨x0, x1, x2, x3, x4, x5, x6, cb⟩
    · exact .inl ⟨by simp, .inl rfl⟩
    cases h2 : okFil ⟨r, p, n, i, st, body⟩
    · exact .inl ⟨by simp, .inr (.inl ⟨rfl, rfl⟩)⟩
    have h3 := Hpl.out h1 h2
    by_cases h4 : (sr, sp, sn, si) = (r, p, n, i)
    · refine .inr ⟨rfl, rfl, decide_eq_true h4, ?_⟩
      have h5 : cplace ⟨x0, x1, x2, x3, x4, x5, x6, cb⟩ = fplace ⟨r, p, n, i, st, body⟩ := h3.1 h4
      simp [h5]
    · refine .inl ⟨?_, .inr (.inr ⟨rfl, rfl, decide_eq_false h4⟩)⟩
      have h5 : ¬ cplace ⟨x0, x1, x2, x3, x4, x5, x6, cb⟩ = fplace ⟨r, p, n, i, st, body⟩ := fun e => h4 (h3.2 e)
      simp [h5]
  clear Hans Hpl
  clear hsp
  unfold plVal at cS cP cN
  dsimp only at cS cP cN
  generalize decide ((sr, sp, sn, si) = (r, p, n, i)) = bq at *
  have Hok1 := Lib.hid (fun (h : okCmp ⟨x0, x1, x2, x3, x4, x5, x6, cb⟩ = true) => (by unfold okCmp at h; simp only [Bool.and_eq_true] at h; exact h.1.1.1.1.2 : inr x3 0 2 = true))
  obtain ⟨b1, e1⟩ : ∃ b, b = okCmp ⟨x0, x1, x2, x3, x4, x5, x6, cb⟩ := ⟨_, rfl⟩
  obtain ⟨b2, e2⟩ : ∃ b, b = okFil ⟨r, p, n, i, st, body⟩ := ⟨_, rfl⟩
  rw [← e1] at cC hcase Hok1
  rw [← e2] at cF hcase
  have E2 := Lib.hid e2
  clear e1 e2
  rcases hcase with ⟨rfl, h⟩ | ⟨rfl, rfl, rfl, hu⟩
  · rcases h with rfl | ⟨rfl, rfl⟩ | ⟨rfl, rfl, rfl⟩
    all_goals
      try simp only [Bool.not_false, Bool.not_true] at cN
      go_enter Try.func34, Try.ntmps34
      go_upto_region 1 with fail
      rw [← HWe.out]
      refine wp_region_quiet_below (by kernel_rfl) (by kernel_rfl) ?_
      repeat (go_big_quiet_step (first | exact cC _ _ | exact cF _ _ | exact cS _ _ | exact cP _ _))
      refine wpQuiet_nil ?_
      intro _ hw'
      obtain ⟨⟨dq, osq⟩, hw2⟩ := hw'
      subst hw2
      have Hb7 := Lib.hid (bt Hb.out (below_regrown W1 dq osq))
      clear cC cF cS cP cN k0 k1 k2 k3 k4 k5 k6 k7 j0 j1 j2 j3 j4 j5
      go_wp2_with fail
      go_ret
      exact ⟨rfl, Hb7.out⟩
  · have Hu := Lib.hid hu
    have Hm := Lib.hid (Hok1.out rfl)
    clear hu
    try simp only [Bool.not_false, Bool.not_true] at cN
    go_enter Try.func34, Try.ntmps34
    go_upto_region 1 with fail
    rw [← HWe.out]
    refine wp_region_quiet_below (by kernel_rfl) (by kernel_rfl) ?_
    repeat (go_big_quiet_step (first | exact cC _ _ | exact cF _ _ | exact cS _ _ | exact cP _ _))
    refine wpQuiet_nil ?_
    intro _ hw'
    obtain ⟨⟨dq, osq⟩, hw2⟩ := hw'
    obtain ⟨W2, hW2⟩ : ∃ W2, W2 = grow (redrawn W1 dq) osq := ⟨_, rfl⟩
    rw [hw2, ← hW2]
    have Hb7 := Lib.hid (show Below W1.heap.size W1 W2 by rw [hW2]; exact below_regrown W1 dq osq)
    clear hw2 hW2 cC cF cS cP cN k0 k1 k2 k3 k4 k5 k6 k7 j0 j1 j2 j3 j4 j5
    have Hk := Lib.hid (fun (w' : World) (hC : Below W2.heap.size W2 w') => (have hB := bt Hb7.out hC; have h0 := X0.out.below hB; have h1 := X1.out.below hB; ⟨h0.2 0, h0.2 1, h0.2 2, h0.2 3, h0.2 4, h0.2 5, h0.2 6, h0.2 7, h1.2 0, h1.2 1, h1.2 2, h1.2 3, h1.2 4, h1.2 5⟩ : w'.cell? ⟨w.heap.size, 0, none⟩ = some (.int .i64 x0) ∧ w'.cell? ⟨w.heap.size, 1, none⟩ = some (.string (mk x1)) ∧ w'.cell? ⟨w.heap.size, 2, none⟩ = some (.bool x2) ∧ w'.cell? ⟨w.heap.size, 3, none⟩ = some (.int .i64 x3) ∧ w'.cell? ⟨w.heap.size, 4, none⟩ = some (.int .i64 x4) ∧ w'.cell? ⟨w.heap.size, 5, none⟩ = some (.int .i64 x5) ∧ w'.cell? ⟨w.heap.size, 6, none⟩ = some (.int .i64 x6) ∧ w'.cell? ⟨w.heap.size, 7, none⟩ = some (.slice ac cb.length cc) ∧ w'.cell? ⟨w.heap.size + 1, 0, none⟩ = some (.int .i64 r) ∧ w'.cell? ⟨w.heap.size + 1, 1, none⟩ = some (.string (mk p)) ∧ w'.cell? ⟨w.heap.size + 1, 2, none⟩ = some (.string (mk n)) ∧ w'.cell? ⟨w.heap.size + 1, 3, none⟩ = some (.bool i) ∧ w'.cell? ⟨w.heap.size + 1, 4, none⟩ = some (.int .i64 st) ∧ w'.cell? ⟨w.heap.size + 1, 5, none⟩ = some (.slice ab body.length cbp)))
    have hBB0 : Below W2.heap.size W2 W2 := Below.refl _ _
    obtain ⟨a0, a1, a2, a3, a4, a5, a6, a7, d0, d1, d2, d3, d4, d5⟩ := Hk.out W2 hBB0
    have Hcomp := Lib.hid (compile_yes (f := ⟨r, p, n, i, st, body⟩) (mode := x3) E2.out.symm Hm.out)
    have Hfp := Lib.hid (usable_fp ⟨x0, x1, x2, x3, x4, x5, x6, cb⟩ ⟨r, p, n, i, st, body⟩)
    have Hfp2 := Lib.hid (show ans = decide (fpOf x3 x4 x5 x6 = fpOf x3 st (sizeSum body : Nat) (hashOf body)) by rw [Hu.out, Hfp.out])
    obtain ⟨⟨p1, p2⟩, hp⟩ : ∃ q, q = fpOf x3 x4 x5 x6 := ⟨_, rfl⟩
    obtain ⟨⟨q1, q2⟩, hq⟩ : ∃ q, q = fpOf x3 st (sizeSum body : Nat) (hashOf body) := ⟨_, rfl⟩
    have HF1 := Lib.hid (show fpVal (fpOf x3 x4 x5 x6) = .agg #[.int .i64 p1, .int .i64 p2] by rw [← hp]; rfl)
    have HF2 := Lib.hid (show fpVal (fpOf (compiled ⟨r, p, n, i, st, body⟩ x3).mode (compiled ⟨r, p, n, i, st, body⟩ x3).stamp (compiled ⟨r, p, n, i, st, body⟩ x3).size (compiled ⟨r, p, n, i, st, body⟩ x3).hash) = .agg #[.int .i64 q1, .int .i64 q2] by show fpVal (fpOf x3 st (sizeSum body : Nat) (hashOf body)) = _; rw [← hq]; rfl)
    have cE := fun W => fpEq (p1, p2) (q1, q2) W
    rw [← hp, ← hq] at Hfp2
    clear hp hq
    unfold fpVal at cE
    dsimp only at cE
    generalize decide ((p1, p2) = (q1, q2)) = bq at *
    have HbW := Lib.hid (bt Hb.out Hb7.out)
    go_wp2_with fail
    go_region_held3 (fun w' => w'.cell? ⟨w.heap.size, 0, none⟩ = some (.int .i64 x0) ∧ w'.cell? ⟨w.heap.size, 1, none⟩ = some (.string (mk x1)) ∧ w'.cell? ⟨w.heap.size, 2, none⟩ = some (.bool x2) ∧ w'.cell? ⟨w.heap.size, 3, none⟩ = some (.int .i64 x3) ∧ w'.cell? ⟨w.heap.size, 4, none⟩ = some (.int .i64 x4) ∧ w'.cell? ⟨w.heap.size, 5, none⟩ = some (.int .i64 x5) ∧ w'.cell? ⟨w.heap.size, 6, none⟩ = some (.int .i64 x6) ∧ w'.cell? ⟨w.heap.size, 7, none⟩ = some (.slice ac cb.length cc) ∧ w'.cell? ⟨w.heap.size + 1, 0, none⟩ = some (.int .i64 r) ∧ w'.cell? ⟨w.heap.size + 1, 1, none⟩ = some (.string (mk p)) ∧ w'.cell? ⟨w.heap.size + 1, 2, none⟩ = some (.string (mk n)) ∧ w'.cell? ⟨w.heap.size + 1, 3, none⟩ = some (.bool i) ∧ w'.cell? ⟨w.heap.size + 1, 4, none⟩ = some (.int .i64 st) ∧ w'.cell? ⟨w.heap.size + 1, 5, none⟩ = some (.slice ab body.length cbp))
      (first | (refine Hk.out _ ?_; (repeat (with_reducible first | exact Below.refl _ _ | assumption | refine ba ?_ _ | refine bd ?_ | refine bdN ?_ _ | refine bs ?_ (by first | exact Nat.le_refl _ | (dsimp only; omega) | (simp; done)) _ | refine bt ?_ (by assumption))); done))
      (first
        | ((with_reducible (show Calls _ 92 #[.agg #[.int .i64 x0, .string (mk x1), .bool x2, .int .i64 x3, .int .i64 x4, .int .i64 x5, .int .i64 x6, .slice ac cb.length cc]] _ _)); refine (impl_fingerprintOf x0 x1 x2 x3 x4 x5 x6 _ _).mono ?_; rintro _ wA ⟨rfl, hbA⟩; rw [HF1.out]; have hBA : Below W2.heap.size W2 wA := by (repeat (with_reducible first | exact Below.refl _ _ | assumption | refine ba ?_ _ | refine bd ?_ | refine bdN ?_ _ | refine bs ?_ (by first | exact Nat.le_refl _ | (dsimp only; omega) | (simp; done)) _ | refine bt ?_ (by assumption))))
        | (go_at_call 93; refine (impl_CompileFile r st p n i _ body x3 0 _ (owns_mono (owns_below Hf.out (bt HbW.out (show Below W2.heap.size W2 _ by (repeat (with_reducible first | exact Below.refl _ _ | assumption | refine ba ?_ _ | refine bd ?_ | refine bdN ?_ _ | refine bs ?_ (by first | exact Nat.le_refl _ | (dsimp only; omega) | (simp; done)) _ | refine bt ?_ (by assumption)))))) (Nat.zero_le _)) Hzf.out hl).mono ?_; rintro _ wB ⟨nv, rfl, hownB, hbB⟩; rw [Hcomp.out]; have hBB2 : Below W2.heap.size W2 wB := (by (repeat (with_reducible first | exact Below.refl _ _ | assumption | refine ba ?_ _ | refine bd ?_ | refine bdN ?_ _ | refine bs ?_ (by first | exact Nat.le_refl _ | (dsimp only; omega) | (simp; done)) _ | refine bt ?_ (by assumption)))); clear hownB)
        | (go_at_call 92; refine (impl_fingerprintOf _ _ _ _ _ _ _ _ _).mono ?_; rintro _ wD ⟨rfl, hbD⟩; rw [HF2.out]; have hBD : Below W2.heap.size W2 wD := (by (repeat (with_reducible first | exact Below.refl _ _ | assumption | refine ba ?_ _ | refine bd ?_ | refine bdN ?_ _ | refine bs ?_ (by first | exact Nat.le_refl _ | (dsimp only; omega) | (simp; done)) _ | refine bt ?_ (by assumption))))))
    go_wp2_with fail
    go_ret
    exact ⟨ret_bool Hfp2.out.symm, bt HbW.out (by (repeat (with_reducible first | exact Below.refl _ _ | assumption | refine ba ?_ _ | refine bd ?_ | refine bdN ?_ _ | refine bs ?_ (by first | exact Nat.le_refl _ | (dsimp only; omega) | (simp; done)) _ | refine bt ?_ (by assumption))))⟩

/-! ### Contracts of the model's functions that say whether what is compiled can be used for a file. -/
set_option maxRecDepth 100000 in
set_option maxHeartbeats 4000000 in
theorem spec_usable (x0 : Int) (x1 : Bs) (x2 : Bool) (x3 x4 x5 x6 : Int) (cv : Value) (cb : List Stm) (r st : Int) (p n : Bs) (i : Bool) (bv : Value) (body : List Stm) (D : Nat → Prop) (w : World)
    (hf : StmsIn w D bv body) (hz : Short 8000000 body) (hok : okBody body = true) :
    Calls Try.prog 95 #[.agg #[.int .i64 x0, .string (mk x1), .bool x2, .int .i64 x3, .int .i64 x4, .int .i64 x5, .int .i64 x6, cv], .agg #[.int .i64 r, .string (mk p), .string (mk n), .bool i, .int .i64 st, bv]] w
      fun e w' => e = .returned (.bool (usable ⟨x0, x1, x2, x3, x4, x5, x6, cb⟩ ⟨r, p, n, i, st, body⟩)) ∧ Below w.heap.size w w' := by
  have HS := Lib.hid hf
  have HZ := Lib.hid hz
  have Hok := Lib.hid hok
  obtain ⟨ab, cbp, rfl, _, _⟩ := hf.len
  clear hf hz hok
  obtain ⟨W1, hW1⟩ : ∃ W1, W1 = (w.alloc (.cells #[.int .i64 x0, .string (mk x1), .bool x2, .int .i64 x3, .int .i64 x4, .int .i64 x5, .int .i64 x6, cv] 53)).alloc (.cells #[.int .i64 r, .string (mk p), .string (mk n), .bool i, .int .i64 st, .slice ab body.length cbp] 55) := ⟨_, rfl⟩
  have Hb := Lib.hid (show Below w.heap.size w W1 by rw [hW1]; (repeat (with_reducible first | exact Below.refl _ _ | assumption | refine ba ?_ _ | refine bd ?_ | refine bdN ?_ _ | refine bs ?_ (by first | exact Nat.le_refl _ | (dsimp only; omega) | (simp; done)) _ | refine bt ?_ (by assumption))))
  have X0 := Lib.hid (show BoxC W1 w.heap.size #[.int .i64 x0, .string (mk x1), .bool x2, .int .i64 x3, .int .i64 x4, .int .i64 x5, .int .i64 x6, cv] by rw [hW1]; exact (BoxC.start w _ _).below (by (repeat (with_reducible first | exact Below.refl _ _ | assumption | refine ba ?_ _ | refine bd ?_ | refine bdN ?_ _ | refine bs ?_ (by first | exact Nat.le_refl _ | (dsimp only; omega) | (simp; done)) _ | refine bt ?_ (by assumption)))))
  have X1 := Lib.hid (show BoxC W1 (w.heap.size + 1) #[.int .i64 r, .string (mk p), .string (mk n), .bool i, .int .i64 st, .slice ab body.length cbp] by rw [hW1]; exact (BoxC.start (w.alloc (.cells #[.int .i64 x0, .string (mk x1), .bool x2, .int .i64 x3, .int .i64 x4, .int .i64 x5, .int .i64 x6, cv] 53)) _ _).at (by simp))
  have HWe := Lib.hid hW1
  clear hW1
  have k3 := cell_regrown (show W1.cell? ⟨w.heap.size, 3, none⟩ = some (.int .i64 x3) from X0.out.2 3)
  have k4 := cell_regrown (show W1.cell? ⟨w.heap.size, 4, none⟩ = some (.int .i64 x4) from X0.out.2 4)
  have k5 := cell_regrown (show W1.cell? ⟨w.heap.size, 5, none⟩ = some (.int .i64 x5) from X0.out.2 5)
  have k6 := cell_regrown (show W1.cell? ⟨w.heap.size, 6, none⟩ = some (.int .i64 x6) from X0.out.2 6)
  have j4 := cell_regrown (show W1.cell? ⟨w.heap.size + 1, 4, none⟩ = some (.int .i64 st) from X1.out.2 4)
  have j5 := cell_regrown (show W1.cell? ⟨w.heap.size + 1, 5, none⟩ = some (.slice ab body.length cbp) from X1.out.2 5)
  have m3 : W1.cell? ⟨w.heap.size, 3, none⟩ = some (.int .i64 x3) := X0.out.2 3
  have cZ : ∀ d os, Calls Try.prog 116 #[.slice ab body.length cbp] (grow (redrawn W1 d) os) fun e w'' => e = .returned (.int .i64 (sizeSum body : Nat)) ∧ ∃ p : Regrown, w'' = grow (redrawn W1 p.d) p.os := fun d os =>
    Calls.regrown_of (spec_sizeOf _ body D _ (HS.out.below (bt Hb.out (below_regrown W1 d os))) HZ.out Hok.out)
  have cH : ∀ d os, Calls Try.prog 117 #[.slice ab body.length cbp] (grow (redrawn W1 d) os) fun e w'' => e = .returned (.int .i64 (hashOf body)) ∧ ∃ p : Regrown, w'' = grow (redrawn W1 p.d) p.os := fun d os =>
    Calls.regrown_of (spec_hashOf _ body D _ (HS.out.below (bt Hb.out (below_regrown W1 d os))) HZ.out Hok.out)
  by_cases h0 : x3 = 0
  · subst h0
    have Hv := Lib.hid (show usable ⟨x0, x1, x2, 0, x4, x5, x6, cb⟩ ⟨r, p, n, i, st, body⟩ = (decide (x4 = st) && decide (x5 = (sizeSum body : Nat))) from rfl)
    by_cases h1 : x4 = st
    · by_cases h2 : x5 = (sizeSum body : Nat)
      · have Hv2 := Lib.hid (show (decide (x4 = st) && decide (x5 = (sizeSum body : Nat))) = true by simp [h1, h2])
        have h1b : (x4 == st) = true := by simp [h1]
        have h2b : (x5 == (sizeSum body : Nat)) = true := by simp [h2]
        clear h1 h2
        generalize ((sizeSum body : Nat) : Int) = sz at *
        go_enter Try.func95, Try.ntmps95
        go_upto_region 1 with fail
        rw [← HWe.out]
        go_wp2_with fail
        refine wp_region_quiet_below (by kernel_rfl) (by kernel_rfl) ?_
        repeat (go_big_quiet_step (exact cZ _ _))
        refine wpQuiet_nil ?_
        intro _ hw'
        obtain ⟨⟨dq, osq⟩, hw2⟩ := hw'
        subst hw2
        have Hb7 := Lib.hid (bt Hb.out (below_regrown W1 dq osq))
        clear cZ cH k3 k4 k5 k6 j4 j5 m3
        go_wp2_with fail
        go_ret
        rw [Hv.out, Hv2.out]
        exact ⟨rfl, Hb7.out⟩
      · have Hv2 := Lib.hid (show (decide (x4 = st) && decide (x5 = (sizeSum body : Nat))) = false by simp [h2])
        have h1b : (x4 == st) = true := by simp [h1]
        have h2b : (x5 == (sizeSum body : Nat)) = false := by simp [h2]
        have h2c := eq_false h2
        clear h1 h2
        generalize ((sizeSum body : Nat) : Int) = sz at *
        go_enter Try.func95, Try.ntmps95
        go_upto_region 1 with fail
        rw [← HWe.out]
        go_wp2_with fail
        refine wp_region_quiet_below (by kernel_rfl) (by kernel_rfl) ?_
        repeat (go_big_quiet_step (exact cZ _ _))
        refine wpQuiet_nil ?_
        intro _ hw'
        obtain ⟨⟨dq, osq⟩, hw2⟩ := hw'
        subst hw2
        have Hb7 := Lib.hid (bt Hb.out (below_regrown W1 dq osq))
        clear cZ cH k3 k4 k5 k6 j4 j5 m3
        go_wp2_with fail
        go_ret
        rw [Hv.out, Hv2.out]
        exact ⟨rfl, Hb7.out⟩
    · have Hv2 := Lib.hid (show (decide (x4 = st) && decide (x5 = (sizeSum body : Nat))) = false by simp [h1])
      have h1b : (x4 == st) = false := by simp [h1]
      have h1c := eq_false h1
      clear h1
      go_enter Try.func95, Try.ntmps95
      go_upto_region 1 with fail
      rw [← HWe.out]
      go_wp2_with fail
      refine wp_region_quiet_below (by kernel_rfl) (by kernel_rfl) ?_
      repeat (go_big_quiet_step (exact cZ _ _))
      refine wpQuiet_nil ?_
      intro _ hw'
      obtain ⟨⟨dq, osq⟩, hw2⟩ := hw'
      subst hw2
      have Hb7 := Lib.hid (bt Hb.out (below_regrown W1 dq osq))
      clear cZ cH k3 k4 k5 k6 j4 j5 m3
      go_wp2_with fail
      go_ret
      rw [Hv.out, Hv2.out]
      exact ⟨rfl, Hb7.out⟩
  by_cases h1 : x3 = 1
  · subst h1
    clear h0
    have Hv := Lib.hid (show usable ⟨x0, x1, x2, 1, x4, x5, x6, cb⟩ ⟨r, p, n, i, st, body⟩ = decide (x6 = hashOf body) from rfl)
    obtain ⟨hh, ehh⟩ : ∃ h, h = hashOf body := ⟨_, rfl⟩
    rw [← ehh] at cH Hv
    clear ehh
    go_enter Try.func95, Try.ntmps95
    go_upto_region 1 with fail
    rw [← HWe.out]
    go_wp2_with fail
    refine wp_region_quiet_below (by kernel_rfl) (by kernel_rfl) ?_
    repeat (go_big_quiet_step (exact cH _ _))
    refine wpQuiet_nil ?_
    intro _ hw'
    obtain ⟨⟨dq, osq⟩, hw2⟩ := hw'
    subst hw2
    have Hb7 := Lib.hid (bt Hb.out (below_regrown W1 dq osq))
    clear cZ cH k3 k4 k5 k6 j4 j5 m3
    go_wp2_with fail
    go_ret
    rw [Hv.out]
    exact ⟨ret_bool (by first | rfl | simp [beq_dec]), Hb7.out⟩
  have Hv := Lib.hid (show usable ⟨x0, x1, x2, x3, x4, x5, x6, cb⟩ ⟨r, p, n, i, st, body⟩ = true by unfold usable; dsimp only; rw [if_neg h0, if_neg h1])
  have h0b : (x3 == 0) = false := by simp [h0]
  have h1b : (x3 == 1) = false := by simp [h1]
  go_enter Try.func95, Try.ntmps95
  go_upto_region 1 with fail
  rw [← HWe.out]
  go_wp2_with fail
  go_ret
  rw [Hv.out]
  exact ⟨rfl, Hb.out⟩
end Go.Proofs.Ytomdmkhgkaalnaa
