/- Contracts of the program's functions that say which directories of a finder are stale. -/
import Derived.Test.YtllopbfgiflokaaGreatDisks2
import Derived.Test.YtllopbfgiflokaaGreatListD
import Derived.Test.YtllopbfgiflokaaGreatBoxS
import Derived.Test.YtllopbfgiflokaaGreatInts
import Derived.Deep.RegionHeld3
import Derived.Deep.QuietTactic
import Derived.BigQuiet
set_option linter.unusedVariables false
set_option linter.unusedSimpArgs false
namespace Go.Proofs.YtllopbfgiflokaaGreat
open Go.RowKit Go.Proofs.YtllopbfgiflokaaGreat.Nm
open Go.Sort (grow)

theorem stale_below_drewN {w a : World} (h : Below w.heap.size w a) (n : Nat) : Below w.heap.size w (a.drewN n) := bdN h n
theorem stale_eq_getElem {α : Type} {xs ys : List α} (h : xs.length = ys.length) (he : ∀ i (h1 : i < xs.length) (h2 : i < ys.length), xs[i] = ys[i]) : xs = ys := List.ext_getElem h he
set_option maxRecDepth 100000 in
set_option maxHeartbeats 400000 in
theorem slices_EqualX (va vb : Value) (xs ys : List Bs) (D : Nat → Prop) (w : World) (ha : StrsIn w D va xs) (hb : Reads w vb ys) (hx : xs.length ≤ 9500000) (hy : ys.length ≤ 9500000) :
    Calls Tryz.prog 52 #[va, vb] w fun e w' => e = .returned (.bool (decide (xs = ys))) ∧ Below w.heap.size w w' := by
  obtain ⟨aa, ca, rfl, _, _⟩ := ha.len
  obtain ⟨ab, cb, rfl⟩ : ∃ a c, vb = .slice a ys.length c := by
    rcases hb with ⟨rfl, rfl⟩ | ⟨b, off, cap, rfl, _⟩ <;> exact ⟨_, _, rfl⟩
  by_cases hl : xs.length = ys.length
  · have Ha := Lib.hid ha
    have Hb := Lib.hid hb
    have Hl := Lib.hid hl
    clear ha hb
    rw [← hl]
    clear hl
    go_enter Tryz.func52, Tryz.ntmps52
    go_wp2_with fail
    go_loopw [13] (fun kv wr => ∃ k : Nat, k ≤ xs.length ∧ kv = .int .i64 k ∧ Below w.heap.size w wr ∧ ∀ i (h1 : i < xs.length) (h2 : i < ys.length), i < k → xs[i] = ys[i]) (fun kv _ => xs.length - (intOf kv).toNat)
    case atStart => exact ⟨0, by omega, rfl, Below.refl _ _, fun i _ _ h => absurd h (by omega)⟩
    case round =>
      obtain ⟨k, hk, rfl, hbel, hp⟩ := hrel
      have Hp := Lib.hid hp
      clear hp
      by_cases hlt : k < xs.length
      · have hlt2 : k < ys.length := by rw [← Hl.out]; exact hlt
        obtain ⟨b1, o1, c1, e1, _, hb1, hc1⟩ := Ha.out.at_ hlt
        obtain ⟨b2, o2, c2, e2, _, _, hb2, hc2⟩ := Reads.some Hb.out (by omega)
        simp only [Value.slice.injEq] at e1 e2
        obtain ⟨rfl, _, rfl⟩ := e1
        obtain ⟨rfl, _, rfl⟩ := e2
        have hce1 := (hbel.cell (p := ⟨b1, o1 + k, none⟩) hb1).trans hc1
        have hce2 := (hbel.cell (p := ⟨b2, o2 + k, none⟩) hb2).trans (hc2 k hlt2)
        have hki : (k : Int) < (xs.length : Int) := by omega
        have hk0 : (0 : Int) ≤ (k : Int) := by omega
        clear hc1 hc2
        by_cases heq : xs[k] = ys[k]
        · have Heq := Lib.hid heq
          rw [← heq] at hce2
          clear heq
          go_wp2_with fail
          go_quiet (fail)
          go_wp2_with fail
          go_roundw
          case rel =>
            refine ⟨k + 1, by omega, by go_num, stale_below_drewN hbel _, fun i h1 h2 hi => ?_⟩
            by_cases e : i = k
            · subst e; exact Heq.out
            · exact Hp.out i h1 h2 (by omega)
          case measure => simp [intOf]; omega
        · have hne : (xs[k] == ys[k]) = false := by simpa using heq
          have hv : decide (xs = ys) = false := decide_eq_false (fun e => heq (by subst e; rfl))
          have Hv := Lib.hid hv
          clear hv heq
          generalize xs[k] = p at *
          generalize ys[k] = r at *
          go_wp2_with fail
          go_quiet (fail)
          go_wp2_with fail
          go_ret
          rw [Hv.out]
          exact ⟨rfl, stale_below_drewN hbel _⟩
      · have hv : decide (xs = ys) = true := decide_eq_true (stale_eq_getElem Hl.out (fun i h1 h2 => Hp.out i h1 h2 (by omega)))
        have Hv := Lib.hid hv
        clear hv
        go_wp2_with fail
        go_ret
        rw [Hv.out]
        exact ⟨rfl, hbel⟩
  · have hv : decide (xs = ys) = false := decide_eq_false (fun e => hl (by rw [e]))
    have Hv := Lib.hid hv
    have hlb : ((xs.length : Int) == (ys.length : Int)) = false := by rw [beq_eq_false_iff_ne]; omega
    clear hv hl ha hb
    generalize xs.length = n at *
    generalize ys.length = m at *
    go_enter Tryz.func52, Tryz.ntmps52
    go_wp2_with fail
    go_ret
    rw [Hv.out]
    exact ⟨rfl, Below.refl _ _⟩
theorem dsEq (r st st' : Int) (p : Bs) (w : World) : (binOp .eql 113 (.agg #[.int .i64 r, .string (mk p), .int .i64 st]) (.agg #[.int .i64 r, .string (mk p), .int .i64 st'])).run Tryz.prog w = .ok (.bool (decide (st = st'))) w := by
  by_cases h1 : st = st' <;> simp [go_sem, h1, Tryz.underlying113, Tryz.underlying110, Tryz.underlying3, Tryz.underlying9]
set_option maxRecDepth 100000 in
set_option maxHeartbeats 2000000 in
theorem impl_isBelieved (r st : Int) (p : Bs) (nv v : Value) (c : Int) (u : Value) (ds : List Dr) (D : Nat → Prop) (w : World) (hr : DirsIn w D u ds) :
    Calls Tryz.prog 51 #[.agg #[.int .i64 r, .string (mk p), .int .i64 st, nv], .agg #[v, .int .i64 c, u]] w fun e w' => e = .returned (.bool (decide (st = stampIn ds (r, p)))) ∧ Below w.heap.size w w' := by
  have Hr := Lib.hid hr
  clear hr
  obtain ⟨sn, hsn⟩ : ∃ s, s = stampIn ds (r, p) := ⟨_, rfl⟩
  have Hsn := Lib.hid hsn
  rw [← hsn]
  clear hsn
  have qE := fun W => dsEq r st sn p W
  generalize decide (st = sn) = bq at *
  obtain ⟨W1, hW1⟩ : ∃ W1, W1 = (w.alloc (.cells #[.int .i64 r, .string (mk p), .int .i64 st, nv] 66)).alloc (.cells #[v, .int .i64 c, u] 42) := ⟨_, rfl⟩
  have Hb := Lib.hid (show Below w.heap.size w W1 by rw [hW1]; (repeat (with_reducible first | exact Below.refl _ _ | assumption | refine ba ?_ _ | refine bd ?_ | refine bdN ?_ _ | refine bs ?_ (by first | exact Nat.le_refl _ | (dsimp only; omega) | (simp; done)) _ | refine bt ?_ (by assumption))))
  have X0 := Lib.hid (show BoxC W1 w.heap.size #[.int .i64 r, .string (mk p), .int .i64 st, nv] by rw [hW1]; exact (BoxC.start w _ _).below (by (repeat (with_reducible first | exact Below.refl _ _ | assumption | refine ba ?_ _ | refine bd ?_ | refine bdN ?_ _ | refine bs ?_ (by first | exact Nat.le_refl _ | (dsimp only; omega) | (simp; done)) _ | refine bt ?_ (by assumption)))))
  have X1 := Lib.hid (show BoxC W1 (w.heap.size + 1) #[v, .int .i64 c, u] by rw [hW1]; exact (BoxC.start (w.alloc (.cells #[.int .i64 r, .string (mk p), .int .i64 st, nv] 66)) _ _).at (by simp))
  have HWe := Lib.hid hW1
  clear hW1
  have Hk := Lib.hid (fun (w' : World) (hB : Below W1.heap.size W1 w') => (have h0 := X0.out.below hB; have h1 := X1.out.below hB; ⟨h0.2 0, h0.2 1, h0.2 2, h0.2 3, h1.2 0, h1.2 1, h1.2 2⟩ : w'.cell? ⟨w.heap.size, 0, none⟩ = some (.int .i64 r) ∧ w'.cell? ⟨w.heap.size, 1, none⟩ = some (.string (mk p)) ∧ w'.cell? ⟨w.heap.size, 2, none⟩ = some (.int .i64 st) ∧ w'.cell? ⟨w.heap.size, 3, none⟩ = some nv ∧ w'.cell? ⟨w.heap.size + 1, 0, none⟩ = some v ∧ w'.cell? ⟨w.heap.size + 1, 1, none⟩ = some (.int .i64 c) ∧ w'.cell? ⟨w.heap.size + 1, 2, none⟩ = some u))
  have hBB0 : Below W1.heap.size W1 W1 := Below.refl _ _
  obtain ⟨a0, a1, a2, a3, d0, d1, d2⟩ := Hk.out W1 hBB0
  go_enter Tryz.func51, Tryz.ntmps51
  go_upto_region 1 with fail
  rw [← HWe.out]
  go_region_held3 (fun w' => w'.cell? ⟨w.heap.size, 0, none⟩ = some (.int .i64 r) ∧ w'.cell? ⟨w.heap.size, 1, none⟩ = some (.string (mk p)) ∧ w'.cell? ⟨w.heap.size, 2, none⟩ = some (.int .i64 st) ∧ w'.cell? ⟨w.heap.size, 3, none⟩ = some nv ∧ w'.cell? ⟨w.heap.size + 1, 0, none⟩ = some v ∧ w'.cell? ⟨w.heap.size + 1, 1, none⟩ = some (.int .i64 c) ∧ w'.cell? ⟨w.heap.size + 1, 2, none⟩ = some u)
    (first
      | (refine HkA.out _ ?_; exact bs (bs (bs hBA (Nat.le_refl _) _) (Nat.le_refl _) _) (Nat.le_refl _) _)
      | (refine Hk.out _ ?_; (repeat (with_reducible first | exact Below.refl _ _ | assumption | refine ba ?_ _ | refine bd ?_ | refine bdN ?_ _ | refine bs ?_ (by first | exact Nat.le_refl _ | (dsimp only; omega) | (simp; done)) _ | refine bt ?_ (by assumption))); done))
    (first
      | (go_at_call 102; refine (impl_placeOfDir r st p nv _).mono ?_; rintro _ wA ⟨rfl, hbA⟩; unfold dpVal; dsimp only; have hBA : Below W1.heap.size W1 wA := (by (repeat (with_reducible first | exact Below.refl _ _ | assumption | refine ba ?_ _ | refine bd ?_ | refine bdN ?_ _ | refine bs ?_ (by first | exact Nat.le_refl _ | (dsimp only; omega) | (simp; done)) _ | refine bt ?_ (by assumption)))); have HkA := Hk; have hb2 := boxS_drew hbA; have hb3 := boxS_kept hb2; obtain ⟨z0, z1, z2, f0, f1, f2, zs⟩ := hb3)
      | (go_at_call 102; refine (impl_placeOfDir r st p nv _).mono ?_; rintro _ wA ⟨rfl, hbA⟩; unfold dpVal; dsimp only; have hBA : Below W1.heap.size W1 wA := (by (repeat (with_reducible first | exact Below.refl _ _ | assumption | refine ba ?_ _ | refine bd ?_ | refine bdN ?_ _ | refine bs ?_ (by first | exact Nat.le_refl _ | (dsimp only; omega) | (simp; done)) _ | refine bt ?_ (by assumption))))))
  · obtain ⟨W3, hW3⟩ : ∃ W3, W3 = wA.alloc (.cells #[.int .i64 r, .string (mk p), .int .i64 st] 113) := ⟨_, rfl⟩
    rw [← hW3]
    have H3 := Lib.hid (show Below W1.heap.size W1 W3 by rw [hW3]; exact ba hBA _)
    have HX := Lib.hid (show BoxC W3 wA.heap.size #[.int .i64 r, .string (mk p), .int .i64 st] by rw [hW3]; exact BoxC.start wA _ _)
    obtain ⟨X, hX⟩ : ∃ X, X = wA.heap.size := ⟨_, rfl⟩
    rw [← hX] at HX ⊢
    clear hX hW3
    have H03 := Lib.hid (bt Hb.out H3.out)
    have X13 := Lib.hid (X1.out.below H3.out)
    have k0 := cell_regrown (show W3.cell? ⟨X, 0, none⟩ = some (.int .i64 r) from HX.out.2 0)
    have k1 := cell_regrown (show W3.cell? ⟨X, 1, none⟩ = some (.string (mk p)) from HX.out.2 1)
    have k2 := cell_regrown (show W3.cell? ⟨X, 2, none⟩ = some (.int .i64 st) from HX.out.2 2)
    have j0 := cell_regrown (show W3.cell? ⟨w.heap.size + 1, 0, none⟩ = some v from X13.out.2 0)
    have j1 := cell_regrown (show W3.cell? ⟨w.heap.size + 1, 1, none⟩ = some (.int .i64 c) from X13.out.2 1)
    have j2 := cell_regrown (show W3.cell? ⟨w.heap.size + 1, 2, none⟩ = some u from X13.out.2 2)
    have cS : ∀ d os, Calls Tryz.prog 78 #[.agg #[v, .int .i64 c, u], .agg #[.int .i64 r, .string (mk p)]] (grow (redrawn W3 d) os) fun e w'' => e = .returned (.agg #[.int .i64 r, .string (mk p), .int .i64 sn]) ∧ ∃ p : Regrown, w'' = grow (redrawn W3 p.d) p.os := fun d os =>
      Calls.regrown_of (by rw [Hsn.out]; exact impl_stampOnDisk v c u ds D r p _ (Hr.out.below (bt H03.out (below_regrown W3 d os))))
    clear a0 a1 a2 a3 d0 d1 d2 hbA hBA
    go_wp2_with fail
    refine wp_region_quiet_below (by kernel_rfl) (by kernel_rfl) ?_
    repeat (go_big_quiet_step (exact cS _ _))
    refine wpQuiet_nil ?_
    intro _ hw'
    obtain ⟨⟨dq, osq⟩, hw2⟩ := hw'
    subst hw2
    have Hb7 := Lib.hid (bt H03.out (below_regrown W3 dq osq))
    clear cS k0 k1 k2 j0 j1 j2 qE
    go_wp2_with fail
    go_ret
    exact ⟨rfl, Hb7.out⟩
  · obtain ⟨W3, hW3⟩ : ∃ W3, W3 = ((wA.setCell ⟨W1.heap.size, 0, none⟩ (.int .i64 r)).setCell ⟨W1.heap.size, 1, none⟩ (.string (mk p))).setCell ⟨W1.heap.size, 2, none⟩ (.int .i64 st) := ⟨_, rfl⟩
    rw [← hW3]
    have H3 := Lib.hid (show Below W1.heap.size W1 W3 by rw [hW3]; exact bs (bs (bs hBA (Nat.le_refl _) _) (Nat.le_refl _) _) (Nat.le_refl _) _)
    have HX := Lib.hid (show BoxC W3 W1.heap.size #[.int .i64 r, .string (mk p), .int .i64 st] by rw [hW3]; exact boxS_set ((BoxC.start W1 _ _).below hb2) _ _ _)
    obtain ⟨X, hX⟩ : ∃ X, X = W1.heap.size := ⟨_, rfl⟩
    rw [← hX] at HX ⊢
    clear hX hW3
    have H03 := Lib.hid (bt Hb.out H3.out)
    have X13 := Lib.hid (X1.out.below H3.out)
    have k0 := cell_regrown (show W3.cell? ⟨X, 0, none⟩ = some (.int .i64 r) from HX.out.2 0)
    have k1 := cell_regrown (show W3.cell? ⟨X, 1, none⟩ = some (.string (mk p)) from HX.out.2 1)
    have k2 := cell_regrown (show W3.cell? ⟨X, 2, none⟩ = some (.int .i64 st) from HX.out.2 2)
    have j0 := cell_regrown (show W3.cell? ⟨w.heap.size + 1, 0, none⟩ = some v from X13.out.2 0)
    have j1 := cell_regrown (show W3.cell? ⟨w.heap.size + 1, 1, none⟩ = some (.int .i64 c) from X13.out.2 1)
    have j2 := cell_regrown (show W3.cell? ⟨w.heap.size + 1, 2, none⟩ = some u from X13.out.2 2)
    have cS : ∀ d os, Calls Tryz.prog 78 #[.agg #[v, .int .i64 c, u], .agg #[.int .i64 r, .string (mk p)]] (grow (redrawn W3 d) os) fun e w'' => e = .returned (.agg #[.int .i64 r, .string (mk p), .int .i64 sn]) ∧ ∃ p : Regrown, w'' = grow (redrawn W3 p.d) p.os := fun d os =>
      Calls.regrown_of (by rw [Hsn.out]; exact impl_stampOnDisk v c u ds D r p _ (Hr.out.below (bt H03.out (below_regrown W3 d os))))
    clear a0 a1 a2 a3 d0 d1 d2 hbA hBA hb2 z0 z1 z2 f0 f1 f2 zs
    go_wp2_with fail
    refine wp_region_quiet_below (by kernel_rfl) (by kernel_rfl) ?_
    repeat (go_big_quiet_step (exact cS _ _))
    refine wpQuiet_nil ?_
    intro _ hw'
    obtain ⟨⟨dq, osq⟩, hw2⟩ := hw'
    subst hw2
    have Hb7 := Lib.hid (bt H03.out (below_regrown W3 dq osq))
    clear cS k0 k1 k2 j0 j1 j2 qE
    go_wp2_with fail
    go_ret
    exact ⟨rfl, Hb7.out⟩
end Go.Proofs.YtllopbfgiflokaaGreat
