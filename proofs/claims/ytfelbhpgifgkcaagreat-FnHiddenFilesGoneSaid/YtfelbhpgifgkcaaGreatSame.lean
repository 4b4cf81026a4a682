/- Contracts of what compares two looks: slices.Equal at two types, and the program's own. -/
import Derived.Test.YtfelbhpgifgkcaaGreatSNames
import Derived.Test.YtfelbhpgifgkcaaGreatHidden
import Derived.Test.YtfelbhpgifgkcaaGreatPlainS
import Derived.Test.YtfelbhpgifgkcaaGreatBoxT
import Derived.Lib.QuietBelow
import Derived.BigQuiet
import Derived.Deep.RegionHeld3
set_option linter.unusedVariables false
set_option linter.unusedSimpArgs false
namespace Go.Proofs.YtfelbhpgifgkcaaGreat
open Go.Sort Go.RowKit Go.Proofs.YtfelbhpgifgkcaaGreat.Nm

set_option maxRecDepth 100000 in
set_option maxHeartbeats 400000 in
theorem slices_EqualI (va vb : Value) (xs ys : List Int) (w : World) (ha : IntsIn w va xs) (hb : IntsIn w vb ys) :
    Calls Tryz.prog 104 #[va, vb] w fun e w' => e = .returned (.bool (decide (xs = ys))) ∧ Below w.heap.size w w' := by
  have Ha := Lib.hid ha
  have Hb := Lib.hid hb
  obtain ⟨aa, ca, rfl, hl1, hm1⟩ := ha.len
  obtain ⟨ab, cb, rfl, hl2, hm2⟩ := hb.len
  unfold maxLen at hm1 hm2
  clear ha hb
  by_cases hl : xs.length = ys.length
  · have Hl := Lib.hid hl
    rw [← hl] at hl2 ⊢
    clear hl
    go_enter Tryz.func104, Tryz.ntmps104
    go_wp2_with fail
    go_loopw [13] (fun kv wr => ∃ k : Nat, k ≤ xs.length ∧ kv = .int .i64 k ∧ Below w.heap.size w wr ∧ ∀ i (h1 : i < xs.length) (h2 : i < ys.length), i < k → xs[i] = ys[i]) (fun kv _ => xs.length - (intOf kv).toNat)
    case atStart => exact ⟨0, by omega, rfl, Below.refl _ _, fun i _ _ h => absurd h (by omega)⟩
    case round =>
      obtain ⟨k, hk, rfl, hbel, hp⟩ := hrel
      have Hp := Lib.hid hp
      clear hp
      by_cases hlt : k < xs.length
      · have hlt2 : k < ys.length := by rw [← Hl.out]; exact hlt
        obtain ⟨b1, o1, c1, e1, hb1, hc1⟩ := Ha.out.at_ hlt
        obtain ⟨b2, o2, c2, e2, hb2, hc2⟩ := Hb.out.at_ hlt2
        simp only [Value.slice.injEq] at e1 e2
        obtain ⟨rfl, _, rfl⟩ := e1
        obtain ⟨rfl, _, rfl⟩ := e2
        have hce1 := (hbel.cell (p := ⟨b1, o1 + k, none⟩) hb1).trans hc1
        have hce2 := (hbel.cell (p := ⟨b2, o2 + k, none⟩) hb2).trans hc2
        have hki : (k : Int) < (xs.length : Int) := by omega
        have hk0 : (0 : Int) ≤ (k : Int) := by omega
        clear hc1 hc2
        by_cases heq : xs[k] = ys[k]
        · have Heq := Lib.hid heq
          rw [← heq] at hce2
          clear heq
          go_wp2_with fail
          go_quiet (fail)
          go_wp2_with fail
          go_roundw
          case rel =>
            refine ⟨k + 1, by omega, by go_num, below_drewN' hbel _, fun i h1 h2 hi => ?_⟩
            by_cases e : i = k
            · subst e; exact Heq.out
            · exact Hp.out i h1 h2 (by omega)
          case measure => simp [intOf]; omega
        · have hne : (xs[k] == ys[k]) = false := by simpa using heq
          have hv : decide (xs = ys) = false := decide_eq_false (fun e => heq (by subst e; rfl))
          have Hv := Lib.hid hv
          clear hv heq
          generalize xs[k] = p at *
          generalize ys[k] = r at *
          go_wp2_with fail
          go_quiet (fail)
          go_wp2_with fail
          go_ret
          rw [Hv.out]
          exact ⟨rfl, below_drewN' hbel _⟩
      · have hv : decide (xs = ys) = true := decide_eq_true (List.ext_getElem Hl.out (fun i h1 h2 => Hp.out i h1 h2 (by omega)))
        have Hv := Lib.hid hv
        clear hv
        go_wp2_with fail
        go_ret
        rw [Hv.out]
        exact ⟨rfl, hbel⟩
  · have hv : decide (xs = ys) = false := decide_eq_false (fun e => hl (by rw [e]))
    have Hv := Lib.hid hv
    have hlb : ((xs.length : Int) == (ys.length : Int)) = false := by rw [beq_eq_false_iff_ne]; omega
    clear hv hl
    generalize xs.length = n at *
    generalize ys.length = m at *
    go_enter Tryz.func104, Tryz.ntmps104
    go_wp2_with fail
    go_ret
    rw [Hv.out]
    exact ⟨rfl, Below.refl _ _⟩

set_option maxRecDepth 100000 in
set_option maxHeartbeats 400000 in
theorem slices_EqualS (va vb : Value) (xs ys : List Bs) (w : World) (ha : Reads w va xs) (hb : Reads w vb ys) (hx : xs.length ≤ 9500000) (hy : ys.length ≤ 9500000) :
    Calls Tryz.prog 54 #[va, vb] w fun e w' => e = .returned (.bool (decide (xs = ys))) ∧ Below w.heap.size w w' := by
  obtain ⟨aa, ca, rfl⟩ : ∃ a c, va = .slice a xs.length c := by
    rcases ha with ⟨rfl, rfl⟩ | ⟨b, off, cap, rfl, _⟩ <;> exact ⟨_, _, rfl⟩
  obtain ⟨ab, cb, rfl⟩ : ∃ a c, vb = .slice a ys.length c := by
    rcases hb with ⟨rfl, rfl⟩ | ⟨b, off, cap, rfl, _⟩ <;> exact ⟨_, _, rfl⟩
  by_cases hl : xs.length = ys.length
  · have Ha := Lib.hid ha
    have Hb := Lib.hid hb
    have Hl := Lib.hid hl
    clear ha hb
    rw [← hl]
    clear hl
    go_enter Tryz.func54, Tryz.ntmps54
    go_wp2_with fail
    go_loopw [13] (fun kv wr => ∃ k : Nat, k ≤ xs.length ∧ kv = .int .i64 k ∧ Below w.heap.size w wr ∧ ∀ i (h1 : i < xs.length) (h2 : i < ys.length), i < k → xs[i] = ys[i]) (fun kv _ => xs.length - (intOf kv).toNat)
    case atStart => exact ⟨0, by omega, rfl, Below.refl _ _, fun i _ _ h => absurd h (by omega)⟩
    case round =>
      obtain ⟨k, hk, rfl, hbel, hp⟩ := hrel
      have Hp := Lib.hid hp
      clear hp
      by_cases hlt : k < xs.length
      · have hlt2 : k < ys.length := by rw [← Hl.out]; exact hlt
        obtain ⟨b1, o1, c1, e1, _, _, hb1, hc1⟩ := Reads.some Ha.out (by omega)
        obtain ⟨b2, o2, c2, e2, _, _, hb2, hc2⟩ := Reads.some Hb.out (by omega)
        simp only [Value.slice.injEq] at e1 e2
        obtain ⟨rfl, _, rfl⟩ := e1
        obtain ⟨rfl, _, rfl⟩ := e2
        have hce1 := (hbel.cell (p := ⟨b1, o1 + k, none⟩) hb1).trans (hc1 k hlt)
        have hce2 := (hbel.cell (p := ⟨b2, o2 + k, none⟩) hb2).trans (hc2 k hlt2)
        have hki : (k : Int) < (xs.length : Int) := by omega
        have hk0 : (0 : Int) ≤ (k : Int) := by omega
        clear hc1 hc2
        by_cases heq : xs[k] = ys[k]
        · have Heq := Lib.hid heq
          rw [← heq] at hce2
          clear heq
          go_wp2_with fail
          go_quiet (fail)
          go_wp2_with fail
          go_roundw
          case rel =>
            refine ⟨k + 1, by omega, by go_num, below_drewN hbel _, fun i h1 h2 hi => ?_⟩
            by_cases e : i = k
            · subst e; exact Heq.out
            · exact Hp.out i h1 h2 (by omega)
          case measure => simp [intOf]; omega
        · have hne : (xs[k] == ys[k]) = false := by simpa using heq
          have hv : decide (xs = ys) = false := decide_eq_false (fun e => heq (by subst e; rfl))
          have Hv := Lib.hid hv
          clear hv heq
          generalize xs[k] = p at *
          generalize ys[k] = r at *
          go_wp2_with fail
          go_quiet (fail)
          go_wp2_with fail
          go_ret
          rw [Hv.out]
          exact ⟨rfl, below_drewN hbel _⟩
      · have hv : decide (xs = ys) = true := decide_eq_true (eq_getElem Hl.out (fun i h1 h2 => Hp.out i h1 h2 (by omega)))
        have Hv := Lib.hid hv
        clear hv
        go_wp2_with fail
        go_ret
        rw [Hv.out]
        exact ⟨rfl, hbel⟩
  · have hv : decide (xs = ys) = false := decide_eq_false (fun e => hl (by rw [e]))
    have Hv := Lib.hid hv
    have hlb : ((xs.length : Int) == (ys.length : Int)) = false := by rw [beq_eq_false_iff_ne]; omega
    clear hv hl
    generalize xs.length = n at *
    generalize ys.length = m at *
    go_enter Tryz.func54, Tryz.ntmps54
    go_wp2_with fail
    go_ret
    rw [Hv.out]
    exact ⟨rfl, Below.refl _ _⟩

/-- What the four boxes of a comparison hold. -/
theorem box4 (w : World) (c0 c1 c2 c3 : Array Value) (T0 T1 T2 T3 : TypeId) :
    BoxC ((((w.alloc (.cells c0 T0)).alloc (.cells c1 T1)).alloc (.cells c2 T2)).alloc (.cells c3 T3)) w.heap.size c0 ∧
    BoxC ((((w.alloc (.cells c0 T0)).alloc (.cells c1 T1)).alloc (.cells c2 T2)).alloc (.cells c3 T3)) (w.heap.size + 1) c1 ∧
    BoxC ((((w.alloc (.cells c0 T0)).alloc (.cells c1 T1)).alloc (.cells c2 T2)).alloc (.cells c3 T3)) (w.heap.size + 2) c2 ∧
    BoxC ((((w.alloc (.cells c0 T0)).alloc (.cells c1 T1)).alloc (.cells c2 T2)).alloc (.cells c3 T3)) (w.heap.size + 3) c3 := by
  refine ⟨?_, ?_, ?_, ?_⟩
  · exact (((BoxC.start w c0 T0).below (ba (Below.refl _ _) _)).below (ba (Below.refl _ _) _)).below (ba (Below.refl _ _) _)
  · exact (((BoxC.start (w.alloc (.cells c0 T0)) c1 T1).below (ba (Below.refl _ _) _)).below (ba (Below.refl _ _) _)).at (by simp)
  · exact ((BoxC.start ((w.alloc (.cells c0 T0)).alloc (.cells c1 T1)) c2 T2).below (ba (Below.refl _ _) _)).at (by simp)
  · exact (BoxC.start (((w.alloc (.cells c0 T0)).alloc (.cells c1 T1)).alloc (.cells c2 T2)) c3 T3).at (by simp)

theorem sameSpc_kind {t u : List Fil} {a b : Spc} (h : ¬ a.kind = b.kind) : sameSpc t u a b = false := by simp [sameSpc, h]
theorem sameSpc_rows {t u : List Fil} {a b : Spc} (h : decide (a.roots = b.roots) = false) : sameSpc t u a b = false := by simp [sameSpc, h]
theorem sameSpc_files {t u : List Fil} {a b : Spc} (h1 : a.kind = b.kind) (h2 : a.roots = b.roots) {i j : Nat} (hi : i < t.length) (hj : j < u.length) (e1 : a.file = i) (e2 : b.file = j) :
    sameSpc t u a b = decide (place t[i] = place u[j]) := by
  unfold sameSpc atPl
  rw [e1, e2, decide_eq_true h1, decide_eq_true h2, if_neg (by omega), decide_eq_true (show (0 : Int) ≤ (j : Int) by omega)]
  simp [List.getElem?_eq_getElem hi, List.getElem?_eq_getElem hj]
theorem sameSpc_nofile {t u : List Fil} {a b : Spc} (h1 : a.kind = b.kind) (h2 : a.roots = b.roots) (ha : -1 ≤ a.file) (hb : -1 ≤ b.file) (h : a.file = -1 ∨ b.file = -1) : sameSpc t u a b = (a.file == b.file) := by
  unfold sameSpc
  rw [decide_eq_true h1, decide_eq_true h2]
  by_cases e : a.file < 0
  · rw [if_pos e, Bool.eq_iff_iff]; simp; omega
  · rw [if_neg e, decide_eq_false (show ¬ 0 ≤ b.file by omega), Bool.eq_iff_iff]; simp; omega

set_option maxRecDepth 100000 in
set_option maxHeartbeats 2000000 in
theorem impl_sameSpec (v v' : Value) (fs us : List Fil) (D D' : Nat → Prop) (a b : Spc) (ra rb : Value) (w : World) (hr : FilsIn w D v fs) (hu : FilsIn w D' v' us) (ha : IntsIn w ra a.roots) (hb : IntsIn w rb b.roots) (h1 : -1 ≤ a.file ∧ a.file < fs.length) (h2 : -1 ≤ b.file ∧ b.file < us.length) :
    Calls Tryz.prog 55 #[.agg #[v], .agg #[v'], .agg #[.int .i64 a.kind, .int .i64 a.file, ra], .agg #[.int .i64 b.kind, .int .i64 b.file, rb]] w fun e w' => e = .returned (.bool (sameSpc fs us a b)) ∧ Below w.heap.size w w' := by
  obtain ⟨k1, f1, r1⟩ := a
  obtain ⟨k2, f2, r2⟩ := b
  have Hr := Lib.hid hr
  have Hu := Lib.hid hu
  have Ha := Lib.hid ha
  have Hb := Lib.hid hb
  obtain ⟨ta, tc, rfl, _, _⟩ := hr.len
  obtain ⟨ua, uc, rfl, _, _⟩ := hu.len
  obtain ⟨aa, ca, rfl, _, _⟩ := ha.len
  obtain ⟨ab, cb, rfl, _, _⟩ := hb.len
  dsimp only at h1 h2 ⊢
  obtain ⟨h1a, h1b⟩ := h1
  obtain ⟨h2a, h2b⟩ := h2
  clear hr hu ha hb
  obtain ⟨W, hW⟩ : ∃ W, W = (((w.alloc (.cells #[.slice ta fs.length tc] 25)).alloc (.cells #[.slice ua us.length uc] 25)).alloc (.cells #[.int .i64 k1, .int .i64 f1, .slice aa r1.length ca] 93)).alloc (.cells #[.int .i64 k2, .int .i64 f2, .slice ab r2.length cb] 93) := ⟨_, rfl⟩
  have HW := Lib.hid hW
  have Hbw := Lib.hid (show Below w.heap.size w W by rw [hW]; (repeat (with_reducible first | exact Below.refl _ _ | assumption | refine ba ?_ _ | refine bd ?_ | refine bdN ?_ _ | refine bs ?_ (by first | exact Nat.le_refl _ | (dsimp only; omega) | (simp; done)) _ | refine bt ?_ (by assumption))))
  have HB := Lib.hid (by rw [hW]; exact box4 w _ _ _ _ _ _ _ _ : BoxC W w.heap.size #[.slice ta fs.length tc] ∧ BoxC W (w.heap.size + 1) #[.slice ua us.length uc] ∧ BoxC W (w.heap.size + 2) #[.int .i64 k1, .int .i64 f1, .slice aa r1.length ca] ∧ BoxC W (w.heap.size + 3) #[.int .i64 k2, .int .i64 f2, .slice ab r2.length cb])
  clear hW
  have Hk := Lib.hid (fun (w' : World) (hC : Below W.heap.size W w') => (⟨(HB.out.1.below hC).2 0, (HB.out.2.1.below hC).2 0, (HB.out.2.2.1.below hC).2 0, (HB.out.2.2.1.below hC).2 1, (HB.out.2.2.1.below hC).2 2, (HB.out.2.2.2.below hC).2 0, (HB.out.2.2.2.below hC).2 1, (HB.out.2.2.2.below hC).2 2⟩ : w'.cell? ⟨w.heap.size, 0, none⟩ = some (.slice ta fs.length tc) ∧ w'.cell? ⟨w.heap.size + 1, 0, none⟩ = some (.slice ua us.length uc) ∧ w'.cell? ⟨w.heap.size + 2, 0, none⟩ = some (.int .i64 k1) ∧ w'.cell? ⟨w.heap.size + 2, 1, none⟩ = some (.int .i64 f1) ∧ w'.cell? ⟨w.heap.size + 2, 2, none⟩ = some (.slice aa r1.length ca) ∧ w'.cell? ⟨w.heap.size + 3, 0, none⟩ = some (.int .i64 k2) ∧ w'.cell? ⟨w.heap.size + 3, 1, none⟩ = some (.int .i64 f2) ∧ w'.cell? ⟨w.heap.size + 3, 2, none⟩ = some (.slice ab r2.length cb)))
  obtain ⟨x0, x1, x2, x3, x4, x5, x6, x7⟩ := Hk.out W (Below.refl _ _)
  go_enter Tryz.func55, Tryz.ntmps55
  go_upto_region 1 with fail
  rw [← HW.out]
  by_cases hk : k1 = k2
  · subst hk
    cases hd : decide (r1 = r2)
    · have Hd := Lib.hid hd
      have Hs := Lib.hid (sameSpc_rows (t := fs) (u := us) (a := ⟨k1, f1, r1⟩) (b := ⟨k1, f2, r2⟩) hd)
      clear hd
      go_wp2_with (go_at_call 104; refine (slices_EqualI _ _ r1 r2 _ (Ha.out.below Hbw.out) (Hb.out.below Hbw.out)).mono ?_; rintro _ w5 ⟨rfl, hb5⟩; rw [Hd.out])
      go_ret
      exact ⟨ret_bool Hs.out.symm, bt Hbw.out hb5⟩
    · have Hd := Lib.hid hd
      have hrr := of_decide_eq_true hd
      by_cases hf : f1 = -1 ∨ f2 = -1
      · have Hs := Lib.hid (sameSpc_nofile (t := fs) (u := us) (a := ⟨k1, f1, r1⟩) (b := ⟨k1, f2, r2⟩) rfl hrr h1a h2a hf)
        have hor : ((f1 == (-1 : Int)) || (f2 == (-1 : Int))) = true := by rcases hf with e | e <;> simp [e]
        clear hd hrr
        rcases (show f1 = -1 ∨ (¬ f1 = -1 ∧ f2 = -1) by omega) with e | ⟨e, e2⟩
        · subst e
          go_wp2_with (go_at_call 104; refine (slices_EqualI _ _ r1 r2 _ (Ha.out.below Hbw.out) (Hb.out.below Hbw.out)).mono ?_; rintro _ w5 ⟨rfl, hb5⟩; rw [Hd.out]; clear x0 x1 x2 x3 x4 x5 x6 x7; obtain ⟨x0, x1, x2, x3, x4, x5, x6, x7⟩ := Hk.out w5 hb5)
          all_goals (go_ret; exact ⟨ret_bool Hs.out.symm, bt Hbw.out hb5⟩)
        · subst e2
          have eb : (f1 == (-1 : Int)) = false := by rw [beq_eq_false_iff_ne]; exact e
          go_wp2_with (go_at_call 104; refine (slices_EqualI _ _ r1 r2 _ (Ha.out.below Hbw.out) (Hb.out.below Hbw.out)).mono ?_; rintro _ w5 ⟨rfl, hb5⟩; rw [Hd.out]; clear x0 x1 x2 x3 x4 x5 x6 x7; obtain ⟨x0, x1, x2, x3, x4, x5, x6, x7⟩ := Hk.out w5 hb5)
          all_goals (go_ret; exact ⟨ret_bool (by first | exact Hs.out.symm | exact (Hs.out.trans eb).symm), bt Hbw.out hb5⟩)
      · obtain ⟨i, hi⟩ := Int.eq_ofNat_of_zero_le (show 0 ≤ f1 by omega)
        obtain ⟨j, hj⟩ := Int.eq_ofNat_of_zero_le (show 0 ≤ f2 by omega)
        subst hi hj
        have hil : i < fs.length := by omega
        have hjl : j < us.length := by omega
        have Hs := Lib.hid (sameSpc_files (t := fs) (u := us) (a := ⟨k1, (i : Int), r1⟩) (b := ⟨k1, (j : Int), r2⟩) rfl hrr hil hjl rfl rfl)
        have ei : ((i : Int) == (-1 : Int)) = false := by rw [beq_eq_false_iff_ne]; omega
        have ej : ((j : Int) == (-1 : Int)) = false := by rw [beq_eq_false_iff_ne]; omega
        clear hd hrr hf
        obtain ⟨b1, o1, q1, bv1, e1, _, hb1, hbody1, c0, c1, c2, c3, c4, c5⟩ := Hr.out.at_ hil
        obtain ⟨b2, o2, q2, bv2, e2, _, hb2, hbody2, d0, d1, d2, d3, d4, d5⟩ := Hu.out.at_ hjl
        simp only [Value.slice.injEq] at e1 e2
        obtain ⟨rfl, _, rfl⟩ := e1
        obtain ⟨rfl, _, rfl⟩ := e2
        obtain ⟨f, hf⟩ : ∃ f, f = fs[i] := ⟨_, rfl⟩
        obtain ⟨g, hg⟩ : ∃ g, g = us[j] := ⟨_, rfl⟩
        rw [← hf, ← hg] at Hs
        rw [← hf] at c0 c1 c2 c3 c4
        rw [← hg] at d0 d1 d2 d3 d4
        clear hf hg hbody1 hbody2
        obtain ⟨fr, fp, fn, fi, fst, fb⟩ := f
        obtain ⟨gr, gp, gn, gi, gst, gb⟩ := g
        dsimp only at c0 c1 c2 c3 c4 c5 d0 d1 d2 d3 d4 d5
        have Hc := Lib.hid (fun (w' : World) (hC : Below w.heap.size w w') => (by
          have hc := fun o => hC.cell (p := ⟨b1, o, none⟩) hb1
          have hd := fun o => hC.cell (p := ⟨b2, o, none⟩) hb2
          exact ⟨(hc _).trans c0, (hc _).trans c1, (hc _).trans c2, (hc _).trans c3, (hc _).trans c4, (hc _).trans c5, (hd _).trans d0, (hd _).trans d1, (hd _).trans d2, (hd _).trans d3, (hd _).trans d4, (hd _).trans d5⟩ :
          w'.cell? ⟨b1, o1 + i * 6, none⟩ = some (.int .i64 fr) ∧ w'.cell? ⟨b1, o1 + i * 6 + 1, none⟩ = some (.string (mk fp)) ∧ w'.cell? ⟨b1, o1 + i * 6 + 2, none⟩ = some (.string (mk fn)) ∧ w'.cell? ⟨b1, o1 + i * 6 + 3, none⟩ = some (.bool fi) ∧ w'.cell? ⟨b1, o1 + i * 6 + 4, none⟩ = some (.int .i64 fst) ∧ w'.cell? ⟨b1, o1 + i * 6 + 5, none⟩ = some bv1 ∧
          w'.cell? ⟨b2, o2 + j * 6, none⟩ = some (.int .i64 gr) ∧ w'.cell? ⟨b2, o2 + j * 6 + 1, none⟩ = some (.string (mk gp)) ∧ w'.cell? ⟨b2, o2 + j * 6 + 2, none⟩ = some (.string (mk gn)) ∧ w'.cell? ⟨b2, o2 + j * 6 + 3, none⟩ = some (.bool gi) ∧ w'.cell? ⟨b2, o2 + j * 6 + 4, none⟩ = some (.int .i64 gst) ∧ w'.cell? ⟨b2, o2 + j * 6 + 5, none⟩ = some bv2))
        clear c0 c1 c2 c3 c4 c5 d0 d1 d2 d3 d4 d5 hb1 hb2
        go_wp2_with (go_at_call 104; refine (slices_EqualI _ _ r1 r2 _ (Ha.out.below Hbw.out) (Hb.out.below Hbw.out)).mono ?_; rintro _ w5 ⟨rfl, hb5⟩; rw [Hd.out]; clear x0 x1 x2 x3 x4 x5 x6 x7; obtain ⟨x0, x1, x2, x3, x4, x5, x6, x7⟩ := Hk.out w5 hb5)
        obtain ⟨c0, c1, c2, c3, c4, c5, d0, d1, d2, d3, d4, d5⟩ := Hc.out w5 (bt Hbw.out hb5)
        have Hb5 := Lib.hid (bt Hbw.out hb5)
        have y0 := cell_regrown x0
        have y1 := cell_regrown x1
        have y2 := cell_regrown x3
        have y3 := cell_regrown x6
        have z0 := cell_regrown c0
        have z1 := cell_regrown c1
        have z2 := cell_regrown c2
        have z3 := cell_regrown c3
        have z4 := cell_regrown c4
        have z5 := cell_regrown c5
        have u0 := cell_regrown d0
        have u1 := cell_regrown d1
        have u2 := cell_regrown d2
        have u3 := cell_regrown d3
        have u4 := cell_regrown d4
        have u5 := cell_regrown d5
        clear x0 x1 x2 x3 x4 x5 x6 x7 c0 c1 c2 c3 c4 c5 d0 d1 d2 d3 d4 d5 hb5
        have qE := fun w => plEq (fr, fp, fn, fi) (gr, gp, gn, gi) w
        have Hs2 := Lib.hid (show sameSpc fs us ⟨k1, (i : Int), r1⟩ ⟨k1, (j : Int), r2⟩ = decide ((fr, fp, fn, fi) = (gr, gp, gn, gi)) from Hs.out)
        unfold plVal at qE
        dsimp only at qE
        generalize decide ((fr, fp, fn, fi) = (gr, gp, gn, gi)) = cc at *
        have hi1 : (i : Int) < (fs.length : Int) := by omega
        have hj1 : (j : Int) < (us.length : Int) := by omega
        have hi0 : (0 : Int) ≤ (i : Int) := by omega
        have hj0 : (0 : Int) ≤ (j : Int) := by omega
        have cP : ∀ d os, Calls Tryz.prog 63 #[.agg #[.int .i64 fr, .string (mk fp), .string (mk fn), .bool fi, .int .i64 fst, bv1]] (grow (redrawn w5 d) os) fun e w'' => e = .returned (.agg #[.int .i64 fr, .string (mk fp), .string (mk fn), .bool fi]) ∧ ∃ p : Regrown, w'' = grow (redrawn w5 p.d) p.os := fun d os =>
          Calls.regrown_of (impl_placeOf fr fst fp fn fi bv1 (grow (redrawn w5 d) os))
        have cQ : ∀ d os, Calls Tryz.prog 63 #[.agg #[.int .i64 gr, .string (mk gp), .string (mk gn), .bool gi, .int .i64 gst, bv2]] (grow (redrawn w5 d) os) fun e w'' => e = .returned (.agg #[.int .i64 gr, .string (mk gp), .string (mk gn), .bool gi]) ∧ ∃ p : Regrown, w'' = grow (redrawn w5 p.d) p.os := fun d os =>
          Calls.regrown_of (impl_placeOf gr gst gp gn gi bv2 (grow (redrawn w5 d) os))
        refine wp_region_quiet_below (by kernel_rfl) (by kernel_rfl) ?_
        repeat (go_big_quiet_step (first | with_reducible exact cP _ _ | with_reducible exact cQ _ _))
        refine wpQuiet_nil ?_
        intro _ hw'
        obtain ⟨⟨dq, osq⟩, hw2⟩ := hw'
        subst hw2
        have Hb7 := Lib.hid (bt Hb5.out (below_regrown w5 dq osq))
        clear cP cQ y0 y1 y2 y3 z0 z1 z2 z3 z4 z5 u0 u1 u2 u3 u4 u5 qE
        go_wp2_with fail
        go_ret
        exact ⟨ret_bool Hs2.out.symm, Hb7.out⟩
  · have Hs := Lib.hid (sameSpc_kind (t := fs) (u := us) (a := ⟨k1, f1, r1⟩) (b := ⟨k2, f2, r2⟩) hk)
    have hkb : (k1 == k2) = false := by rw [beq_eq_false_iff_ne]; exact hk
    have hkn : (k1 != k2) = true := by rw [bne, hkb]; rfl
    go_wp2_with fail
    go_ret
    exact ⟨ret_bool Hs.out.symm, Hbw.out⟩
theorem sameL_no1 {t u : List Fil} {path : List Int} (h : okLook t path = false) : sameLook t u path = false := by rw [← sameLook_eq]; unfold sameLook'; rw [h]; rfl
theorem sameL_no2 {t u : List Fil} {path : List Int} (h : okLook u path = false) : sameLook t u path = false := by rw [← sameLook_eq]; unfold sameLook'; rw [h]; simp
theorem sameL_no3 {t u : List Fil} {path : List Int} (h : decide (foundNames t path = foundNames u path) = false) : sameLook t u path = false := by rw [← sameLook_eq]; unfold sameLook'; rw [h]; simp
theorem sameL_at {t u : List Fil} {path : List Int} (h1 : okLook t path = true) (h2 : okLook u path = true) (h3 : decide (foundNames t path = foundNames u path) = true) :
    sameLook t u path = (foundNames t path).all (fun s => sameSpc t u (byParts t path s) (byParts u path s)) := by
  rw [← sameLook_eq]; unfold sameLook'; rw [h1, h2, h3]; simp
theorem all_no {α : Type} {p : α → Bool} {l : List α} {k : Nat} (h : k < l.length) (hp : p l[k] = false) : l.all p = false := by
  rw [List.all_eq_false]; exact ⟨l[k], List.getElem_mem h, by simp [hp]⟩
theorem all_yes {α : Type} {p : α → Bool} {l : List α} (h : ∀ j (hj : j < l.length), p l[j] = true) : l.all p = true := by
  rw [List.all_eq_true]; intro x hx; obtain ⟨j, hj, rfl⟩ := List.getElem_of_mem hx; exact h j hj
theorem foundNames_len {t : List Fil} {path : List Int} (h : okTree t = true) : (foundNames t path).length ≤ 36 := by
  unfold foundNames; split
  · exact Nat.le_trans (List.length_filter_le _ _) (Nat.le_trans (sortUp_len _) (Nat.le_trans (nmOf_len _ (okTree_all h).1) (by have := (okTree_all h).2.2; omega)))
  · simp
set_option maxRecDepth 100000 in
set_option maxHeartbeats 4000000 in
theorem impl_SameFinds (v : Value) (fs : List Fil) (D : Nat → Prop) (v' : Value) (us : List Fil) (D' : Nat → Prop) (pv : Value) (path : List Int) (w : World) (hr : FilsIn w D v fs) (hz : ShortT 2000000 fs) (hu : FilsIn w D' v' us) (hzu : ShortT 2000000 us) (hp : IntsIn w pv path) :
    Calls Tryz.prog 12 #[.agg #[v], .agg #[v'], pv] w fun e w' => e = .returned (.bool (sameLook fs us path)) ∧ Below w.heap.size w w' := by
  have Hr := Lib.hid hr
  have Hz := Lib.hid hz
  have Hu := Lib.hid hu
  have Hzu := Lib.hid hzu
  have Hp := Lib.hid hp
  obtain ⟨aa, ca, rfl, hl, hm⟩ := hr.len
  obtain ⟨ab, cb, rfl, hl2, hm2⟩ := hu.len
  obtain ⟨pa, pc, rfl, hl1, hm1⟩ := hp.len
  have Hb0 := Lib.hid (Boxed2.start w #[.slice aa fs.length ca] 25 #[.slice ab us.length cb] 25)
  clear hr hz hu hzu hp hl hm hl1 hm1 hl2 hm2
  have Hk := Lib.hid (fun (w' : World) (hC : Boxed2 w #[.slice aa fs.length ca] 25 #[.slice ab us.length cb] 25 w') => (⟨hC.one.cell 0, hC.cell 0⟩ : w'.cell? ⟨w.heap.size, 0, none⟩ = some (.slice aa fs.length ca) ∧ w'.cell? ⟨w.heap.size + 1, 0, none⟩ = some (.slice ab us.length cb)))
  cases h1 : okLook fs path
  · have H1 := Lib.hid h1
    have Hs := Lib.hid (sameL_no1 (u := us) h1)
    clear h1
    go_enter Tryz.func12, Tryz.ntmps12
    go_wp2_with (go_at_call 53; refine (impl_validLook _ fs D _ path _ (Hr.out.below Hb0.out.below) Hz.out (Hp.out.below Hb0.out.below)).mono ?_; rintro _ w5 ⟨rfl, hb5⟩; rw [H1.out]; have Hx5 := Lib.hid (Hb0.out.step hb5))
    go_ret
    exact ⟨ret_bool Hs.out.symm, Hx5.out.below⟩
  cases h2 : okLook us path
  · have H1 := Lib.hid h1
    have H2 := Lib.hid h2
    have Hs := Lib.hid (sameL_no2 (t := fs) h2)
    clear h1 h2
    go_enter Tryz.func12, Tryz.ntmps12
    go_wp2_with (first
      | (go_at_call 53; refine (impl_validLook _ fs D _ path _ (Hr.out.below Hb0.out.below) Hz.out (Hp.out.below Hb0.out.below)).mono ?_; rintro _ w5 ⟨rfl, hb5⟩; rw [H1.out]; have Hx5 := Lib.hid (Hb0.out.step hb5); obtain ⟨x0, x1⟩ := Hk.out _ Hx5.out)
      | (go_at_call 53; refine (impl_validLook _ us D' _ path _ (Hu.out.below Hx5.out.below) Hzu.out (Hp.out.below Hx5.out.below)).mono ?_; rintro _ w6 ⟨rfl, hb6⟩; rw [H2.out]; have Hx6 := Lib.hid (Hx5.out.step hb6)))
    go_ret
    exact ⟨ret_bool Hs.out.symm, Hx6.out.below⟩
  have H1 := Lib.hid h1
  have H2 := Lib.hid h2
  have Ht1 := Lib.hid (okLook_tree h1)
  have Ht2 := Lib.hid (okLook_tree h2)
  have hpl : path.length ≤ 100 := Nat.le_trans (okPath_len (okLook_path h1)) (by omega)
  have hfl : (foundNames fs path).length ≤ 36 := foundNames_len (okLook_tree h1)
  have hgl : (foundNames us path).length ≤ 36 := foundNames_len (okLook_tree h2)
  have Hnl := Lib.hid (fun s (h : s ∈ foundNames fs path) => vn_len (foundNames_vn h).2)
  have Hat := Lib.hid (fun h3 => sameL_at (t := fs) (u := us) (path := path) h1 h2 h3)
  have Hno3 := Lib.hid (fun h => sameL_no3 (t := fs) (u := us) (path := path) h)
  obtain ⟨L, hL⟩ : ∃ L, L = foundNames fs path := ⟨_, rfl⟩
  obtain ⟨M, hM⟩ : ∃ M, M = foundNames us path := ⟨_, rfl⟩
  rw [← hL] at hfl Hnl Hat Hno3
  rw [← hM] at hgl Hat Hno3
  have HL := Lib.hid hL
  have HM := Lib.hid hM
  clear h1 h2 hL hM
  go_enter Tryz.func12, Tryz.ntmps12
  go_wp2_with fail
  refine (impl_validLook _ fs D _ path _ (Hr.out.below Hb0.out.below) Hz.out (Hp.out.below Hb0.out.below)).mono ?_
  rintro _ w5 ⟨rfl, hb5⟩
  rw [H1.out]
  have Hx5 := Lib.hid (Hb0.out.step hb5)
  obtain ⟨x0, x1⟩ := Hk.out _ Hx5.out
  clear hb5
  go_wp2_with fail
  refine (impl_validLook _ us D' _ path _ (Hu.out.below Hx5.out.below) Hzu.out (Hp.out.below Hx5.out.below)).mono ?_
  rintro _ w6 ⟨rfl, hb6⟩
  rw [H2.out]
  have Hx6 := Lib.hid (Hx5.out.step hb6)
  clear x0 x1 hb6
  obtain ⟨x0, x1⟩ := Hk.out _ Hx6.out
  go_wp2_with fail
  refine (impl_FoundNames _ fs D _ path _ (Hr.out.below Hx6.out.below) Hz.out (Hp.out.below Hx6.out.below)).mono ?_
  rintro _ w7 ⟨v7, rfl, hown7, hb7⟩
  rw [← HL.out] at hown7
  have R7 := Lib.hid (Reads.of_owns hown7)
  obtain ⟨a7, c7, hv7⟩ := owns_shape hown7
  subst hv7
  have Hx7 := Lib.hid (Hx6.out.step hb7)
  clear hown7 x0 x1 hb7
  obtain ⟨x0, x1⟩ := Hk.out _ Hx7.out
  go_wp2_with fail
  refine (impl_FoundNames _ us D' _ path _ (Hu.out.below Hx7.out.below) Hzu.out (Hp.out.below Hx7.out.below)).mono ?_
  rintro _ w8 ⟨v8, rfl, hown8, hb8⟩
  rw [← HM.out] at hown8
  have R8 := Lib.hid (Reads.of_owns hown8)
  obtain ⟨a8, c8, hv8⟩ := owns_shape hown8
  subst hv8
  have Hx8 := Lib.hid (Hx7.out.step hb8)
  have R7b := Lib.hid (Reads.below R7.out hb8)
  clear hown8 x0 x1 hb8
  obtain ⟨x0, x1⟩ := Hk.out _ Hx8.out
  go_wp2_with fail
  refine (slices_EqualS _ _ L M _ R7b.out R8.out (by omega) (by omega)).mono ?_
  rintro _ w9 ⟨rfl, hb9⟩
  have Hx9 := Lib.hid (Hx8.out.step hb9)
  have R9 := Lib.hid (Reads.below R7b.out hb9)
  clear x0 x1 hb9
  obtain ⟨x0, x1⟩ := Hk.out _ Hx9.out
  obtain ⟨eqb, heq⟩ : ∃ eqb, eqb = decide (L = M) := ⟨_, rfl⟩
  rw [← heq]
  have Heq := Lib.hid heq.symm
  clear heq
  cases eqb
  · go_wp2_with fail
    go_ret
    exact ⟨ret_bool (Hno3.out Heq.out).symm, Hx9.out.below⟩
  · have Hs := Lib.hid (Hat.out Heq.out)
    clear Hno3 HL HM Hx5 Hx6 Hx7 Hx8
    clear Heq Hat R7 R7b R8 hgl
    go_wp2_with fail
    go_loopw [31] (fun iv wr => ∃ k : Nat, k ≤ L.length ∧ iv = .int .i64 k ∧ Boxed2 w #[.slice aa fs.length ca] 25 #[.slice ab us.length cb] 25 wr ∧ Reads wr (.slice a7 L.length c7) L ∧ ∀ j (hj : j < L.length), j < k → sameSpc fs us (byParts fs path L[j]) (byParts us path L[j]) = true) (fun iv _ => L.length - (intOf iv).toNat)
    case atStart => exact ⟨0, by omega, rfl, Hx9.out, R9.out, fun _ _ h => absurd h (by omega)⟩
    case round =>
      obtain ⟨k, hk, rfl, hbx, hrr, hall⟩ := hrel
      have Hx := Lib.hid hbx
      have RR := Lib.hid hrr
      have Hall := Lib.hid hall
      clear x0 x1 hbx hrr hall R9 Hx9
      obtain ⟨x0, x1⟩ := Hk.out _ Hx.out
      have hbs := Hx.out.lt
      by_cases hlt : k < L.length
      · obtain ⟨b1, o1, c1, e1, _, _, hb1, hc1⟩ := Reads.some RR.out (by omega)
        simp only [Value.slice.injEq] at e1
        obtain ⟨rfl, _, rfl⟩ := e1
        have hcell := hc1 k hlt
        have hnl := Hnl.out _ (List.getElem_mem hlt)
        have hki : (k : Int) < (L.length : Int) := by omega
        have Hsp1 := Lib.hid (byParts_ok fs path L[k])
        have Hsp2 := Lib.hid (byParts_ok us path L[k])
        have Hno := Lib.hid (fun (h : sameSpc fs us (byParts fs path L[k]) (byParts us path L[k]) = false) => (Hs.out.trans (all_no (p := fun s => sameSpc fs us (byParts fs path s) (byParts us path s)) hlt h)))
        have Hyes := Lib.hid (fun (h : sameSpc fs us (byParts fs path L[k]) (byParts us path L[k]) = true) => (fun j (hj : j < L.length) (h2 : j < k + 1) => (by
          by_cases e : j = k
          · subst e; exact h
          · exact Hall.out j hj (by omega) : sameSpc fs us (byParts fs path L[j]) (byParts us path L[j]) = true)))
        clear hc1
        generalize L[k] = nm at *
        obtain ⟨sp, hsp⟩ : ∃ sp, sp = byParts fs path nm := ⟨_, rfl⟩
        obtain ⟨sq, hsq⟩ : ∃ sq, sq = byParts us path nm := ⟨_, rfl⟩
        rw [← hsp] at Hsp1 Hno Hyes
        rw [← hsq] at Hsp2 Hno Hyes
        have HP := Lib.hid hsp.symm
        have HQ := Lib.hid hsq.symm
        clear hsp hsq
        obtain ⟨cc, hcc⟩ : ∃ cc, cc = sameSpc fs us sp sq := ⟨_, rfl⟩
        have Hcc := Lib.hid hcc
        have HkB := Lib.hid (fun (w' : World) (hC : Below wr.heap.size wr w') => (⟨(Hk.out _ (Hx.out.step hC)).1, (Hk.out _ (Hx.out.step hC)).2, hC⟩ : w'.cell? ⟨w.heap.size, 0, none⟩ = some (.slice aa fs.length ca) ∧ w'.cell? ⟨w.heap.size + 1, 0, none⟩ = some (.slice ab us.length cb) ∧ Below wr.heap.size wr w'))
        have HFb := Lib.hid (Hr.out.below Hx.out.below)
        have HGb := Lib.hid (Hu.out.below Hx.out.below)
        have HPb := Lib.hid (Hp.out.below Hx.out.below)
        clear hcc
        go_wp2_with fail
        go_region_held3 (fun w' => w'.cell? ⟨w.heap.size, 0, none⟩ = some (.slice aa fs.length ca) ∧ w'.cell? ⟨w.heap.size + 1, 0, none⟩ = some (.slice ab us.length cb) ∧ Below wr.heap.size wr w')
          (exact HkB.out _ (by (repeat (with_reducible first | exact Below.refl _ _ | assumption | refine ba ?_ _ | refine bd ?_ | refine bdN ?_ _ | refine bs ?_ (by first | exact Nat.le_refl _ | (dsimp only; omega) | (simp; done)) _ | refine bt ?_ (by assumption)))))
          (first
            | (go_at_call 56; (with_reducible (show Calls _ _ #[Value.iface _ (Value.agg #[Value.slice aa fs.length ca]), _, _] _ _)); refine (impl_findByParts _ fs D _ path nm _ (HFb.out.below (by (repeat (with_reducible first | exact Below.refl _ _ | assumption | refine ba ?_ _ | refine bd ?_ | refine bdN ?_ _ | refine bs ?_ (by first | exact Nat.le_refl _ | (dsimp only; omega) | (simp; done)) _ | refine bt ?_ (by assumption))))) Hz.out Ht1.out (HPb.out.below (by (repeat (with_reducible first | exact Below.refl _ _ | assumption | refine ba ?_ _ | refine bd ?_ | refine bdN ?_ _ | refine bs ?_ (by first | exact Nat.le_refl _ | (dsimp only; omega) | (simp; done)) _ | refine bt ?_ (by assumption))))) hpl (by omega)).mono ?_; rintro _ wA ⟨vA, rfl, hownA, hbA⟩; rw [HP.out] at hownA ⊢; have SA := Lib.hid (IntsIn.of_owns hownA); obtain ⟨aA, cA, hvA⟩ := owns_shape hownA; subst hvA; clear hownA)
            | (go_at_call 56; (with_reducible (show Calls _ _ #[Value.iface _ (Value.agg #[Value.slice ab us.length cb]), _, _] _ _)); refine (impl_findByParts _ us D' _ path nm _ (HGb.out.below (by (repeat (with_reducible first | exact Below.refl _ _ | assumption | refine ba ?_ _ | refine bd ?_ | refine bdN ?_ _ | refine bs ?_ (by first | exact Nat.le_refl _ | (dsimp only; omega) | (simp; done)) _ | refine bt ?_ (by assumption))))) Hzu.out Ht2.out (HPb.out.below (by (repeat (with_reducible first | exact Below.refl _ _ | assumption | refine ba ?_ _ | refine bd ?_ | refine bdN ?_ _ | refine bs ?_ (by first | exact Nat.le_refl _ | (dsimp only; omega) | (simp; done)) _ | refine bt ?_ (by assumption))))) hpl (by omega)).mono ?_; rintro _ wB ⟨vB, rfl, hownB, hbB⟩; rw [HQ.out] at hownB ⊢; have SB := Lib.hid (IntsIn.of_owns hownB); obtain ⟨aB, cB, hvB⟩ := owns_shape hownB; subst hvB; clear hownB)
            | (go_at_call 55; refine (impl_sameSpec _ _ fs us D D' sp sq _ _ _ (HFb.out.below (by (repeat (with_reducible first | exact Below.refl _ _ | assumption | refine ba ?_ _ | refine bd ?_ | refine bdN ?_ _ | refine bs ?_ (by first | exact Nat.le_refl _ | (dsimp only; omega) | (simp; done)) _ | refine bt ?_ (by assumption))))) (HGb.out.below (by (repeat (with_reducible first | exact Below.refl _ _ | assumption | refine ba ?_ _ | refine bd ?_ | refine bdN ?_ _ | refine bs ?_ (by first | exact Nat.le_refl _ | (dsimp only; omega) | (simp; done)) _ | refine bt ?_ (by assumption))))) (SA.out.below (by (repeat (with_reducible first | exact Below.refl _ _ | assumption | refine ba ?_ _ | refine bd ?_ | refine bdN ?_ _ | refine bs ?_ (by first | exact Nat.le_refl _ | (dsimp only; omega) | (simp; done)) _ | refine bt ?_ (by assumption))))) (SB.out.below (by (repeat (with_reducible first | exact Below.refl _ _ | assumption | refine ba ?_ _ | refine bd ?_ | refine bdN ?_ _ | refine bs ?_ (by first | exact Nat.le_refl _ | (dsimp only; omega) | (simp; done)) _ | refine bt ?_ (by assumption))))) Hsp1.out.file Hsp2.out.file).mono ?_; rintro _ wC ⟨rfl, hbC⟩; rw [← Hcc.out]))
        have HbC := Lib.hid (show Below wr.heap.size wr wC by (repeat (with_reducible first | exact Below.refl _ _ | assumption | refine ba ?_ _ | refine bd ?_ | refine bdN ?_ _ | refine bs ?_ (by first | exact Nat.le_refl _ | (dsimp only; omega) | (simp; done)) _ | refine bt ?_ (by assumption))))
        clear x0 x1 hcell
        cases cc
        · go_wp2_with fail
          go_ret
          exact ⟨ret_bool (Hno.out Hcc.out.symm).symm, bt Hx.out.below HbC.out⟩
        · go_wp2_with fail
          go_roundw
          case rel => exact ⟨k + 1, by omega, by go_num, Hx.out.step HbC.out, Reads.below RR.out HbC.out, Hyes.out Hcc.out.symm⟩
          case measure => simp [intOf]; omega
      · have Hfin := Lib.hid (Hs.out.trans (all_yes (p := fun s => sameSpc fs us (byParts fs path s) (byParts us path s)) (fun j hj => Hall.out j hj (by omega))))
        go_wp2_with fail
        go_ret
        exact ⟨ret_bool Hfin.out.symm, Hx.out.below⟩
end Go.Proofs.YtfelbhpgifgkcaaGreat
