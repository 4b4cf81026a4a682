/- Contracts of the model's functions that compare two looks. -/
import Derived.Test.YtfelbhpgifgkcaaGreatSame
set_option linter.unusedVariables false
set_option linter.unusedSimpArgs false
namespace Go.Proofs.YtfelbhpgifgkcaaGreat
open Go.Sort Go.RowKit Go.Proofs.YtfelbhpgifgkcaaGreat.Nm

theorem sameSpc_neg {t u : List Fil} {a b : Spc} (h1 : a.kind = b.kind) (h2 : a.roots = b.roots) (ha : a.file < 0) (hb : b.file < 0) : sameSpc t u a b = true := by
  unfold sameSpc; rw [decide_eq_true h1, decide_eq_true h2, if_pos ha, decide_eq_true hb]; rfl
theorem sameSpc_odd {t u : List Fil} {a b : Spc} (h : ¬ (a.file < 0 ↔ b.file < 0)) : sameSpc t u a b = false := by
  unfold sameSpc
  by_cases e : a.file < 0
  · rw [if_pos e, decide_eq_false (fun e2 => h ⟨fun _ => e2, fun _ => e⟩), Bool.and_false]
  · rw [if_neg e, decide_eq_false (show ¬ 0 ≤ b.file from fun e2 => h ⟨fun e3 => absurd e3 e, fun e3 => by omega⟩)]; simp
theorem sameSpc_len {t u : List Fil} {a b : Spc} (h : ¬ a.roots.length = b.roots.length) : sameSpc t u a b = false := sameSpc_rows (decide_eq_false (fun e => h (by rw [e])))

set_option maxRecDepth 100000 in
set_option maxHeartbeats 2000000 in
theorem spec_sameSpec (v v' : Value) (fs us : List Fil) (D D' : Nat → Prop) (a b : Spc) (ra rb : Value) (w : World) (hr : FilsIn w D v fs) (hu : FilsIn w D' v' us) (ha : IntsIn w ra a.roots) (hb : IntsIn w rb b.roots) (h1 : a.file < fs.length) (h2 : b.file < us.length) :
    Calls Tryz.prog 70 #[.agg #[v], .agg #[.int .i64 a.kind, .int .i64 a.file, ra], .agg #[v'], .agg #[.int .i64 b.kind, .int .i64 b.file, rb]] w fun e w' => e = .returned (.bool (sameSpc fs us a b)) ∧ Below w.heap.size w w' := by
  obtain ⟨k1, f1, r1⟩ := a
  obtain ⟨k2, f2, r2⟩ := b
  have Hr := Lib.hid hr
  have Hu := Lib.hid hu
  have Ha := Lib.hid ha
  have Hb := Lib.hid hb
  obtain ⟨ta, tc, rfl, _, _⟩ := hr.len
  obtain ⟨ua, uc, rfl, _, _⟩ := hu.len
  obtain ⟨aa, ca, rfl, hac, ham⟩ := ha.len
  obtain ⟨ab, cb, rfl, _, _⟩ := hb.len
  dsimp only at h1 h2 hac ⊢
  unfold maxLen at ham
  clear hr hu ha hb
  obtain ⟨W, hW⟩ : ∃ W, W = (((w.alloc (.cells #[.slice ta fs.length tc] 25)).alloc (.cells #[.int .i64 k1, .int .i64 f1, .slice aa r1.length ca] 93)).alloc (.cells #[.slice ua us.length uc] 25)).alloc (.cells #[.int .i64 k2, .int .i64 f2, .slice ab r2.length cb] 93) := ⟨_, rfl⟩
  have HW := Lib.hid hW
  have Hbw := Lib.hid (show Below w.heap.size w W by rw [hW]; (repeat (with_reducible first | exact Below.refl _ _ | assumption | refine ba ?_ _ | refine bd ?_ | refine bdN ?_ _ | refine bs ?_ (by first | exact Nat.le_refl _ | (dsimp only; omega) | (simp; done)) _ | refine bt ?_ (by assumption))))
  have HB := Lib.hid (by rw [hW]; exact box4 w _ _ _ _ _ _ _ _ : BoxC W w.heap.size #[.slice ta fs.length tc] ∧ BoxC W (w.heap.size + 1) #[.int .i64 k1, .int .i64 f1, .slice aa r1.length ca] ∧ BoxC W (w.heap.size + 2) #[.slice ua us.length uc] ∧ BoxC W (w.heap.size + 3) #[.int .i64 k2, .int .i64 f2, .slice ab r2.length cb])
  clear hW
  have Hk := Lib.hid (fun (w' : World) (hC : Below W.heap.size W w') => (⟨(HB.out.1.below hC).2 0, (HB.out.2.1.below hC).2 0, (HB.out.2.1.below hC).2 1, (HB.out.2.1.below hC).2 2, (HB.out.2.2.1.below hC).2 0, (HB.out.2.2.2.below hC).2 0, (HB.out.2.2.2.below hC).2 1, (HB.out.2.2.2.below hC).2 2⟩ : w'.cell? ⟨w.heap.size, 0, none⟩ = some (.slice ta fs.length tc) ∧ w'.cell? ⟨w.heap.size + 1, 0, none⟩ = some (.int .i64 k1) ∧ w'.cell? ⟨w.heap.size + 1, 1, none⟩ = some (.int .i64 f1) ∧ w'.cell? ⟨w.heap.size + 1, 2, none⟩ = some (.slice aa r1.length ca) ∧ w'.cell? ⟨w.heap.size + 2, 0, none⟩ = some (.slice ua us.length uc) ∧ w'.cell? ⟨w.heap.size + 3, 0, none⟩ = some (.int .i64 k2) ∧ w'.cell? ⟨w.heap.size + 3, 1, none⟩ = some (.int .i64 f2) ∧ w'.cell? ⟨w.heap.size + 3, 2, none⟩ = some (.slice ab r2.length cb)))
  obtain ⟨x0, x1, x2, x3, x4, x5, x6, x7⟩ := Hk.out W (Below.refl _ _)
  go_enter Tryz.func70, Tryz.ntmps70
  go_upto_region 1 with fail
  rw [← HW.out]
  by_cases hk : k1 = k2
  · subst hk
    by_cases hl : r1.length = r2.length
    · have Hl := Lib.hid hl
      rw [← hl] at x7
      by_cases hodd : (f1 < 0 ↔ f2 < 0)
      · obtain ⟨c, hc⟩ : ∃ c, c = decide (f1 < 0) := ⟨_, rfl⟩
        have hc1 : decide (f1 < 0) = c := hc.symm
        have hc2 : decide (f2 < 0) = c := by rw [hc]; exact (decide_eq_decide.2 hodd).symm
        clear hc
        have Hodd := Lib.hid hodd
        rw [← hl] at HB Hk
        clear hl hodd
        go_wp2_with fail
        go_loopw [9] (fun kv wr => ∃ k : Nat, k ≤ r1.length ∧ kv = .int .i64 k ∧ Below W.heap.size W wr ∧ ∀ i (h1 : i < r1.length) (h2 : i < r2.length), i < k → r1[i] = r2[i]) (fun kv _ => r1.length - (intOf kv).toNat)
        case atStart => exact ⟨0, by omega, rfl, Below.refl _ _, fun i _ _ h => absurd h (by omega)⟩
        case round =>
          obtain ⟨k, hkl, rfl, hbel, hp⟩ := hrel
          have Hp := Lib.hid hp
          have Hbel := Lib.hid hbel
          clear hp x0 x1 x2 x3 x4 x5 x6 x7 hc1 hc2
          obtain ⟨x0, x1, x2, x3, x4, x5, x6, x7⟩ := Hk.out wr hbel
          by_cases hlt : k < r1.length
          · have hlt2 : k < r2.length := by rw [← Hl.out]; exact hlt
            obtain ⟨b1, o1, c1, e1, hb1, hc1⟩ := (Ha.out.below (bt Hbw.out hbel)).at_ hlt
            obtain ⟨b2, o2, c2, e2, hb2, hc2⟩ := (Hb.out.below (bt Hbw.out hbel)).at_ hlt2
            simp only [Value.slice.injEq] at e1 e2
            obtain ⟨rfl, _, rfl⟩ := e1
            obtain ⟨rfl, _, rfl⟩ := e2
            have hki : (k : Int) < (r1.length : Int) := by omega
            have hk0 : (0 : Int) ≤ (k : Int) := by omega
            clear hb1 hb2 hbel
            by_cases heq : r1[k] = r2[k]
            · have Heq := Lib.hid heq
              rw [← heq] at hc2
              clear heq
              go_wp2_with fail
              go_quiet (fail)
              go_wp2_with fail
              go_roundw
              case rel =>
                refine ⟨k + 1, by omega, by go_num, below_drewN' Hbel.out _, fun i h1 h2 hi => ?_⟩
                by_cases e : i = k
                · subst e; exact Heq.out
                · exact Hp.out i h1 h2 (by omega)
              case measure => simp [intOf]; omega
            · have hne : (r1[k] == r2[k]) = false := by simpa using heq
              have Hs := Lib.hid (sameSpc_rows (t := fs) (u := us) (a := ⟨k1, f1, r1⟩) (b := ⟨k1, f2, r2⟩) (decide_eq_false (fun e => heq (by have e' : r1 = r2 := e; subst e'; rfl))))
              clear heq
              generalize r1[k] = p at *
              generalize r2[k] = r at *
              go_wp2_with fail
              go_quiet (fail)
              go_wp2_with fail
              go_ret
              exact ⟨ret_bool Hs.out.symm, bt Hbw.out (below_drewN' Hbel.out _)⟩
          · have Hrr := Lib.hid (show r1 = r2 from List.ext_getElem Hl.out (fun i h1 h2 => Hp.out i h1 h2 (by omega)))
            by_cases hf : f1 < 0
            · have Hs := Lib.hid (sameSpc_neg (t := fs) (u := us) (a := ⟨k1, f1, r1⟩) (b := ⟨k1, f2, r2⟩) rfl Hrr.out hf (Hodd.out.1 hf))
              have hfd : decide (f1 < 0) = true := decide_eq_true hf
              go_wp2_with fail
              have y0 := cell_regrown x2
              clear x0 x1 x2 x3 x4 x5 x6 x7
              refine wp_region_quiet_below (by kernel_rfl) (by kernel_rfl) ?_
              repeat (go_big_quiet_step (fail))
              refine wpQuiet_nil ?_
              intro _ hw'
              obtain ⟨⟨dq, osq⟩, hw2⟩ := hw'
              subst hw2
              have Hb7 := Lib.hid (bt Hbw.out (bt Hbel.out (below_regrown wr dq osq)))
              clear y0
              go_wp2_with fail
              go_ret
              exact ⟨ret_bool Hs.out.symm, Hb7.out⟩
            · obtain ⟨i, hi⟩ := Int.eq_ofNat_of_zero_le (show 0 ≤ f1 by omega)
              obtain ⟨j, hj⟩ := Int.eq_ofNat_of_zero_le (show 0 ≤ f2 by have := Hodd.out; omega)
              subst hi hj
              have hil : i < fs.length := by omega
              have hjl : j < us.length := by omega
              have Hs := Lib.hid (sameSpc_files (t := fs) (u := us) (a := ⟨k1, (i : Int), r1⟩) (b := ⟨k1, (j : Int), r2⟩) rfl Hrr.out hil hjl rfl rfl)
              have ei : decide ((i : Int) < 0) = false := decide_eq_false (by omega)
              obtain ⟨b1, o1, q1, bv1, e1, _, hb1, hbody1, c0, c1, c2, c3, c4, c5⟩ := (Hr.out.below (bt Hbw.out Hbel.out)).at_ hil
              obtain ⟨b2, o2, q2, bv2, e2, _, hb2, hbody2, d0, d1, d2, d3, d4, d5⟩ := (Hu.out.below (bt Hbw.out Hbel.out)).at_ hjl
              simp only [Value.slice.injEq] at e1 e2
              obtain ⟨rfl, _, rfl⟩ := e1
              obtain ⟨rfl, _, rfl⟩ := e2
              obtain ⟨f, hf2⟩ : ∃ f, f = fs[i] := ⟨_, rfl⟩
              obtain ⟨g, hg⟩ : ∃ g, g = us[j] := ⟨_, rfl⟩
              rw [← hf2, ← hg] at Hs
              rw [← hf2] at c0 c1 c2 c3 c4
              rw [← hg] at d0 d1 d2 d3 d4
              clear hf hf2 hg hbody1 hbody2
              obtain ⟨fr, fp, fn, fi, fst, fb⟩ := f
              obtain ⟨gr, gp, gn, gi, gst, gb⟩ := g
              dsimp only at c0 c1 c2 c3 c4 c5 d0 d1 d2 d3 d4 d5
              go_wp2_with fail
              have y0 := cell_regrown x0
              have y1 := cell_regrown x4
              have y2 := cell_regrown x2
              have y3 := cell_regrown x6
              have z0 := cell_regrown c0
              have z1 := cell_regrown c1
              have z2 := cell_regrown c2
              have z3 := cell_regrown c3
              have z4 := cell_regrown c4
              have z5 := cell_regrown c5
              have u0 := cell_regrown d0
              have u1 := cell_regrown d1
              have u2 := cell_regrown d2
              have u3 := cell_regrown d3
              have u4 := cell_regrown d4
              have u5 := cell_regrown d5
              clear x0 x1 x2 x3 x4 x5 x6 x7 c0 c1 c2 c3 c4 c5 d0 d1 d2 d3 d4 d5 hbel
              have Hs2 := Lib.hid (show sameSpc fs us ⟨k1, (i : Int), r1⟩ ⟨k1, (j : Int), r2⟩ = samePl (fr, fp, fn, fi) (gr, gp, gn, gi) from Hs.out)
              have hi1 : (i : Int) < (fs.length : Int) := by omega
              have hj1 : (j : Int) < (us.length : Int) := by omega
              have hi0 : (0 : Int) ≤ (i : Int) := by omega
              have hj0 : (0 : Int) ≤ (j : Int) := by omega
              have cP : ∀ d os, Calls Tryz.prog 121 #[.agg #[.int .i64 fr, .string (mk fp), .string (mk fn), .bool fi, .int .i64 fst, bv1], .agg #[.int .i64 gr, .string (mk gp), .string (mk gn), .bool gi, .int .i64 gst, bv2]] (grow (redrawn wr d) os) fun e w'' => e = .returned (.bool (samePl (fr, fp, fn, fi) (gr, gp, gn, gi))) ∧ ∃ p : Regrown, w'' = grow (redrawn wr p.d) p.os := fun d os =>
                Calls.regrown_of (spec_sameFile fr fst fp fn fi bv1 gr gst gp gn gi bv2 (grow (redrawn wr d) os))
              generalize samePl (fr, fp, fn, fi) (gr, gp, gn, gi) = cc at *
              refine wp_region_quiet_below (by kernel_rfl) (by kernel_rfl) ?_
              repeat (go_big_quiet_step (first | with_reducible exact cP _ _))
              refine wpQuiet_nil ?_
              intro _ hw'
              obtain ⟨⟨dq, osq⟩, hw2⟩ := hw'
              subst hw2
              have Hb7 := Lib.hid (bt Hbw.out (bt Hbel.out (below_regrown wr dq osq)))
              clear cP y0 y1 y2 y3 z0 z1 z2 z3 z4 z5 u0 u1 u2 u3 u4 u5
              go_wp2_with fail
              go_ret
              exact ⟨ret_bool Hs2.out.symm, Hb7.out⟩
      · have Hs := Lib.hid (sameSpc_odd (t := fs) (u := us) (a := ⟨k1, f1, r1⟩) (b := ⟨k1, f2, r2⟩) hodd)
        have hcc : (decide (f1 < 0) = true ∧ decide (f2 < 0) = false) ∨ (decide (f1 < 0) = false ∧ decide (f2 < 0) = true) := by
          by_cases e1 : f1 < 0 <;> by_cases e2 : f2 < 0 <;> simp_all
        clear hodd
        rcases hcc with ⟨hc1, hc2⟩ | ⟨hc1, hc2⟩
        all_goals
          go_wp2_with fail
          go_ret
          exact ⟨ret_bool Hs.out.symm, Hbw.out⟩
    · have Hs := Lib.hid (sameSpc_len (t := fs) (u := us) (a := ⟨k1, f1, r1⟩) (b := ⟨k1, f2, r2⟩) hl)
      have hlb : ((r1.length : Int) == (r2.length : Int)) = false := by rw [beq_eq_false_iff_ne]; omega
      have hln : ((r1.length : Int) != (r2.length : Int)) = true := by rw [bne, hlb]; rfl
      generalize r1.length = n1 at *
      generalize r2.length = n2 at *
      go_wp2_with fail
      all_goals (go_ret; exact ⟨ret_bool Hs.out.symm, Hbw.out⟩)
  · have Hs := Lib.hid (sameSpc_kind (t := fs) (u := us) (a := ⟨k1, f1, r1⟩) (b := ⟨k2, f2, r2⟩) hk)
    have hkb : (k1 == k2) = false := by rw [beq_eq_false_iff_ne]; exact hk
    have hkn : (k1 != k2) = true := by rw [bne, hkb]; rfl
    go_wp2_with fail
    go_ret
    exact ⟨ret_bool Hs.out.symm, Hbw.out⟩
theorem sameS_no1 {t u : List Fil} {path : List Int} (h : okTree t = false) : sameLook t u path = false := by unfold sameLook; rw [h]; rfl
theorem sameS_no2 {t u : List Fil} {path : List Int} (h : okTree u = false) : sameLook t u path = false := by unfold sameLook; rw [h]; simp
theorem sameS_no3 {t u : List Fil} {path : List Int} (h : okPath path = false) : sameLook t u path = false := by unfold sameLook; rw [h]; simp
theorem sameS_at {t u : List Fil} {path : List Int} (h1 : okTree t = true) (h2 : okTree u = true) (h3 : okPath path = true) :
    sameLook t u path = (sortUp (allNames t ++ allNames u)).all (fun s => sameSpc t u (byParts t path s) (byParts u path s)) := by
  unfold sameLook; rw [h1, h2, h3]; simp
theorem allNames_len {t : List Fil} (h : okTree t = true) : (allNames t).length ≤ 36 := Nat.le_trans (sortUp_len _) (Nat.le_trans (nmOf_len _ (okTree_all h).1) (by have := (okTree_all h).2.2; omega))
theorem boxed2_low {w wr w' : World} {cs ds : Array Value} {T U : TypeId} (h : Boxed2 w cs T ds U wr) (hb : Below (w.heap.size + 2) wr w') : Boxed2 w cs T ds U w' := by
  have e : ((w.alloc (.cells cs T)).alloc (.cells ds U)).heap.size = w.heap.size + 2 := by simp
  unfold Boxed2 at *
  exact h.trans (by rw [e]; exact hb)
theorem allNames_up (t : List Fil) : Up (allNames t) := sortUp_up _
set_option maxRecDepth 100000 in
set_option maxHeartbeats 16000000 in
theorem spec_SameFinds (v : Value) (fs : List Fil) (D : Nat → Prop) (v' : Value) (us : List Fil) (D' : Nat → Prop) (pv : Value) (path : List Int) (w : World) (hr : FilsIn w D v fs) (hz : ShortT 2000000 fs) (hu : FilsIn w D' v' us) (hzu : ShortT 2000000 us) (hp : IntsIn w pv path) :
    Calls Tryz.prog 20 #[.agg #[v], .agg #[v'], pv] w fun e w' => e = .returned (.bool (sameLook fs us path)) ∧ Below w.heap.size w w' := by
  have Hr := Lib.hid hr
  have Hz := Lib.hid hz
  have Hu := Lib.hid hu
  have Hzu := Lib.hid hzu
  have Hz3 := Lib.hid (short2 (B := 3000000) (by omega) hz)
  have Hzu3 := Lib.hid (short2 (B := 3000000) (by omega) hzu)
  have Hp := Lib.hid hp
  obtain ⟨aa, ca, rfl, hl, hm⟩ := hr.len
  obtain ⟨ab, cb, rfl, hl2, hm2⟩ := hu.len
  obtain ⟨pa, pc, rfl, hl1, hm1⟩ := hp.len
  have Hb0 := Lib.hid (Boxed2.start w #[.slice aa fs.length ca] 25 #[.slice ab us.length cb] 25)
  clear hr hz hu hzu hp hl hm hl1 hm1 hl2 hm2
  have Hk := Lib.hid (fun (w' : World) (hC : Boxed2 w #[.slice aa fs.length ca] 25 #[.slice ab us.length cb] 25 w') => (⟨hC.one.cell 0, hC.cell 0⟩ : w'.cell? ⟨w.heap.size, 0, none⟩ = some (.slice aa fs.length ca) ∧ w'.cell? ⟨w.heap.size + 1, 0, none⟩ = some (.slice ab us.length cb)))
  cases h1 : okTree fs
  · have H1 := Lib.hid h1
    have Hs := Lib.hid (sameS_no1 (u := us) (path := path) h1)
    clear h1
    go_enter Tryz.func20, Tryz.ntmps20
    go_wp2_with fail
    refine (spec_validTree _ fs D _ (Hr.out.below Hb0.out.below) Hz3.out).mono ?_
    rintro _ w5 ⟨rfl, hb5⟩
    rw [H1.out]
    have Hx5 := Lib.hid (Hb0.out.step hb5)
    obtain ⟨x0, x1⟩ := Hk.out _ Hx5.out
    clear hb5
    go_wp2_with fail
    go_ret
    exact ⟨ret_bool Hs.out.symm, Hx5.out.below⟩
  cases h2 : okTree us
  · have H1 := Lib.hid h1
    have H2 := Lib.hid h2
    have Hs := Lib.hid (sameS_no2 (t := fs) (path := path) h2)
    clear h1 h2
    go_enter Tryz.func20, Tryz.ntmps20
    go_wp2_with fail
    refine (spec_validTree _ fs D _ (Hr.out.below Hb0.out.below) Hz3.out).mono ?_
    rintro _ w5 ⟨rfl, hb5⟩
    rw [H1.out]
    have Hx5 := Lib.hid (Hb0.out.step hb5)
    obtain ⟨x0, x1⟩ := Hk.out _ Hx5.out
    clear hb5
    go_wp2_with fail
    refine (spec_validTree _ us D' _ (Hu.out.below Hx5.out.below) Hzu3.out).mono ?_
    rintro _ w6 ⟨rfl, hb6⟩
    rw [H2.out]
    have Hx6 := Lib.hid (Hx5.out.step hb6)
    clear x0 x1 hb6
    obtain ⟨x0, x1⟩ := Hk.out _ Hx6.out
    go_wp2_with fail
    go_ret
    exact ⟨ret_bool Hs.out.symm, Hx6.out.below⟩
  cases h3 : okPath path
  · have H1 := Lib.hid h1
    have H2 := Lib.hid h2
    have H3 := Lib.hid h3
    have Hs := Lib.hid (sameS_no3 (t := fs) (u := us) h3)
    clear h1 h2 h3
    go_enter Tryz.func20, Tryz.ntmps20
    go_wp2_with fail
    refine (spec_validTree _ fs D _ (Hr.out.below Hb0.out.below) Hz3.out).mono ?_
    rintro _ w5 ⟨rfl, hb5⟩
    rw [H1.out]
    have Hx5 := Lib.hid (Hb0.out.step hb5)
    obtain ⟨x0, x1⟩ := Hk.out _ Hx5.out
    clear hb5
    go_wp2_with fail
    refine (spec_validTree _ us D' _ (Hu.out.below Hx5.out.below) Hzu3.out).mono ?_
    rintro _ w6 ⟨rfl, hb6⟩
    rw [H2.out]
    have Hx6 := Lib.hid (Hx5.out.step hb6)
    clear x0 x1 hb6
    obtain ⟨x0, x1⟩ := Hk.out _ Hx6.out
    go_wp2_with fail
    refine (spec_validPath _ path _ (Hp.out.below Hx6.out.below)).mono ?_
    rintro _ w7 ⟨rfl, hb7⟩
    rw [H3.out]
    have Hx7 := Lib.hid (Hx6.out.step hb7)
    clear x0 x1 hb7
    obtain ⟨x0, x1⟩ := Hk.out _ Hx7.out
    go_wp2_with fail
    go_ret
    exact ⟨ret_bool Hs.out.symm, Hx7.out.below⟩
  have H1 := Lib.hid h1
  have H2 := Lib.hid h2
  have H3 := Lib.hid h3
  have hpl : path.length ≤ 100 := Nat.le_trans (okPath_len h3) (by omega)
  have hfl : (allNames fs).length ≤ 36 := allNames_len h1
  have hgl : (allNames us).length ≤ 36 := allNames_len h2
  have Hup := Lib.hid (allNames_up fs)
  have Hsu := Lib.hid (show sortUp (allNames fs ++ allNames us) = (allNames us).foldl insTo (allNames fs) by rw [sortUp_add, sortUp_of_up (allNames_up fs)])
  have Hvn := Lib.hid (fun s (h : s ∈ sortUp (allNames fs ++ allNames us)) => (by
    rcases List.mem_append.1 ((sortUp_mem s _).1 h) with h | h
    · exact allNames_vn h1 h
    · exact allNames_vn h2 h : vn s = true))
  have Hat := Lib.hid (sameS_at h1 h2 h3)
  clear h1 h2 h3
  go_enter Tryz.func20, Tryz.ntmps20
  go_wp2_with fail
  refine (spec_validTree _ fs D _ (Hr.out.below Hb0.out.below) Hz3.out).mono ?_
  rintro _ w5 ⟨rfl, hb5⟩
  rw [H1.out]
  have Hx5 := Lib.hid (Hb0.out.step hb5)
  obtain ⟨x0, x1⟩ := Hk.out _ Hx5.out
  clear hb5
  go_wp2_with fail
  refine (spec_validTree _ us D' _ (Hu.out.below Hx5.out.below) Hzu3.out).mono ?_
  rintro _ w6 ⟨rfl, hb6⟩
  rw [H2.out]
  have Hx6 := Lib.hid (Hx5.out.step hb6)
  clear x0 x1 hb6
  obtain ⟨x0, x1⟩ := Hk.out _ Hx6.out
  go_wp2_with fail
  refine (spec_validPath _ path _ (Hp.out.below Hx6.out.below)).mono ?_
  rintro _ w7 ⟨rfl, hb7⟩
  rw [H3.out]
  have Hx7 := Lib.hid (Hx6.out.step hb7)
  clear x0 x1 hb7
  obtain ⟨x0, x1⟩ := Hk.out _ Hx7.out
  go_wp2_with fail
  refine (spec_namesG _ fs D _ (Hr.out.below Hx7.out.below) Hz.out H1.out).mono ?_
  rintro _ w8 ⟨g8, c8, rfl, hown8, hb8⟩
  have Ho8 := Lib.hid hown8
  have Hx8 := Lib.hid (Hx7.out.step hb8)
  have Hb8 := Lib.hid hb8
  clear hown8 hb8 x0 x1
  obtain ⟨x0, x1⟩ := Hk.out _ Hx8.out
  go_wp2_with fail
  refine (spec_namesG _ us D' _ (Hu.out.below Hx8.out.below) Hzu.out H2.out).mono ?_
  rintro _ w9 ⟨g9, c9, rfl, hown9, hb9⟩
  have Ho9 := Lib.hid hown9
  have Hx9 := Lib.hid (Hx8.out.step hb9)
  have Ho8b := Lib.hid (owns_below Ho8.out hb9)
  clear hown9 hb9 x0 x1
  obtain ⟨x0, x1⟩ := Hk.out _ Hx9.out
  have hg8 := (Ho8.out.lt g8 rfl).2
  have hg9 := (Ho9.out.lt g9 rfl).1
  have hne0 : g9 ≠ g8 := by omega
  have Hown1 := Lib.hid (owns_mono Ho8b.out (show w.heap.size + 2 ≤ w7.heap.size by have := Hx7.out.lt; omega))
  generalize allNames fs = F at *
  generalize allNames us = G at *
  go_wp2_with fail
  go_loopw [7, 9] (fun nv jv ws => ∃ (j g' cp : Nat), j ≤ G.length ∧ jv = .int .i64 j ∧ nv = .slice (some ⟨g', 0, none⟩) ((G.take j).foldl insTo F).length cp ∧ ws.ownsRow (w.heap.size + 2) 9 1 (.slice (some ⟨g', 0, none⟩) ((G.take j).foldl insTo F).length cp) ((G.take j).foldl insTo F).length (((G.take j).foldl insTo F).map sv) ∧ Boxed2 w #[.slice aa fs.length ca] 25 #[.slice ab us.length cb] 25 ws ∧ ws.ownsRow (w.heap.size + 2) 9 1 (.slice (some ⟨g9, 0, none⟩) G.length c9) G.length (G.map sv) ∧ g9 ≠ g') (fun _ jv _ => G.length - (intOf jv).toNat)
  case atStart => exact ⟨0, g8, c8, by omega, rfl, rfl, Hown1.out, Hx9.out, owns_mono Ho9.out (by have := Hx8.out.lt; omega), hne0⟩
  case round =>
    obtain ⟨j, g', cp, hj, rfl, rfl, hownj, hbxj, hlistj, hnej⟩ := hrel
    have Hownj := Lib.hid hownj
    have Hbxj := Lib.hid hbxj
    have Hupj := Lib.hid (show Up ((G.take j).foldl insTo F) from foldIns_up _ Hup.out)
    have hlj : ((G.take j).foldl insTo F).length ≤ 80 := Nat.le_trans (foldIns_len _ _) (by simp; omega)
    clear hownj hbxj x0 x1 Hx9 Hx8 Hx7 Hx6 Hx5 Ho8 Ho9 Ho8b Hown1 Hb8 hne0
    by_cases hjl : j < G.length
    · have hcj : wr.cell? ⟨g9, j, none⟩ = some (.string (mk G[j])) := by
        rw [hlistj.cellAt j (by omega), List.getElem?_map, List.getElem?_eq_getElem hjl]; rfl
      have Hlistj := Lib.hid hlistj
      have Hst := Lib.hid (foldIns_next F G j hjl)
      have hszj := Hbxj.out.lt
      clear hlistj
      generalize G[j] = y at *
      generalize (G.take j).foldl insTo F = M at *
      go_wp2_with (go_at_call 69; refine (spec_insertText (w.heap.size + 2) g' cp M y _ Hownj.out Hupj.out (by omega) (by omega)).mono ?_; rintro _ w10 ⟨g7, c7, rfl, hown7, hb7, ht7, hq7⟩)
      have Hown7 := Lib.hid hown7
      have Hx7 := Lib.hid (boxed2_low Hbxj.out hb7)
      have Hl7 := Lib.hid (owns_turned Hlistj.out ht7 (fun b hb e => hnej (by cases hb; exact e)))
      have hne7 : g9 ≠ g7 := by have := (Hlistj.out.lt g9 rfl).2; omega
      clear hown7 hb7 ht7
      go_roundw
      case rel => exact ⟨j + 1, g7, c7, by omega, by go_num, by rw [Hst.out], by rw [Hst.out]; exact Hown7.out, Hx7.out, Hl7.out, hne7⟩
      case measure => simp [intOf]; omega
    · obtain rfl : j = G.length := by omega
      have Hfin := Lib.hid (show (G.take G.length).foldl insTo F = sortUp (F ++ G) by rw [List.take_length]; exact Hsu.out.symm)
      have R9 := Lib.hid (Reads.of_owns Hownj.out)
      rw [Hfin.out] at R9
      have hlL : (sortUp (F ++ G)).length ≤ 80 := by rw [← Hfin.out]; exact hlj
      rw [Hfin.out]
      have Hx9 := Lib.hid Hbxj.out
      clear hlj hlistj Hownj Hbxj Hupj hnej Hfin Hsu
      generalize sortUp (F ++ G) = L at *
      have Hs := Lib.hid Hat.out
      clear Hat
      go_wp2_with fail
      go_loopw [10] (fun iv wr => ∃ k : Nat, k ≤ L.length ∧ iv = .int .i64 k ∧ Boxed2 w #[.slice aa fs.length ca] 25 #[.slice ab us.length cb] 25 wr ∧ Reads wr (.slice (some ⟨g', 0, none⟩) L.length cp) L ∧ ∀ j (hj : j < L.length), j < k → sameSpc fs us (byParts fs path L[j]) (byParts us path L[j]) = true) (fun iv _ => L.length - (intOf iv).toNat)
      case atStart => exact ⟨0, by omega, rfl, Hx9.out, R9.out, fun _ _ h => absurd h (by omega)⟩
      case round =>
        obtain ⟨k, hk, rfl, hbx, hrr, hall⟩ := hrel
        have Hx := Lib.hid hbx
        have RR := Lib.hid hrr
        have Hall := Lib.hid hall
        clear hbx hrr hall R9 Hx9
        obtain ⟨x0, x1⟩ := Hk.out _ Hx.out
        have hbs := Hx.out.lt
        by_cases hlt : k < L.length
        · obtain ⟨b1, o1, c1, e1, _, _, hb1, hc1⟩ := Reads.some RR.out (by omega)
          simp only [Value.slice.injEq, Option.some.injEq, Addr.mk.injEq] at e1
          obtain ⟨⟨rfl, rfl, _⟩, _, rfl⟩ := e1
          have hcell := hc1 k hlt
          simp only [Nat.zero_add] at hcell
          have hvn := Hvn.out _ (List.getElem_mem hlt)
          have hki : (k : Int) < (L.length : Int) := by omega
          have hk0 : (0 : Int) ≤ (k : Int) := by omega
          have Hsp1 := Lib.hid (byParts_ok fs path L[k])
          have Hsp2 := Lib.hid (byParts_ok us path L[k])
          have Hno := Lib.hid (fun (h : sameSpc fs us (byParts fs path L[k]) (byParts us path L[k]) = false) => (Hs.out.trans (all_no (p := fun s => sameSpc fs us (byParts fs path s) (byParts us path s)) hlt h)))
          have Hyes := Lib.hid (fun (h : sameSpc fs us (byParts fs path L[k]) (byParts us path L[k]) = true) => (fun j (hj : j < L.length) (h2 : j < k + 1) => (by
            by_cases e : j = k
            · subst e; exact h
            · exact Hall.out j hj (by omega) : sameSpc fs us (byParts fs path L[j]) (byParts us path L[j]) = true)))
          have HV := Lib.hid hvn
          clear hc1 hvn
          generalize L[k] = nm at *
          obtain ⟨sp, hsp⟩ : ∃ sp, sp = byParts fs path nm := ⟨_, rfl⟩
          obtain ⟨sq, hsq⟩ : ∃ sq, sq = byParts us path nm := ⟨_, rfl⟩
          rw [← hsp] at Hsp1 Hno Hyes
          rw [← hsq] at Hsp2 Hno Hyes
          have HP := Lib.hid hsp.symm
          have HQ := Lib.hid hsq.symm
          clear hsp hsq
          obtain ⟨cc, hcc⟩ : ∃ cc, cc = sameSpc fs us sp sq := ⟨_, rfl⟩
          have Hcc := Lib.hid hcc
          have HkB := Lib.hid (fun (w' : World) (hC : Below wr.heap.size wr w') => (⟨(Hk.out _ (Hx.out.step hC)).1, (Hk.out _ (Hx.out.step hC)).2, (hC.cell (p := ⟨g', k, none⟩) hb1).trans hcell, hC⟩ : w'.cell? ⟨w.heap.size, 0, none⟩ = some (.slice aa fs.length ca) ∧ w'.cell? ⟨w.heap.size + 1, 0, none⟩ = some (.slice ab us.length cb) ∧ w'.cell? ⟨g', k, none⟩ = some (.string (mk nm)) ∧ Below wr.heap.size wr w'))
          have HFb := Lib.hid (Hr.out.below Hx.out.below)
          have HGb := Lib.hid (Hu.out.below Hx.out.below)
          have HPb := Lib.hid (Hp.out.below Hx.out.below)
          clear hcc
          go_wp2_with fail
          go_region_held3 (fun w' => w'.cell? ⟨w.heap.size, 0, none⟩ = some (.slice aa fs.length ca) ∧ w'.cell? ⟨w.heap.size + 1, 0, none⟩ = some (.slice ab us.length cb) ∧ w'.cell? ⟨g', k, none⟩ = some (.string (mk nm)) ∧ Below wr.heap.size wr w')
            (exact HkB.out _ (by (repeat (with_reducible first | exact Below.refl _ _ | assumption | refine ba ?_ _ | refine bd ?_ | refine bdN ?_ _ | refine bs ?_ (by first | exact Nat.le_refl _ | (dsimp only; omega) | (simp; done)) _ | refine bt ?_ (by assumption)))))
            (first
              | (go_at_call 60; (with_reducible (show Calls _ _ #[Value.agg #[Value.slice aa fs.length ca], _, _] _ _)); refine (spec_find _ fs D _ path nm _ (HFb.out.below (by (repeat (with_reducible first | exact Below.refl _ _ | assumption | refine ba ?_ _ | refine bd ?_ | refine bdN ?_ _ | refine bs ?_ (by first | exact Nat.le_refl _ | (dsimp only; omega) | (simp; done)) _ | refine bt ?_ (by assumption))))) Hz.out H1.out HV.out (HPb.out.below (by (repeat (with_reducible first | exact Below.refl _ _ | assumption | refine ba ?_ _ | refine bd ?_ | refine bdN ?_ _ | refine bs ?_ (by first | exact Nat.le_refl _ | (dsimp only; omega) | (simp; done)) _ | refine bt ?_ (by assumption))))) hpl).mono ?_; rintro _ wA ⟨vA, rfl, hownA, hbA⟩; rw [HP.out] at hownA ⊢; have SA := Lib.hid (IntsIn.of_owns hownA); obtain ⟨aA, cA, hvA⟩ := owns_shape hownA; subst hvA; clear hownA)
              | (go_at_call 60; (with_reducible (show Calls _ _ #[Value.agg #[Value.slice ab us.length cb], _, _] _ _)); refine (spec_find _ us D' _ path nm _ (HGb.out.below (by (repeat (with_reducible first | exact Below.refl _ _ | assumption | refine ba ?_ _ | refine bd ?_ | refine bdN ?_ _ | refine bs ?_ (by first | exact Nat.le_refl _ | (dsimp only; omega) | (simp; done)) _ | refine bt ?_ (by assumption))))) Hzu.out H2.out HV.out (HPb.out.below (by (repeat (with_reducible first | exact Below.refl _ _ | assumption | refine ba ?_ _ | refine bd ?_ | refine bdN ?_ _ | refine bs ?_ (by first | exact Nat.le_refl _ | (dsimp only; omega) | (simp; done)) _ | refine bt ?_ (by assumption))))) hpl).mono ?_; rintro _ wB ⟨vB, rfl, hownB, hbB⟩; rw [HQ.out] at hownB ⊢; have SB := Lib.hid (IntsIn.of_owns hownB); obtain ⟨aB, cB, hvB⟩ := owns_shape hownB; subst hvB; clear hownB)
              | (go_at_call 70; refine (spec_sameSpec _ _ fs us D D' sp sq _ _ _ (HFb.out.below (by (repeat (with_reducible first | exact Below.refl _ _ | assumption | refine ba ?_ _ | refine bd ?_ | refine bdN ?_ _ | refine bs ?_ (by first | exact Nat.le_refl _ | (dsimp only; omega) | (simp; done)) _ | refine bt ?_ (by assumption))))) (HGb.out.below (by (repeat (with_reducible first | exact Below.refl _ _ | assumption | refine ba ?_ _ | refine bd ?_ | refine bdN ?_ _ | refine bs ?_ (by first | exact Nat.le_refl _ | (dsimp only; omega) | (simp; done)) _ | refine bt ?_ (by assumption))))) (SA.out.below (by (repeat (with_reducible first | exact Below.refl _ _ | assumption | refine ba ?_ _ | refine bd ?_ | refine bdN ?_ _ | refine bs ?_ (by first | exact Nat.le_refl _ | (dsimp only; omega) | (simp; done)) _ | refine bt ?_ (by assumption))))) (SB.out.below (by (repeat (with_reducible first | exact Below.refl _ _ | assumption | refine ba ?_ _ | refine bd ?_ | refine bdN ?_ _ | refine bs ?_ (by first | exact Nat.le_refl _ | (dsimp only; omega) | (simp; done)) _ | refine bt ?_ (by assumption))))) Hsp1.out.file.2 Hsp2.out.file.2).mono ?_; rintro _ wC ⟨rfl, hbC⟩; rw [← Hcc.out]))
          have HbC := Lib.hid (show Below wr.heap.size wr wC by (repeat (with_reducible first | exact Below.refl _ _ | assumption | refine ba ?_ _ | refine bd ?_ | refine bdN ?_ _ | refine bs ?_ (by first | exact Nat.le_refl _ | (dsimp only; omega) | (simp; done)) _ | refine bt ?_ (by assumption))))
          clear x0 x1 hcell
          cases cc
          · go_wp2_with fail
            go_ret
            exact ⟨ret_bool (Hno.out Hcc.out.symm).symm, bt Hx.out.below HbC.out⟩
          · go_wp2_with fail
            go_roundw
            case rel => exact ⟨k + 1, by omega, by go_num, Hx.out.step HbC.out, Reads.below RR.out HbC.out, Hyes.out Hcc.out.symm⟩
            case measure => simp [intOf]; omega
        · have Hfin := Lib.hid (Hs.out.trans (all_yes (p := fun s => sameSpc fs us (byParts fs path s) (byParts us path s)) (fun j hj => Hall.out j hj (by omega))))
          go_wp2_with fail
          go_ret
          exact ⟨ret_bool Hfin.out.symm, Hx.out.below⟩
end Go.Proofs.YtfelbhpgifgkcaaGreat
