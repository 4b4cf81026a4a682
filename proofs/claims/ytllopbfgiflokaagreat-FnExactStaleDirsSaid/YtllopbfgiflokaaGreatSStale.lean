/- Contracts of the model's functions that say which directories of a finder are stale. -/
import Derived.Test.YtllopbfgiflokaaGreatStale2
import Derived.Test.YtllopbfgiflokaaGreatDisks4
set_option linter.unusedVariables false
set_option linter.unusedSimpArgs false
namespace Go.Proofs.YtllopbfgiflokaaGreat
open Go.RowKit Go.Proofs.YtllopbfgiflokaaGreat.Nm
open Go.Sort (grow)

theorem listDir_ok {t : List Fil} {root : Int} {p : Bs} (h1 : okTree t = true) (h2 : inr root 0 2 = true) (h3 : vpk p = true) : listDir t root p = sortUp (entries t root p) := by
  unfold listDir placed; rw [h1, h2, h3]; rfl
theorem stale_lit {w : World} {base e size : Nat} (cs : Array Value) (n : Nat) (hs : cs.size = n * size) (hb : base ≤ w.heap.size) (hm : n ≤ maxLen) (hn : cs = #[]) : (w.alloc (.cells cs e)).ownsRow base e size (.slice (some ⟨w.heap.size, 0, none⟩) n n) n cs.toList := World.ownsRow_lit w cs n hb hm hs
set_option maxRecDepth 100000 in
set_option maxHeartbeats 400000 in
theorem spec_sameTexts (va vb : Value) (xs ys : List Bs) (D : Nat → Prop) (w : World) (ha : StrsIn w D va xs) (hb : Reads w vb ys) (hx : xs.length ≤ 9500000) (hy : ys.length ≤ 9500000) :
    Calls Tryz.prog 47 #[va, vb] w fun e w' => e = .returned (.bool (decide (xs = ys))) ∧ Below w.heap.size w w' := by
  obtain ⟨aa, ca, rfl, _, _⟩ := ha.len
  obtain ⟨ab, cb, rfl⟩ : ∃ a c, vb = .slice a ys.length c := by
    rcases hb with ⟨rfl, rfl⟩ | ⟨b, off, cap, rfl, _⟩ <;> exact ⟨_, _, rfl⟩
  by_cases hl : xs.length = ys.length
  · have Ha := Lib.hid ha
    have Hb := Lib.hid hb
    have Hl := Lib.hid hl
    clear ha hb
    rw [← hl]
    clear hl
    go_enter Tryz.func47, Tryz.ntmps47
    go_wp2_with fail
    go_loopw [5] (fun kv wr => ∃ k : Nat, k ≤ xs.length ∧ kv = .int .i64 k ∧ Below w.heap.size w wr ∧ ∀ i (h1 : i < xs.length) (h2 : i < ys.length), i < k → xs[i] = ys[i]) (fun kv _ => xs.length - (intOf kv).toNat)
    case atStart => exact ⟨0, by omega, rfl, Below.refl _ _, fun i _ _ h => absurd h (by omega)⟩
    case round =>
      obtain ⟨k, hk, rfl, hbel, hp⟩ := hrel
      have Hp := Lib.hid hp
      clear hp
      by_cases hlt : k < xs.length
      · have hlt2 : k < ys.length := by rw [← Hl.out]; exact hlt
        obtain ⟨b1, o1, c1, e1, _, hb1, hc1⟩ := Ha.out.at_ hlt
        obtain ⟨b2, o2, c2, e2, _, _, hb2, hc2⟩ := Reads.some Hb.out (by omega)
        simp only [Value.slice.injEq] at e1 e2
        obtain ⟨rfl, _, rfl⟩ := e1
        obtain ⟨rfl, _, rfl⟩ := e2
        have hce1 := (hbel.cell (p := ⟨b1, o1 + k, none⟩) hb1).trans hc1
        have hce2 := (hbel.cell (p := ⟨b2, o2 + k, none⟩) hb2).trans (hc2 k hlt2)
        have hki : (k : Int) < (xs.length : Int) := by omega
        have hk0 : (0 : Int) ≤ (k : Int) := by omega
        clear hc1 hc2
        by_cases heq : xs[k] = ys[k]
        · have Heq := Lib.hid heq
          rw [← heq] at hce2
          clear heq
          go_wp2_with fail
          go_quiet (fail)
          go_wp2_with fail
          go_roundw
          case rel =>
            refine ⟨k + 1, by omega, by go_num, stale_below_drewN hbel _, fun i h1 h2 hi => ?_⟩
            by_cases e : i = k
            · subst e; exact Heq.out
            · exact Hp.out i h1 h2 (by omega)
          case measure => simp [intOf]; omega
        · have hne : (xs[k] == ys[k]) = false := by simpa using heq
          have hne2 : (xs[k] != ys[k]) = true := by rw [bne, hne]; rfl
          have hv : decide (xs = ys) = false := decide_eq_false (fun e => heq (by subst e; rfl))
          have Hv := Lib.hid hv
          clear hv heq
          generalize xs[k] = p at *
          generalize ys[k] = r at *
          go_wp2_with fail
          go_quiet (fail)
          go_wp2_with fail
          go_ret
          rw [Hv.out]
          exact ⟨rfl, stale_below_drewN hbel _⟩
      · have hv : decide (xs = ys) = true := decide_eq_true (stale_eq_getElem Hl.out (fun i h1 h2 => Hp.out i h1 h2 (by omega)))
        have Hv := Lib.hid hv
        clear hv
        go_wp2_with fail
        go_ret
        rw [Hv.out]
        exact ⟨rfl, hbel⟩
  · have hv : decide (xs = ys) = false := decide_eq_false (fun e => hl (by rw [e]))
    have Hv := Lib.hid hv
    have hlb : ((xs.length : Int) != (ys.length : Int)) = true := by rw [bne_iff_ne]; omega
    clear hv hl ha hb
    generalize xs.length = n at *
    generalize ys.length = m at *
    go_enter Tryz.func47, Tryz.ntmps47
    go_wp2_with fail
    go_ret
    rw [Hv.out]
    exact ⟨rfl, Below.refl _ _⟩
set_option maxRecDepth 100000 in
set_option maxHeartbeats 4000000 in
theorem spec_StaleDirs (u : Value) (ds : List Dr) (f h : Int) (v : Value) (fs : List Fil) (c : Int) (u2 : Value) (dd : List Dr) (D : Nat → Prop) (w : World) (hr : DirsIn w D u ds) (hz : ShortD 2000000 ds) (hk : DskIn w D v fs u2 dd) (hkz : ShortK 2000000 fs dd) :
    Calls Tryz.prog 9 #[.agg #[u, .int .i64 f, .int .i64 h], .agg #[v, .int .i64 c, u2]] w (NewInts 3 (stale ⟨ds, f, h⟩ ⟨fs, c, dd⟩) w) := by
  obtain ⟨i0, hi, hz0, hz1, hz2⟩ := info_parts infoI
  have Hi := Lib.hid hi
  have Hz0 := Lib.hid hz0
  have Hz1 := Lib.hid hz1
  have Hz2 := Lib.hid hz2
  have Hr := Lib.hid hr
  have Hz := Lib.hid hz
  have Hd := Lib.hid hk
  have Hdz := Lib.hid hkz
  obtain ⟨ua, uc, rfl, hul, hum⟩ := hr.len
  obtain ⟨⟨va, vc, rfl, hvl, hvm⟩, ⟨wa, wc, rfl, hwl, hwm⟩⟩ := hk.len
  unfold maxLen at hum
  clear hr hz hk hkz hi hz0 hz1 hz2 hvl hvm hwl hwm
  have HB0 := Lib.hid (Boxed2.start w #[.slice ua ds.length uc, .int .i64 f, .int .i64 h] 36 #[.slice va fs.length vc, .int .i64 c, .slice wa dd.length wc] 42)
  cases h1 : okFnd ⟨ds, f, h⟩
  · have H1 := Lib.hid h1
    have Hs := Lib.hid (stale_none (f := ⟨ds, f, h⟩) (d := ⟨fs, c, dd⟩) (by rw [h1]; rfl))
    clear h1
    go_enter Tryz.func9, Tryz.ntmps9
    go_wp2_with (go_at_call 44; refine (spec_validFinder _ ds f h D _ (Hr.out.below (by (repeat (with_reducible first | exact Below.refl _ _ | assumption | refine ba ?_ _ | refine bd ?_ | refine bdN ?_ _ | refine bs ?_ (by first | exact Nat.le_refl _ | (dsimp only; omega) | (simp; done)) _ | refine bt ?_ (by assumption))))) Hz.out).mono ?_; rintro _ w5 ⟨rfl, hb5⟩; rw [H1.out])
    go_ret
    exact stale_no Hs.out (by (repeat (with_reducible first | exact Below.refl _ _ | assumption | refine ba ?_ _ | refine bd ?_ | refine bdN ?_ _ | refine bs ?_ (by first | exact Nat.le_refl _ | (dsimp only; omega) | (simp; done)) _ | refine bt ?_ (by assumption))))
  cases h2 : okDisk ⟨fs, c, dd⟩
  · have H1 := Lib.hid h1
    have H2 := Lib.hid h2
    have Hs := Lib.hid (stale_none (f := ⟨ds, f, h⟩) (d := ⟨fs, c, dd⟩) (by rw [h2, Bool.and_false]))
    clear h1 h2
    go_enter Tryz.func9, Tryz.ntmps9
    go_wp2_with (first
      | (go_at_call 44; refine (spec_validFinder _ ds f h D _ (Hr.out.below (by (repeat (with_reducible first | exact Below.refl _ _ | assumption | refine ba ?_ _ | refine bd ?_ | refine bdN ?_ _ | refine bs ?_ (by first | exact Nat.le_refl _ | (dsimp only; omega) | (simp; done)) _ | refine bt ?_ (by assumption))))) Hz.out).mono ?_; rintro _ w5 ⟨rfl, hb5⟩; rw [H1.out]; have Hx5 := Lib.hid (HB0.out.step hb5); have x0 : w5.cell? ⟨w.heap.size + 1, 0, none⟩ = some (.slice va fs.length vc) := Hx5.out.cell 0; have x1 : w5.cell? ⟨w.heap.size + 1, 1, none⟩ = some (.int .i64 c) := Hx5.out.cell 1; have x2 : w5.cell? ⟨w.heap.size + 1, 2, none⟩ = some (.slice wa dd.length wc) := Hx5.out.cell 2; have xs := Hx5.out.lt)
      | (go_at_call 45; refine (spec_validDisk _ fs c _ dd D _ (Hd.out.below (by have := Hx5.out.below; (repeat (with_reducible first | exact Below.refl _ _ | assumption | refine ba ?_ _ | refine bd ?_ | refine bdN ?_ _ | refine bs ?_ (by first | exact Nat.le_refl _ | (dsimp only; omega) | (simp; done)) _ | refine bt ?_ (by assumption))))) Hdz.out).mono ?_; rintro _ w6 ⟨rfl, hb6⟩; rw [H2.out]))
    go_ret
    exact stale_no Hs.out (bt Hx5.out.below hb6)
  have H1 := Lib.hid h1
  have H2 := Lib.hid h2
  have h20 := (okFnd_dirs h1).1
  dsimp only at h20
  have Hdr := Lib.hid (okFnd_dirs h1).2
  have Htr := Lib.hid (okDisk_tree h2)
  have h12 : fs.length ≤ 12 := (okTree_all (okDisk_tree h2)).2.2
  have Hst := Lib.hid (stale_at h1 h2)
  dsimp only at Hst Htr
  have Hall := Lib.hid (show fs.all okFil = true by have := Htr.out; unfold okTree at this; simp only [Bool.and_eq_true] at this; exact this.1.1)
  clear h1 h2
  go_enter Tryz.func9, Tryz.ntmps9
  go_wp2_with (first
    | (go_at_call 44; refine (spec_validFinder _ ds f h D _ (Hr.out.below (by (repeat (with_reducible first | exact Below.refl _ _ | assumption | refine ba ?_ _ | refine bd ?_ | refine bdN ?_ _ | refine bs ?_ (by first | exact Nat.le_refl _ | (dsimp only; omega) | (simp; done)) _ | refine bt ?_ (by assumption))))) Hz.out).mono ?_; rintro _ w5 ⟨rfl, hb5⟩; rw [H1.out]; have Hx5 := Lib.hid (HB0.out.step hb5); have x0 : w5.cell? ⟨w.heap.size + 1, 0, none⟩ = some (.slice va fs.length vc) := Hx5.out.cell 0; have x1 : w5.cell? ⟨w.heap.size + 1, 1, none⟩ = some (.int .i64 c) := Hx5.out.cell 1; have x2 : w5.cell? ⟨w.heap.size + 1, 2, none⟩ = some (.slice wa dd.length wc) := Hx5.out.cell 2; have xs := Hx5.out.lt)
    | (go_at_call 45; refine (spec_validDisk _ fs c _ dd D _ (Hd.out.below (by have := Hx5.out.below; (repeat (with_reducible first | exact Below.refl _ _ | assumption | refine ba ?_ _ | refine bd ?_ | refine bdN ?_ _ | refine bs ?_ (by first | exact Nat.le_refl _ | (dsimp only; omega) | (simp; done)) _ | refine bt ?_ (by assumption))))) Hdz.out).mono ?_; rintro _ w6 ⟨rfl, hb6⟩; rw [H2.out]; have Hx6 := Lib.hid (Hx5.out.step hb6); have y0 : w6.cell? ⟨w.heap.size, 0, none⟩ = some (.slice ua ds.length uc) := Hx6.out.one.cell 0; clear x0 x1 x2 xs hb5 hb6))
  clear y0
  go_loopw [5, 6] (fun dv kv wr => ∃ (k : Nat), k ≤ ds.length ∧ kv = .int .i64 k ∧ wr.ownsRow (w.heap.size + 2) 3 1 dv (staleGo fs dd (ds.take k) 0).length ((staleGo fs dd (ds.take k) 0).map iv) ∧ Boxed2 w #[.slice ua ds.length uc, .int .i64 f, .int .i64 h] 36 #[.slice va fs.length vc, .int .i64 c, .slice wa dd.length wc] 42 wr) (fun _ kv _ => ds.length - (intOf kv).toNat)
  case atStart => exact ⟨0, by omega, rfl, stale_lit #[] 0 (by simp) (by have := Hx6.out.lt; omega) (by unfold maxLen; omega) rfl, Hx6.out.step (ba (Below.refl _ _) _)⟩
  case round =>
    obtain ⟨k, hk, rfl, hown, hbx⟩ := hrel
    have hbel := hbx.below
    have hsz := hbx.lt
    have fA : wr.cell? ⟨w.heap.size, 0, none⟩ = some (.slice ua ds.length uc) := hbx.one.cell 0
    have hsz0 : w.heap.size < wr.heap.size := by omega
    have Hown := Lib.hid hown
    have Hbx := Lib.hid hbx
    clear hown hbx Hx6 Hx5
    by_cases hlt : k < ds.length
    · have Hsn := Lib.hid (stale_snocB fs dd ds k hlt)
      have hll : (staleGo fs dd (ds.take k) 0).length ≤ 20 := Nat.le_trans (staleGo_len _ _ _ _) (by rw [List.length_take]; omega)
      obtain ⟨b, off, cap, nv, e, hD, hb, hnm, c0, c1, c2, c3⟩ := (Hr.out.below hbel).at_ hlt
      simp only [Value.slice.injEq] at e
      obtain ⟨rfl, _, rfl⟩ := e
      have hdr := Hdr.out _ (List.getElem_mem hlt)
      have hzk := Hz.out _ (List.getElem_mem hlt)
      have hk1 : (k : Int) < (ds.length : Int) := by omega
      have hk0 : (0 : Int) ≤ (k : Int) := by omega
      obtain ⟨x, hx⟩ : ∃ x, x = ds[k] := ⟨_, rfl⟩
      rw [← hx] at c0 c1 c2 hdr hzk Hsn hnm
      clear hx
      obtain ⟨dr, dp, dst, dn⟩ := x
      dsimp only at c0 c1 c2 c3 hzk hnm
      have hpl : dp.length ≤ 2000000 := hzk.1
      have hdn : dn.length ≤ 12 := by unfold okDr at hdr; simp only [Bool.and_eq_true, decide_eq_true_eq] at hdr; exact hdr.2
      have Hvp := Lib.hid (show vpk dp = true by unfold okDr at hdr; simp only [Bool.and_eq_true] at hdr; exact hdr.1.1.2)
      have Hrt := Lib.hid (show inr dr 0 2 = true by unfold okDr at hdr; simp only [Bool.and_eq_true] at hdr; exact hdr.1.1.1)
      have Hnm := Lib.hid hnm
      obtain ⟨na, nc, rfl, _, _⟩ := hnm.len
      have Hbel := Lib.hid hbel
      clear hnm hdr hzk hbel
      obtain ⟨sn, hsnn⟩ : ∃ s, s = stampIn dd (dr, dp) := ⟨_, rfl⟩
      obtain ⟨sb, hsb⟩ : ∃ b, b = decide (dst = sn) := ⟨_, rfl⟩
      have Hsnn := Lib.hid hsnn
      obtain ⟨ln, hln⟩ : ∃ l, l = listDir fs dr dp := ⟨_, rfl⟩
      obtain ⟨eb, heb⟩ : ∃ b, b = decide (dn = ln) := ⟨_, rfl⟩
      have hll2 : ln.length ≤ 12 := by rw [hln]; exact Nat.le_trans (listDir_len _ _ _) h12
      have Hsb := Lib.hid hsb
      have Hln := Lib.hid hln
      have Hln2 := Lib.hid (show ln = sortUp (entries fs dr dp) by rw [hln, listDir_ok Htr.out Hrt.out Hvp.out])
      have Heb := Lib.hid heb
      have Hiss := Lib.hid (show isStale fs dd ⟨dr, dp, dst, dn⟩ = (sb && !eb) by rw [hsb, heb, hln, hsnn]; rfl)
      rw [Hiss.out] at Hsn
      clear hsb hln heb Hiss hsnn
      generalize staleGo fs dd (ds.take k) 0 = L at *
      obtain ⟨W1, hW1⟩ : ∃ W1, W1 = wr.alloc (.cells #[.int .i64 dr, .string (mk dp), .int .i64 dst, .slice na dn.length nc] 66) := ⟨_, rfl⟩
      have HbW := Lib.hid (show Below wr.heap.size wr W1 by rw [hW1]; (repeat (with_reducible first | exact Below.refl _ _ | assumption | refine ba ?_ _ | refine bd ?_ | refine bdN ?_ _ | refine bs ?_ (by first | exact Nat.le_refl _ | (dsimp only; omega) | (simp; done)) _ | refine bt ?_ (by assumption))))
      have X1 := Lib.hid (show BoxC W1 wr.heap.size #[.int .i64 dr, .string (mk dp), .int .i64 dst, .slice na dn.length nc] by rw [hW1]; exact BoxC.start wr _ _)
      have HWe := Lib.hid hW1
      have hW1s : W1.heap.size = wr.heap.size + 1 := by rw [hW1]; simp
      clear hW1
      have Hk := Lib.hid (fun (w' : World) (hB : Below W1.heap.size W1 w') => (have h0 := X1.out.below hB; have h1 := (Hbx.out.step (bt HbW.out hB)); ⟨h0.2 0, h0.2 1, h0.2 2, h0.2 3, h1.cell 0, h1.cell 1, h1.cell 2⟩ : w'.cell? ⟨wr.heap.size, 0, none⟩ = some (.int .i64 dr) ∧ w'.cell? ⟨wr.heap.size, 1, none⟩ = some (.string (mk dp)) ∧ w'.cell? ⟨wr.heap.size, 2, none⟩ = some (.int .i64 dst) ∧ w'.cell? ⟨wr.heap.size, 3, none⟩ = some (.slice na dn.length nc) ∧ w'.cell? ⟨w.heap.size + 1, 0, none⟩ = some (.slice va fs.length vc) ∧ w'.cell? ⟨w.heap.size + 1, 1, none⟩ = some (.int .i64 c) ∧ w'.cell? ⟨w.heap.size + 1, 2, none⟩ = some (.slice wa dd.length wc)))
      go_upto_region 8 with fail
      rw [← HWe.out]
      clear c0 c1 c2 c3 fA
      cases sb
      · have Hs2 := Lib.hid (show staleGo fs dd (ds.take (k + 1)) 0 = L by rw [Hsn.out]; simp)
        obtain ⟨e0, e1, e2, e3, d0, d1, d2⟩ := Hk.out W1 (Below.refl _ _)
        have k0 := cell_regrown e0
        have k1 := cell_regrown e1
        have k2 := cell_regrown e2
        have k3 := cell_regrown e3
        have j0 := cell_regrown d0
        have j1 := cell_regrown d1
        have j2 := cell_regrown d2
        have cB : ∀ d os, Calls Tryz.prog 46 #[.agg #[.slice va fs.length vc, .int .i64 c, .slice wa dd.length wc], .int .i64 dr, .string (mk dp)] (grow (redrawn W1 d) os) fun e w'' => e = .returned (.int .i64 sn) ∧ ∃ p : Regrown, w'' = grow (redrawn W1 p.d) p.os := fun d os =>
          Calls.regrown_of (by rw [Hsnn.out]; exact spec_stampOf _ c _ dd D dr dp _ (Hd.out.2.below (bt Hbel.out (bt HbW.out (below_regrown W1 d os)))))
        have hbb : (dst == sn) = false := by have := Hsb.out; simpa using this.symm
        have hbc : (dst = sn) = False := eq_false (by simpa using hbb)
        clear e0 e1 e2 e3 d0 d1 d2
        refine wp_region_quiet_below (by kernel_rfl) (by kernel_rfl) ?_
        repeat (go_big_quiet_step (exact cB _ _))
        refine wpQuiet_nil ?_
        intro _ hw'
        obtain ⟨⟨dq, osq⟩, hw2⟩ := hw'
        obtain ⟨W2, hW2⟩ : ∃ W2, W2 = grow (redrawn W1 dq) osq := ⟨_, rfl⟩
        rw [hw2, ← hW2]
        have Hb7 := Lib.hid (show Below wr.heap.size wr W2 by rw [hW2]; exact bt HbW.out (below_regrown W1 dq osq))
        clear hw2 hW2 cB hbb hbc k0 k1 k2 k3 j0 j1 j2
        go_wp2_with fail
        go_roundw
        case rel => exact ⟨k + 1, by omega, by go_num, by rw [Hs2.out]; exact owns_below Hown.out Hb7.out, Hbx.out.step Hb7.out⟩
        case measure => simp [intOf]; omega
      · obtain ⟨e0, e1, e2, e3, d0, d1, d2⟩ := Hk.out W1 (Below.refl _ _)
        have hbb : (dst == sn) = true := by have := Hsb.out; simpa using this.symm
        cases eb
        · have Hs2 := Lib.hid (show staleGo fs dd (ds.take (k + 1)) 0 = L ++ [(k : Int)] by rw [Hsn.out]; simp)
          go_region_held3 (fun w' => w'.cell? ⟨wr.heap.size, 0, none⟩ = some (.int .i64 dr) ∧ w'.cell? ⟨wr.heap.size, 1, none⟩ = some (.string (mk dp)) ∧ w'.cell? ⟨wr.heap.size, 2, none⟩ = some (.int .i64 dst) ∧ w'.cell? ⟨wr.heap.size, 3, none⟩ = some (.slice na dn.length nc) ∧ w'.cell? ⟨w.heap.size + 1, 0, none⟩ = some (.slice va fs.length vc) ∧ w'.cell? ⟨w.heap.size + 1, 1, none⟩ = some (.int .i64 c) ∧ w'.cell? ⟨w.heap.size + 1, 2, none⟩ = some (.slice wa dd.length wc))
            (first | (refine Hk.out _ ?_; (repeat (with_reducible first | exact Below.refl _ _ | assumption | refine ba ?_ _ | refine bd ?_ | refine bdN ?_ _ | refine bs ?_ (by first | exact Nat.le_refl _ | (dsimp only; omega) | (simp; done)) _ | refine bt ?_ (by assumption))); done))
            (first
              | (go_at_call 46; refine (spec_stampOf _ c _ dd D dr dp _ (Hd.out.2.below (bt Hbel.out (bt HbW.out (show Below W1.heap.size W1 _ by (repeat (with_reducible first | exact Below.refl _ _ | assumption | refine ba ?_ _ | refine bd ?_ | refine bdN ?_ _ | refine bs ?_ (by first | exact Nat.le_refl _ | (dsimp only; omega) | (simp; done)) _ | refine bt ?_ (by assumption)))))))).mono ?_; rintro _ wA ⟨rfl, hbA⟩; rw [← Hsnn.out]; have hBA : Below W1.heap.size W1 wA := (by (repeat (with_reducible first | exact Below.refl _ _ | assumption | refine ba ?_ _ | refine bd ?_ | refine bdN ?_ _ | refine bs ?_ (by first | exact Nat.le_refl _ | (dsimp only; omega) | (simp; done)) _ | refine bt ?_ (by assumption)))))
              | (go_at_call 48; refine (spec_listing _ fs D dr dp _ (Hd.out.1.below (bt Hbel.out (bt HbW.out (show Below W1.heap.size W1 _ by (repeat (with_reducible first | exact Below.refl _ _ | assumption | refine ba ?_ _ | refine bd ?_ | refine bdN ?_ _ | refine bs ?_ (by first | exact Nat.le_refl _ | (dsimp only; omega) | (simp; done)) _ | refine bt ?_ (by assumption))))))) Hdz.out.1 hpl Hall.out h12 Hvp.out).mono ?_; rintro _ wB ⟨vB, rfl, hownB, hbB⟩; rw [← Hln2.out] at hownB; have hBB : Below W1.heap.size W1 wB := (by (repeat (with_reducible first | exact Below.refl _ _ | assumption | refine ba ?_ _ | refine bd ?_ | refine bdN ?_ _ | refine bs ?_ (by first | exact Nat.le_refl _ | (dsimp only; omega) | (simp; done)) _ | refine bt ?_ (by assumption)))); have SB := Lib.hid (Reads.of_owns hownB); obtain ⟨la, lc, rfl⟩ := owns_shape hownB; clear hownB)
              | (go_at_call 47; refine (spec_sameTexts _ _ dn ln D _ (Hnm.out.below (bt HbW.out (show Below W1.heap.size W1 _ by (repeat (with_reducible first | exact Below.refl _ _ | assumption | refine ba ?_ _ | refine bd ?_ | refine bdN ?_ _ | refine bs ?_ (by first | exact Nat.le_refl _ | (dsimp only; omega) | (simp; done)) _ | refine bt ?_ (by assumption)))))) (SB.out.below (by (repeat (with_reducible first | exact Below.refl _ _ | assumption | refine ba ?_ _ | refine bd ?_ | refine bdN ?_ _ | refine bs ?_ (by first | exact Nat.le_refl _ | (dsimp only; omega) | (simp; done)) _ | refine bt ?_ (by assumption))))) (by omega) (by omega)).mono ?_; rintro _ w8 ⟨rfl, hbC⟩; rw [← Heb.out]; have hBC : Below W1.heap.size W1 w8 := (by (repeat (with_reducible first | exact Below.refl _ _ | assumption | refine ba ?_ _ | refine bd ?_ | refine bdN ?_ _ | refine bs ?_ (by first | exact Nat.le_refl _ | (dsimp only; omega) | (simp; done)) _ | refine bt ?_ (by assumption))))))
          have Hb6 := Lib.hid (show Below wr.heap.size wr w8 from bt HbW.out hBC)
          have hz6 := Hb6.out.size
          clear e0 e1 e2 e3 d0 d1 d2 hbA hbB hbC hBA hBB hBC
          go_wp2_with (at_builtin; refine wpList_append_own _ rfl _ _ 32 rfl (w.heap.size + 2) 3 i0 (.int .i64 0) 1 8 Tryz.underlying32 Hi.out Hz0.out Hz1.out Hz2.out rfl (by decide) _ L.length _ rfl ((owns_below Hown.out Hb6.out).alloc _) ⟨_, 0, none⟩ 1 1 [.int .i64 k] rfl rfl (stale_one (by first | rfl | simp)) (fun x hx => by simp at hx; subst hx; rfl) (by unfold maxLen; omega) (by omega) (by simp; omega) ?_; intro v9 w9 hown9 hgrow9 hnil9)
          have Hx9 := Lib.hid (stale_first2 Hbx.out (ba Hb6.out _) hgrow9 (fun g hg => (Hown.out.lt g hg).1))
          have Hown9 := Lib.hid (show w9.ownsRow (w.heap.size + 2) 3 1 v9 (L ++ [(k : Int)]).length ((L ++ [(k : Int)]).map iv) by rw [List.length_append, List.map_append]; exact hown9)
          clear hown9 hgrow9 hnil9
          go_roundw
          case rel => exact ⟨k + 1, by omega, by go_num, by rw [Hs2.out]; exact Hown9.out, Hx9.out⟩
          case measure => simp [intOf]; omega
        · have Hs2 := Lib.hid (show staleGo fs dd (ds.take (k + 1)) 0 = L by rw [Hsn.out]; simp)
          go_region_held3 (fun w' => w'.cell? ⟨wr.heap.size, 0, none⟩ = some (.int .i64 dr) ∧ w'.cell? ⟨wr.heap.size, 1, none⟩ = some (.string (mk dp)) ∧ w'.cell? ⟨wr.heap.size, 2, none⟩ = some (.int .i64 dst) ∧ w'.cell? ⟨wr.heap.size, 3, none⟩ = some (.slice na dn.length nc) ∧ w'.cell? ⟨w.heap.size + 1, 0, none⟩ = some (.slice va fs.length vc) ∧ w'.cell? ⟨w.heap.size + 1, 1, none⟩ = some (.int .i64 c) ∧ w'.cell? ⟨w.heap.size + 1, 2, none⟩ = some (.slice wa dd.length wc))
            (first | (refine Hk.out _ ?_; (repeat (with_reducible first | exact Below.refl _ _ | assumption | refine ba ?_ _ | refine bd ?_ | refine bdN ?_ _ | refine bs ?_ (by first | exact Nat.le_refl _ | (dsimp only; omega) | (simp; done)) _ | refine bt ?_ (by assumption))); done))
            (first
              | (go_at_call 46; refine (spec_stampOf _ c _ dd D dr dp _ (Hd.out.2.below (bt Hbel.out (bt HbW.out (show Below W1.heap.size W1 _ by (repeat (with_reducible first | exact Below.refl _ _ | assumption | refine ba ?_ _ | refine bd ?_ | refine bdN ?_ _ | refine bs ?_ (by first | exact Nat.le_refl _ | (dsimp only; omega) | (simp; done)) _ | refine bt ?_ (by assumption)))))))).mono ?_; rintro _ wA ⟨rfl, hbA⟩; rw [← Hsnn.out]; have hBA : Below W1.heap.size W1 wA := (by (repeat (with_reducible first | exact Below.refl _ _ | assumption | refine ba ?_ _ | refine bd ?_ | refine bdN ?_ _ | refine bs ?_ (by first | exact Nat.le_refl _ | (dsimp only; omega) | (simp; done)) _ | refine bt ?_ (by assumption)))))
              | (go_at_call 48; refine (spec_listing _ fs D dr dp _ (Hd.out.1.below (bt Hbel.out (bt HbW.out (show Below W1.heap.size W1 _ by (repeat (with_reducible first | exact Below.refl _ _ | assumption | refine ba ?_ _ | refine bd ?_ | refine bdN ?_ _ | refine bs ?_ (by first | exact Nat.le_refl _ | (dsimp only; omega) | (simp; done)) _ | refine bt ?_ (by assumption))))))) Hdz.out.1 hpl Hall.out h12 Hvp.out).mono ?_; rintro _ wB ⟨vB, rfl, hownB, hbB⟩; rw [← Hln2.out] at hownB; have hBB : Below W1.heap.size W1 wB := (by (repeat (with_reducible first | exact Below.refl _ _ | assumption | refine ba ?_ _ | refine bd ?_ | refine bdN ?_ _ | refine bs ?_ (by first | exact Nat.le_refl _ | (dsimp only; omega) | (simp; done)) _ | refine bt ?_ (by assumption)))); have SB := Lib.hid (Reads.of_owns hownB); obtain ⟨la, lc, rfl⟩ := owns_shape hownB; clear hownB)
              | (go_at_call 47; refine (spec_sameTexts _ _ dn ln D _ (Hnm.out.below (bt HbW.out (show Below W1.heap.size W1 _ by (repeat (with_reducible first | exact Below.refl _ _ | assumption | refine ba ?_ _ | refine bd ?_ | refine bdN ?_ _ | refine bs ?_ (by first | exact Nat.le_refl _ | (dsimp only; omega) | (simp; done)) _ | refine bt ?_ (by assumption)))))) (SB.out.below (by (repeat (with_reducible first | exact Below.refl _ _ | assumption | refine ba ?_ _ | refine bd ?_ | refine bdN ?_ _ | refine bs ?_ (by first | exact Nat.le_refl _ | (dsimp only; omega) | (simp; done)) _ | refine bt ?_ (by assumption))))) (by omega) (by omega)).mono ?_; rintro _ w8 ⟨rfl, hbC⟩; rw [← Heb.out]; have hBC : Below W1.heap.size W1 w8 := (by (repeat (with_reducible first | exact Below.refl _ _ | assumption | refine ba ?_ _ | refine bd ?_ | refine bdN ?_ _ | refine bs ?_ (by first | exact Nat.le_refl _ | (dsimp only; omega) | (simp; done)) _ | refine bt ?_ (by assumption))))))
          have Hb6 := Lib.hid (show Below wr.heap.size wr w8 from bt HbW.out hBC)
          clear e0 e1 e2 e3 d0 d1 d2 hbA hbB hbC hBA hBB hBC
          go_wp2_with fail
          go_roundw
          case rel => exact ⟨k + 1, by omega, by go_num, by rw [Hs2.out]; exact owns_below Hown.out Hb6.out, Hbx.out.step Hb6.out⟩
          case measure => simp [intOf]; omega
    · obtain rfl : k = ds.length := by omega
      go_wp2_with fail
      go_ret
      exact ⟨_, rfl, owns_mono (by rw [Hst.out]; exact Hown.out) (by omega), hbel⟩
end Go.Proofs.YtllopbfgiflokaaGreat
