/- The contract of the model's WrongFiles. -/
import Derived.Test.YtomdmkhgkaalnaaWrong2
import Derived.Test.YtomdmkhgkaalnaaSUsable
set_option linter.unusedVariables false
set_option linter.unusedSimpArgs false
namespace Go.Proofs.Ytomdmkhgkaalnaa
open Go.RowKit Go.Proofs.Ytomdmkhgkaalnaa.Nm
open Go.Sort (grow)

theorem wrong_lit {w : World} {base e size : Nat} (cs : Array Value) (n : Nat) (hs : cs.size = n * size) (hb : base ≤ w.heap.size) (hm : n ≤ maxLen) (hn : cs = #[]) : (w.alloc (.cells cs e)).ownsRow base e size (.slice (some ⟨w.heap.size, 0, none⟩) n n) n cs.toList := World.ownsRow_lit w cs n hb hm hs
set_option maxRecDepth 100000 in
set_option maxHeartbeats 4000000 in
theorem spec_WrongFiles (lv : Value) (cs : List Cmp) (D : Nat → Prop) (v : Value) (fs : List Fil) (ps : List (Fil × Value)) (B : Nat) (w : World) (hr : CmpsIn w D lv cs) (hz : ShortCs 1048576 cs) (h : RowsFB w B v ps) (hps : ps.map (·.1) = fs) (hfz : ShortT 1048576 fs) (hfl : filsCost' fs) :
    Calls Try.prog 50 #[lv, .agg #[v]] w (NewInts 3 (wrongs cs fs) w) := by
  subst hps
  obtain ⟨i0, hi, hz0, hz1, hz2⟩ := info_parts infoI
  have Hi := Lib.hid hi
  have Hz0 := Lib.hid hz0
  have Hz1 := Lib.hid hz1
  have Hz2 := Lib.hid hz2
  have Hr := Lib.hid hr
  have Hz := Lib.hid hz
  have Hz20 := Lib.hid (shortCs_mono (B := 2000000) (by omega) hz)
  have H := Lib.hid h
  have Hfz := Lib.hid hfz
  have Hfl := Lib.hid hfl
  have HF := Lib.hid (h.fils (D := fun _ => True) (fun _ _ => trivial))
  have Hfz8 := Lib.hid (shortT_mono (B := 3000000) (by omega) hfz)
  obtain ⟨la, lc, rfl, hll, hlm⟩ := hr.len
  unfold maxLen at hlm
  obtain ⟨aa, ca, rfl⟩ := h.len
  clear hr hz h hfz hfl hi hz0 hz1 hz2
  have Hb0 := Lib.hid (Boxed.start w #[.slice aa ps.length ca] 33)
  cases h1 : okStore cs
  · have H1 := Lib.hid h1
    have Hs := Lib.hid (wrongs_none (cs := cs) (t := ps.map (·.1)) (by rw [h1]; rfl))
    clear h1
    go_enter Try.func50, Try.ntmps50
    go_wp2_with (go_at_call 58; refine (spec_validStore _ cs D _ (Hr.out.below (by (repeat (with_reducible first | exact Below.refl _ _ | assumption | refine ba ?_ _ | refine bd ?_ | refine bdN ?_ _ | refine bs ?_ (by first | exact Nat.le_refl _ | (dsimp only; omega) | (simp; done)) _ | refine bt ?_ (by assumption))))) Hz20.out).mono ?_; rintro _ w5 ⟨rfl, hb5⟩; rw [H1.out])
    go_ret
    exact wrong_no Hs.out (by (repeat (with_reducible first | exact Below.refl _ _ | assumption | refine ba ?_ _ | refine bd ?_ | refine bdN ?_ _ | refine bs ?_ (by first | exact Nat.le_refl _ | (dsimp only; omega) | (simp; done)) _ | refine bt ?_ (by assumption))))
  cases h2 : okTree (ps.map (·.1))
  · have H1 := Lib.hid h1
    have H2 := Lib.hid h2
    have Hs := Lib.hid (wrongs_none (cs := cs) (t := ps.map (·.1)) (by rw [h2, Bool.and_false]))
    clear h1 h2
    go_enter Try.func50, Try.ntmps50
    go_wp2_with (first
      | (go_at_call 58; refine (spec_validStore _ cs D _ (Hr.out.below (by (repeat (with_reducible first | exact Below.refl _ _ | assumption | refine ba ?_ _ | refine bd ?_ | refine bdN ?_ _ | refine bs ?_ (by first | exact Nat.le_refl _ | (dsimp only; omega) | (simp; done)) _ | refine bt ?_ (by assumption))))) Hz20.out).mono ?_; rintro _ w5 ⟨rfl, hb5⟩; rw [H1.out]; have Hx5 := Lib.hid (Hb0.out.step hb5); have x0 : w5.cell? ⟨w.heap.size, 0, none⟩ = some (.slice aa ps.length ca) := Hx5.out.cell 0; have xs := Hx5.out.lt)
      | (go_at_call 59; refine (spec_validTree _ _ _ _ (HF.out.below (by have := Hx5.out.below; (repeat (with_reducible first | exact Below.refl _ _ | assumption | refine ba ?_ _ | refine bd ?_ | refine bdN ?_ _ | refine bs ?_ (by first | exact Nat.le_refl _ | (dsimp only; omega) | (simp; done)) _ | refine bt ?_ (by assumption))))) Hfz8.out).mono ?_; rintro _ w6 ⟨rfl, hb6⟩; rw [H2.out]))
    go_ret
    exact wrong_no Hs.out (bt Hx5.out.below hb6)
  have H1 := Lib.hid h1
  have H2 := Lib.hid h2
  have Hs := Lib.hid (wrongs_at h1 h2)
  have h12 : ps.length ≤ 12 := by have := (okTree_all h2).2.2; simpa using this
  have Hin := Lib.hid (fun f hf => okTree_inW h2 (f := f) hf)
  clear h1 h2
  go_enter Try.func50, Try.ntmps50
  go_wp2_with (first
    | (go_at_call 58; refine (spec_validStore _ cs D _ (Hr.out.below (by (repeat (with_reducible first | exact Below.refl _ _ | assumption | refine ba ?_ _ | refine bd ?_ | refine bdN ?_ _ | refine bs ?_ (by first | exact Nat.le_refl _ | (dsimp only; omega) | (simp; done)) _ | refine bt ?_ (by assumption))))) Hz20.out).mono ?_; rintro _ w5 ⟨rfl, hb5⟩; rw [H1.out]; have Hx5 := Lib.hid (Hb0.out.step hb5); have x0 : w5.cell? ⟨w.heap.size, 0, none⟩ = some (.slice aa ps.length ca) := Hx5.out.cell 0; have xs := Hx5.out.lt)
    | (go_at_call 59; refine (spec_validTree _ _ _ _ (HF.out.below (by have := Hx5.out.below; (repeat (with_reducible first | exact Below.refl _ _ | assumption | refine ba ?_ _ | refine bd ?_ | refine bdN ?_ _ | refine bs ?_ (by first | exact Nat.le_refl _ | (dsimp only; omega) | (simp; done)) _ | refine bt ?_ (by assumption))))) Hfz8.out).mono ?_; rintro _ w6 ⟨rfl, hb6⟩; rw [H2.out]; have Hx6 := Lib.hid (Hx5.out.step hb6); have hz6 := Hx6.out.lt))
  clear x0 xs hb5 hb6
  go_loopw [5, 6] (fun dv kv wr => ∃ (k : Nat), k ≤ ps.length ∧ kv = .int .i64 k ∧ wr.ownsRow (w.heap.size + 1) 3 1 dv (wrongGo cs ((ps.map (·.1)).take k) 0).length ((wrongGo cs ((ps.map (·.1)).take k) 0).map iv) ∧ Boxed w #[.slice aa ps.length ca] 33 wr) (fun _ kv _ => ps.length - (intOf kv).toNat)
  case atStart => exact ⟨0, by omega, rfl, wrong_lit #[] 0 (by simp) (by omega) (by unfold maxLen; omega) rfl, Hx6.out.step (ba (Below.refl _ _) _)⟩
  case round =>
    obtain ⟨k, hk, rfl, hown, hbx⟩ := hrel
    have hbel := hbx.below
    have hsz := hbx.lt
    have f0 : wr.cell? ⟨w.heap.size, 0, none⟩ = some (.slice aa ps.length ca) := hbx.cell 0
    have hsz0 : w.heap.size < wr.heap.size := by omega
    have Hown := Lib.hid hown
    have Hbx := Lib.hid hbx
    clear hown hbx Hx6 Hx5
    by_cases hlt : k < ps.length
    · have hlt' : k < (ps.map (·.1)).length := by simpa using hlt
      have Hsn := Lib.hid (wrongGo_snoc cs (ps.map (·.1)) k hlt')
      have hll2 : (wrongGo cs ((ps.map (·.1)).take k) 0).length ≤ 12 := Nat.le_trans (wrongGo_len _ _ _) (by rw [List.length_take]; omega)
      have hrow := (H.out.below hbel).1
      obtain ⟨g, cap, e1, hg, hg2⟩ := hrow.form (by omega)
      simp only [Value.slice.injEq] at e1
      obtain ⟨rfl, _, rfl⟩ := e1
      obtain ⟨⟨c0, c1, c2, c3, c4, c5⟩, _⟩ := own6 hrow k hlt
      have Hbody := Lib.hid ((H.out.below hbel).2.1 _ (List.getElem_mem hlt))
      have hmem : ps[k].1 ∈ ps.map (·.1) := List.mem_map.2 ⟨_, List.getElem_mem hlt, rfl⟩
      have Hzk := Lib.hid (Hfz.out _ hmem)
      have hlk := Hfl.out.2 _ hmem
      have Hok := Lib.hid (Hin.out _ hmem)
      rw [List.getElem_map] at Hsn
      obtain ⟨p, hp⟩ : ∃ p, p = ps[k] := ⟨_, rfl⟩
      rw [← hp] at c0 c1 c2 c3 c4 c5 Hbody Hzk Hok Hsn hlk
      clear hp hrow hg hg2 hmem hlt'
      obtain ⟨⟨fr, fp, fn, fi, fst, fb⟩, bv⟩ := p
      dsimp only at c0 c1 c2 c3 c4 c5 Hbody Hzk Hok Hsn hlk
      obtain ⟨ab, cb, rfl⟩ := owns_shape Hbody.out
      have Hbel := Lib.hid hbel
      have Hfb := Lib.hid (show StmsIn wr (fun _ => True) (.slice ab fb.length cb) fb from StmsIn.of_owns Hbody.out (fun _ _ => trivial))
      have hk1 : (k : Int) < (ps.length : Int) := by omega
      have hk0 : (0 : Int) ≤ (k : Int) := by omega
      clear hbel
      generalize wrongGo cs ((ps.map (·.1)).take k) 0 = L at *
      obtain ⟨W1, hW1⟩ : ∃ W1, W1 = wr.alloc (.cells #[.int .i64 fr, .string (mk fp), .string (mk fn), .bool fi, .int .i64 fst, .slice ab fb.length cb] 55) := ⟨_, rfl⟩
      have HbW := Lib.hid (show Below wr.heap.size wr W1 by rw [hW1]; (repeat (with_reducible first | exact Below.refl _ _ | assumption | refine ba ?_ _ | refine bd ?_ | refine bdN ?_ _ | refine bs ?_ (by first | exact Nat.le_refl _ | (dsimp only; omega) | (simp; done)) _ | refine bt ?_ (by assumption))))
      have X1 := Lib.hid (show BoxC W1 wr.heap.size #[.int .i64 fr, .string (mk fp), .string (mk fn), .bool fi, .int .i64 fst, .slice ab fb.length cb] by rw [hW1]; exact BoxC.start wr _ _)
      have HWe := Lib.hid hW1
      clear hW1
      obtain ⟨nm, hnm⟩ : ∃ n, n = modName ⟨fr, fp, fn, fi, fst, fb⟩ := ⟨_, rfl⟩
      have Hnm := Lib.hid hnm
      obtain ⟨kk, hkk⟩ : ∃ q, q = keyAt cplace cs (fr, nm, fi) := ⟨_, rfl⟩
      have Hkk := Lib.hid hkk
      have Hfpl := Lib.hid (show fplace ⟨fr, fp, fn, fi, fst, fb⟩ = (fr, nm, fi) by rw [hnm]; rfl)
      have Hobody := Lib.hid (show okBody fb = true from okFil_body Hok.out)
      clear hnm hkk
      go_upto_region 8 with fail
      rw [← HWe.out]
      clear c0 c1 c2 c3 c4 c5 f0 hsz0
      have j0 := cell_regrown (show W1.cell? ⟨wr.heap.size, 0, none⟩ = some (.int .i64 fr) from X1.out.2 0)
      have j1 := cell_regrown (show W1.cell? ⟨wr.heap.size, 1, none⟩ = some (.string (mk fp)) from X1.out.2 1)
      have j2 := cell_regrown (show W1.cell? ⟨wr.heap.size, 2, none⟩ = some (.string (mk fn)) from X1.out.2 2)
      have j3 := cell_regrown (show W1.cell? ⟨wr.heap.size, 3, none⟩ = some (.bool fi) from X1.out.2 3)
      have j4 := cell_regrown (show W1.cell? ⟨wr.heap.size, 4, none⟩ = some (.int .i64 fst) from X1.out.2 4)
      have j5 := cell_regrown (show W1.cell? ⟨wr.heap.size, 5, none⟩ = some (.slice ab fb.length cb) from X1.out.2 5)
      have cM : ∀ d os, Calls Try.prog 60 #[.agg #[.int .i64 fr, .string (mk fp), .string (mk fn), .bool fi, .int .i64 fst, .slice ab fb.length cb]] (grow (redrawn W1 d) os) fun e w'' => e = .returned (.string (mk nm)) ∧ ∃ p : Regrown, w'' = grow (redrawn W1 p.d) p.os := fun d os =>
        Calls.regrown_of (by rw [Hnm.out]; exact spec_moduleName fr fst fp fn fi _ fb _ (Nat.le_trans Hzk.out.1 (by omega)) (Nat.le_trans Hzk.out.2.1 (by omega)))
      have cA : ∀ d os, Calls Try.prog 109 #[.slice la cs.length lc, .int .i64 fr, .string (mk nm), .bool fi] (grow (redrawn W1 d) os) fun e w'' => e = .returned (.int .i64 kk) ∧ ∃ p : Regrown, w'' = grow (redrawn W1 p.d) p.os := fun d os =>
        Calls.regrown_of (by rw [Hkk.out]; exact spec_compiledAt la cs.length lc cs D fr nm fi _ (Hr.out.below (bt Hbel.out (bt HbW.out (below_regrown W1 d os)))))
      refine wp_region_quiet_below (by kernel_rfl) (by kernel_rfl) ?_
      repeat (go_big_quiet_step (first | exact cM _ _ | exact cA _ _))
      refine wpQuiet_nil ?_
      intro _ hw'
      obtain ⟨⟨dq, osq⟩, hw2⟩ := hw'
      obtain ⟨W2, hW2⟩ : ∃ W, W = grow (redrawn W1 dq) osq := ⟨_, rfl⟩
      rw [hw2, ← hW2]
      have HW2 := Lib.hid (show Below wr.heap.size wr W2 by rw [hW2]; exact bt HbW.out (below_regrown W1 dq osq))
      have H12 := Lib.hid (show Below W1.heap.size W1 W2 by rw [hW2]; exact below_regrown W1 dq osq)
      clear hw2 hW2
      clear cM cA j0 j1 j2 j3 j4 j5
      have X2 := Lib.hid (X1.out.below H12.out)
      have Hwr := Lib.hid (bt Hbel.out HW2.out)
      have hrg := keyAt_is (key := cplace) cs (fr, nm, fi)
      rw [← Hkk.out] at hrg
      rcases hrg with ⟨rfl, _⟩ | ⟨q, hq, rfl, hkey, _⟩
      · have Hs2 := Lib.hid (show wrongGo cs ((ps.map (·.1)).take (k + 1)) 0 = L by rw [Hsn.out, isWrong_none (usAt_none (by rw [Hfpl.out]; exact Hkk.out.symm))]; simp)
        have hzz : decide ((0 : Int) ≤ -1) = false := by decide
        go_wp2_with fail
        refine wp_region_quiet_below (by kernel_rfl) (by kernel_rfl) ?_
        repeat (go_big_quiet_step (fail))
        refine wpQuiet_nil ?_
        intro _ hw'
        obtain ⟨⟨dq, osq⟩, hw2⟩ := hw'
        obtain ⟨W8, hW8⟩ : ∃ W, W = grow (redrawn W2 dq) osq := ⟨_, rfl⟩
        rw [hw2, ← hW8]
        have HW8 := Lib.hid (show Below wr.heap.size wr W8 by rw [hW8]; exact bt HW2.out (below_regrown W2 dq osq))
        clear hw2 hW8
        go_wp2_with fail
        go_roundw
        case rel => exact ⟨k + 1, by omega, by go_num, by rw [Hs2.out]; exact owns_below Hown.out HW8.out, Hbx.out.step HW8.out⟩
        case measure => simp [intOf]; omega
      · obtain ⟨b, off, cap', cv, e, hD, hb, hcb, d0, d1, d2, d3, d4, d5, d6, d7⟩ := Hr.out.at_ hq
        simp only [Value.slice.injEq] at e
        obtain ⟨rfl, _, rfl⟩ := e
        have hq1 : (q : Int) < (cs.length : Int) := by omega
        have hq0 : (0 : Int) ≤ (q : Int) := by omega
        have hqd : decide ((0 : Int) ≤ (q : Int)) = true := decide_eq_true hq0
        have hokc := (okStore_facts H1.out).1 _ (List.getElem_mem hq)
        have Hus1 := Lib.hid (show isUsable cs[q] ⟨fr, fp, fn, fi, fst, fb⟩ = usable cs[q] ⟨fr, fp, fn, fi, fst, fb⟩ by
          unfold isUsable; rw [hokc, Hok.out, Hfpl.out, hkey]; simp)
        have Hbad := Lib.hid (fun (h : isUsable cs[q] ⟨fr, fp, fn, fi, fst, fb⟩ = false) => isWrong_none (usAt_bad (f := ⟨fr, fp, fn, fi, fst, fb⟩) hq (by rw [Hfpl.out]; exact Hkk.out.symm) h))
        have Hgood := Lib.hid (fun (h : isUsable cs[q] ⟨fr, fp, fn, fi, fst, fb⟩ = true) => isWrong_at (f := ⟨fr, fp, fn, fi, fst, fb⟩) hq (usAt_good hq (by rw [Hfpl.out]; exact Hkk.out.symm) h))
        obtain ⟨x, hx⟩ : ∃ x, x = cs[q] := ⟨_, rfl⟩
        rw [← hx] at d0 d1 d2 d3 d4 d5 d6 hcb Hus1 Hbad Hgood
        clear hx hokc hkey
        obtain ⟨x0, x1, x2, x3, x4, x5, x6, x7⟩ := x
        dsimp only at d0 d1 d2 d3 d4 d5 d6 hcb Hgood
        have Hcb := Lib.hid hcb
        obtain ⟨cva, cvc, rfl, _, _⟩ := hcb.len
        obtain ⟨eb, heb⟩ : ∃ e, e = decide (x7 = fb) := ⟨_, rfl⟩
        obtain ⟨us, hus⟩ : ∃ u, u = usable ⟨x0, x1, x2, x3, x4, x5, x6, x7⟩ ⟨fr, fp, fn, fi, fst, fb⟩ := ⟨_, rfl⟩
        have Heb := Lib.hid heb
        have Hus := Lib.hid hus
        have Hsn2 := Lib.hid (show wrongGo cs ((ps.map (·.1)).take (k + 1)) 0 = L ++ (if (us && !eb) = true then [(k : Int)] else []) by
          rw [Hsn.out]
          cases us
          · rw [Hbad.out (by rw [Hus1.out, ← hus])]; simp
          · rw [Hgood.out (by rw [Hus1.out, ← hus]), ← heb]; simp)
        have k0 := cell_regrown ((Hwr.out.cell (p := ⟨b, off + q * 8, none⟩) hb).trans d0)
        have k1 := cell_regrown ((Hwr.out.cell (p := ⟨b, off + q * 8 + 1, none⟩) hb).trans d1)
        have k2 := cell_regrown ((Hwr.out.cell (p := ⟨b, off + q * 8 + 2, none⟩) hb).trans d2)
        have k3 := cell_regrown ((Hwr.out.cell (p := ⟨b, off + q * 8 + 3, none⟩) hb).trans d3)
        have k4 := cell_regrown ((Hwr.out.cell (p := ⟨b, off + q * 8 + 4, none⟩) hb).trans d4)
        have k5 := cell_regrown ((Hwr.out.cell (p := ⟨b, off + q * 8 + 5, none⟩) hb).trans d5)
        have k6 := cell_regrown ((Hwr.out.cell (p := ⟨b, off + q * 8 + 6, none⟩) hb).trans d6)
        have k7 := cell_regrown ((Hwr.out.cell (p := ⟨b, off + q * 8 + 7, none⟩) hb).trans d7)
        have j0 := cell_regrown (show W2.cell? ⟨wr.heap.size, 0, none⟩ = some (.int .i64 fr) from X2.out.2 0)
        have j1 := cell_regrown (show W2.cell? ⟨wr.heap.size, 1, none⟩ = some (.string (mk fp)) from X2.out.2 1)
        have j2 := cell_regrown (show W2.cell? ⟨wr.heap.size, 2, none⟩ = some (.string (mk fn)) from X2.out.2 2)
        have j3 := cell_regrown (show W2.cell? ⟨wr.heap.size, 3, none⟩ = some (.bool fi) from X2.out.2 3)
        have j4 := cell_regrown (show W2.cell? ⟨wr.heap.size, 4, none⟩ = some (.int .i64 fst) from X2.out.2 4)
        have j5 := cell_regrown (show W2.cell? ⟨wr.heap.size, 5, none⟩ = some (.slice ab fb.length cb) from X2.out.2 5)
        clear hcb heb hus d0 d1 d2 d3 d4 d5 d6 d7
        have cU : ∀ d os, Calls Try.prog 95 #[.agg #[.int .i64 x0, .string (mk x1), .bool x2, .int .i64 x3, .int .i64 x4, .int .i64 x5, .int .i64 x6, .slice cva x7.length cvc], .agg #[.int .i64 fr, .string (mk fp), .string (mk fn), .bool fi, .int .i64 fst, .slice ab fb.length cb]] (grow (redrawn W2 d) os) fun e w'' => e = .returned (.bool us) ∧ ∃ p : Regrown, w'' = grow (redrawn W2 p.d) p.os := fun d os =>
          Calls.regrown_of (by rw [Hus.out]; exact spec_usable x0 x1 x2 x3 x4 x5 x6 _ x7 fr fst fp fn fi _ fb (fun _ => True) _ (Hfb.out.below (bt HW2.out (below_regrown W2 d os))) (short_mono (by omega) Hzk.out.2.2) Hobody.out)
        have cE : ∀ d os, Calls Try.prog 110 #[.slice cva x7.length cvc, .slice ab fb.length cb] (grow (redrawn W2 d) os) fun e w'' => e = .returned (.bool eb) ∧ ∃ p : Regrown, w'' = grow (redrawn W2 p.d) p.os := fun d os =>
          Calls.regrown_of (by rw [Heb.out]; exact spec_sameBody _ _ x7 fb D (fun _ => True) _ (Hcb.out.below (bt Hwr.out (below_regrown W2 d os))) (Hfb.out.below (bt HW2.out (below_regrown W2 d os))))
        cases us
        · have Hs2 := Lib.hid (show wrongGo cs ((ps.map (·.1)).take (k + 1)) 0 = L by rw [Hsn2.out]; simp)
          go_wp2_with fail
          refine wp_region_quiet_below (by kernel_rfl) (by kernel_rfl) ?_
          repeat (go_big_quiet_step (first | exact cU _ _ | exact cE _ _))
          refine wpQuiet_nil ?_
          intro _ hw'
          obtain ⟨⟨dq, osq⟩, hw2⟩ := hw'
          obtain ⟨W8, hW8⟩ : ∃ W, W = grow (redrawn W2 dq) osq := ⟨_, rfl⟩
          rw [hw2, ← hW8]
          have HW8 := Lib.hid (show Below wr.heap.size wr W8 by rw [hW8]; exact bt HW2.out (below_regrown W2 dq osq))
          clear hw2 hW8
          clear cU cE k0 k1 k2 k3 k4 k5 k6 k7 j0 j1 j2 j3 j4 j5
          go_wp2_with fail
          go_roundw
          case rel => exact ⟨k + 1, by omega, by go_num, by rw [Hs2.out]; exact owns_below Hown.out HW8.out, Hbx.out.step HW8.out⟩
          case measure => simp [intOf]; omega
        cases eb
        · have Hs2 := Lib.hid (show wrongGo cs ((ps.map (·.1)).take (k + 1)) 0 = L ++ [(k : Int)] by rw [Hsn2.out]; simp)
          go_wp2_with fail
          refine wp_region_quiet_below (by kernel_rfl) (by kernel_rfl) ?_
          repeat (go_big_quiet_step (first | exact cU _ _ | exact cE _ _))
          refine wpQuiet_nil ?_
          intro _ hw'
          obtain ⟨⟨dq, osq⟩, hw2⟩ := hw'
          obtain ⟨W8, hW8⟩ : ∃ W, W = grow (redrawn W2 dq) osq := ⟨_, rfl⟩
          rw [hw2, ← hW8]
          have HW8 := Lib.hid (show Below wr.heap.size wr W8 by rw [hW8]; exact bt HW2.out (below_regrown W2 dq osq))
          clear hw2 hW8
          clear cU cE k0 k1 k2 k3 k4 k5 k6 k7 j0 j1 j2 j3 j4 j5
          have hz9 := HW8.out.size
          go_wp2_with (at_builtin; refine wpList_append_own _ rfl _ _ 69 rfl (w.heap.size + 1) 3 i0 (.int .i64 0) 1 8 Try.underlying69 Hi.out Hz0.out Hz1.out Hz2.out rfl (by decide) _ L.length _ rfl ((owns_below Hown.out HW8.out).alloc _) ⟨_, 0, none⟩ 1 1 [.int .i64 k] rfl rfl (wrong_one (by first | rfl | simp)) (fun x hx => by simp at hx; subst hx; rfl) (by unfold maxLen; omega) (by omega) (by simp; omega) ?_; intro v9 w9 hown9 hgrow9 hnil9)
          have Hx9 := Lib.hid (wrong_first Hbx.out (ba HW8.out _) hgrow9 (fun g hg => (Hown.out.lt g hg).1))
          have Hown9 := Lib.hid (show w9.ownsRow (w.heap.size + 1) 3 1 v9 (L ++ [(k : Int)]).length ((L ++ [(k : Int)]).map iv) by rw [List.length_append, List.map_append]; exact hown9)
          clear hown9 hgrow9 hnil9
          go_roundw
          case rel => exact ⟨k + 1, by omega, by go_num, by rw [Hs2.out]; exact Hown9.out, Hx9.out⟩
          case measure => simp [intOf]; omega
        · have Hs2 := Lib.hid (show wrongGo cs ((ps.map (·.1)).take (k + 1)) 0 = L by rw [Hsn2.out]; simp)
          go_wp2_with fail
          refine wp_region_quiet_below (by kernel_rfl) (by kernel_rfl) ?_
          repeat (go_big_quiet_step (first | exact cU _ _ | exact cE _ _))
          refine wpQuiet_nil ?_
          intro _ hw'
          obtain ⟨⟨dq, osq⟩, hw2⟩ := hw'
          obtain ⟨W8, hW8⟩ : ∃ W, W = grow (redrawn W2 dq) osq := ⟨_, rfl⟩
          rw [hw2, ← hW8]
          have HW8 := Lib.hid (show Below wr.heap.size wr W8 by rw [hW8]; exact bt HW2.out (below_regrown W2 dq osq))
          clear hw2 hW8
          clear cU cE k0 k1 k2 k3 k4 k5 k6 k7 j0 j1 j2 j3 j4 j5
          go_wp2_with fail
          go_roundw
          case rel => exact ⟨k + 1, by omega, by go_num, by rw [Hs2.out]; exact owns_below Hown.out HW8.out, Hbx.out.step HW8.out⟩
          case measure => simp [intOf]; omega
    · obtain rfl : k = ps.length := by omega
      go_wp2_with fail
      go_ret
      exact ⟨_, rfl, owns_mono (by rw [Hs.out, List.length_map]; exact Hown.out) (by omega), hbel⟩
end Go.Proofs.Ytomdmkhgkaalnaa
