/- The contract of the model's loadBody. -/
import Derived.Test.YtomdmkhgkaalnaaLoad
import Derived.Test.YtomdmkhgkaalnaaSWrong
set_option linter.unusedVariables false
set_option linter.unusedSimpArgs false
namespace Go.Proofs.Ytomdmkhgkaalnaa
open Go.RowKit Go.Proofs.Ytomdmkhgkaalnaa.Nm
open Go.Sort (grow)

theorem box_after {W w' : World} {row : Option Nat} {b j : Nat} {u : Value} (h : W.cell? ⟨b, j, none⟩ = some u) (hg : W.grownBy w' row) (hb : b < W.heap.size) (hne : some b ≠ row) : w'.cell? ⟨b, j, none⟩ = some u := by
  rw [World.cell?_of_block (w := W) (hg.block b hb hne)]; exact h
/-- What loadBody comes to: a body that reads as told, the store, its rows from block B on, and whether the store had it. -/
def LoadAt (B : Nat) (v : Value) (r : List Stm × List Cmp × Bool) (w : World) (e : Ending) (w' : World) : Prop :=
  ∃ bv v' ps', e = .returned (.tuple #[bv, v', .bool r.2.2]) ∧ ps'.map (·.1) = r.2.1 ∧ OwnCmps w' B v' ps' ∧ w'.ownsRow 0 124 5 bv r.1.length (r.1.flatMap stmCells) ∧ w.grownBy w' v.ownBlock
set_option maxRecDepth 100000 in
set_option maxHeartbeats 4000000 in
theorem spec_loadBody (v : Value) (ps : List (Cmp × Value)) (r st : Int) (p n : Bs) (i : Bool) (bv : Value) (fb : List Stm) (mode : Int) (B B' : Nat) (w : World) (h : OwnCmps w B v ps) (hB : B ≤ w.heap.size) (hs : okStore (ps.map (·.1)) = true)
    (hf : w.ownsRow B' 124 5 bv fb.length (fb.flatMap stmCells)) (hzf : ShortF 1048576 ⟨r, p, n, i, st, fb⟩) (hfl : fb.length ≤ 1048576) (hok : okFil ⟨r, p, n, i, st, fb⟩ = true) (hmo : inr mode 0 2 = true) :
    Calls Try.prog 105 #[v, .agg #[.int .i64 r, .string (mk p), .string (mk n), .bool i, .int .i64 st, bv], .int .i64 mode] w (LoadAt B v (loadB (ps.map (·.1)) ⟨r, p, n, i, st, fb⟩ mode) w) := by
  obtain ⟨i0, hi, hy0, hy1, hy2⟩ := info_parts infoCmp
  have Hi := Lib.hid hi
  have Hz0 := Lib.hid hy0
  have Hz1 := Lib.hid hy1
  have Hz2 := Lib.hid hy2
  obtain ⟨hz1, hz2, hz3⟩ := id hzf
  dsimp only at hz1 hz2 hz3
  have H := Lib.hid h
  have Hr := Lib.hid (h.fils (D := fun _ => True) (fun _ _ => trivial))
  have Hf := Lib.hid hf
  have Hf0 := Lib.hid (owns_mono hf (Nat.zero_le B'))
  have Hfs := Lib.hid (show StmsIn w (fun _ => True) bv fb from StmsIn.of_owns hf (fun _ _ => trivial))
  have Hzf := Lib.hid hzf
  have Hz8 := Lib.hid (short_mono (B := 8000000) (by omega) hz3)
  have h12 : ps.length ≤ 12 := by simpa using (okStore_facts hs).2.2
  have Hos := Lib.hid hs
  have Hok := Lib.hid hok
  have Hobody := Lib.hid (show okBody fb = true from okFil_body hok)
  obtain ⟨aa, ca, rfl⟩ := h.len
  obtain ⟨ab, cb, rfl⟩ := owns_shape hf
  have Hnew := Lib.hid (fun h => loadB_new (cs := ps.map (·.1)) (f := ⟨r, p, n, i, st, fb⟩) (mode := mode) hs hok hmo h)
  have Hhad := Lib.hid (fun (k : Nat) hk h => loadB_had (cs := ps.map (·.1)) (f := ⟨r, p, n, i, st, fb⟩) (mode := mode) (k := k) hk hs hok hmo h)
  clear h hf hzf hz3 hs hok hmo hi hy0 hy1 hy2
  obtain ⟨W1, hW1⟩ : ∃ W1, W1 = w.alloc (.cells #[.int .i64 r, .string (mk p), .string (mk n), .bool i, .int .i64 st, .slice ab fb.length cb] 55) := ⟨_, rfl⟩
  have HbW := Lib.hid (show Below w.heap.size w W1 by rw [hW1]; (repeat (with_reducible first | exact Below.refl _ _ | assumption | refine ba ?_ _ | refine bd ?_ | refine bdN ?_ _ | refine bs ?_ (by first | exact Nat.le_refl _ | (dsimp only; omega) | (simp; done)) _ | refine bt ?_ (by assumption))))
  have Hx1 := Lib.hid (show Boxed w #[.int .i64 r, .string (mk p), .string (mk n), .bool i, .int .i64 st, .slice ab fb.length cb] 55 W1 by rw [hW1]; exact Boxed.start w _ _)
  have HWe := Lib.hid hW1
  clear hW1
  have Hk := Lib.hid (fun (w' : World) (hC : Boxed w #[.int .i64 r, .string (mk p), .string (mk n), .bool i, .int .i64 st, .slice ab fb.length cb] 55 w') => (⟨hC.cell 0, hC.cell 1, hC.cell 2, hC.cell 3, hC.cell 4, hC.cell 5, hC.lt⟩ : w'.cell? ⟨w.heap.size, 0, none⟩ = some (.int .i64 r) ∧ w'.cell? ⟨w.heap.size, 1, none⟩ = some (.string (mk p)) ∧ w'.cell? ⟨w.heap.size, 2, none⟩ = some (.string (mk n)) ∧ w'.cell? ⟨w.heap.size, 3, none⟩ = some (.bool i) ∧ w'.cell? ⟨w.heap.size, 4, none⟩ = some (.int .i64 st) ∧ w'.cell? ⟨w.heap.size, 5, none⟩ = some (.slice ab fb.length cb) ∧ w.heap.size < w'.heap.size))
  obtain ⟨nm, hnm⟩ : ∃ m, m = modName ⟨r, p, n, i, st, fb⟩ := ⟨_, rfl⟩
  have Hnm := Lib.hid hnm
  obtain ⟨kk, hkk⟩ : ∃ q, q = keyAt cplace (ps.map (·.1)) (r, nm, i) := ⟨_, rfl⟩
  have Hkk := Lib.hid hkk
  have Hfpl := Lib.hid (show fplace ⟨r, p, n, i, st, fb⟩ = (r, nm, i) by rw [hnm]; rfl)
  obtain ⟨sz, hsz⟩ : ∃ m : Int, m = (sizeSum fb : Int) := ⟨_, rfl⟩
  obtain ⟨hh, hhh⟩ : ∃ m : Int, m = hashOf fb := ⟨_, rfl⟩
  have Hce := Lib.hid (show compiled ⟨r, p, n, i, st, fb⟩ mode = ⟨r, nm, i, mode, st, sz, hh, fb⟩ by rw [hnm, hsz, hhh]; rfl)
  have Hcf := Lib.hid (fun (W : World) (hW : W.ownsRow B' 124 5 (.slice ab fb.length cb) fb.length (fb.flatMap stmCells)) => (show Calls Try.prog 85 #[.agg #[.int .i64 r, .string (mk p), .string (mk n), .bool i, .int .i64 st, .slice ab fb.length cb], .int .i64 mode] W (fun e w'' => ∃ nv, e = .returned (.agg #[.int .i64 r, .string (mk nm), .bool i, .int .i64 mode, .int .i64 st, .int .i64 sz, .int .i64 hh, nv]) ∧ w''.ownsRow W.heap.size 124 5 nv fb.length (fb.flatMap stmCells) ∧ Below W.heap.size W w'') by
    have q := spec_compiled r st p n i _ fb mode B' W hW Hzf.out hfl Hobody.out
    rw [Hce.out] at q
    exact q))
  rw [Hce.out] at Hnew
  clear hnm hkk hsz hhh
  go_enter Try.func105, Try.ntmps105
  go_upto_region 1 with fail
  rw [← HWe.out]
  have j0 := cell_regrown (show W1.cell? ⟨w.heap.size, 0, none⟩ = some (.int .i64 r) from Hx1.out.cell 0)
  have j1 := cell_regrown (show W1.cell? ⟨w.heap.size, 1, none⟩ = some (.string (mk p)) from Hx1.out.cell 1)
  have j2 := cell_regrown (show W1.cell? ⟨w.heap.size, 2, none⟩ = some (.string (mk n)) from Hx1.out.cell 2)
  have j3 := cell_regrown (show W1.cell? ⟨w.heap.size, 3, none⟩ = some (.bool i) from Hx1.out.cell 3)
  have j4 := cell_regrown (show W1.cell? ⟨w.heap.size, 4, none⟩ = some (.int .i64 st) from Hx1.out.cell 4)
  have j5 := cell_regrown (show W1.cell? ⟨w.heap.size, 5, none⟩ = some (.slice ab fb.length cb) from Hx1.out.cell 5)
  have cM : ∀ d os, Calls Try.prog 60 #[.agg #[.int .i64 r, .string (mk p), .string (mk n), .bool i, .int .i64 st, .slice ab fb.length cb]] (grow (redrawn W1 d) os) fun e w'' => e = .returned (.string (mk nm)) ∧ ∃ p : Regrown, w'' = grow (redrawn W1 p.d) p.os := fun d os =>
    Calls.regrown_of (by rw [Hnm.out]; exact spec_moduleName r st p n i _ fb _ (by omega) (by omega))
  have cA : ∀ d os, Calls Try.prog 109 #[.slice aa ps.length ca, .int .i64 r, .string (mk nm), .bool i] (grow (redrawn W1 d) os) fun e w'' => e = .returned (.int .i64 kk) ∧ ∃ p : Regrown, w'' = grow (redrawn W1 p.d) p.os := fun d os =>
    Calls.regrown_of (by rw [Hkk.out]; exact spec_compiledAt aa ps.length ca (ps.map (·.1)) (fun _ => True) r nm i _ (Hr.out.below (bt HbW.out (below_regrown W1 d os))))
  refine wp_region_quiet_below (by kernel_rfl) (by kernel_rfl) ?_
  repeat (go_big_quiet_step (first | exact cM _ _ | exact cA _ _))
  refine wpQuiet_nil ?_
  intro _ hw'
  obtain ⟨⟨dq, osq⟩, hw2⟩ := hw'
  obtain ⟨W2, hW2⟩ : ∃ W, W = grow (redrawn W1 dq) osq := ⟨_, rfl⟩
  rw [hw2, ← hW2]
  have Hx2 := Lib.hid (Hx1.out.step (show Below W1.heap.size W1 W2 by rw [hW2]; exact below_regrown W1 dq osq))
  clear hw2 hW2
  clear cM cA j0 j1 j2 j3 j4 j5
  have hrg := keyAt_is (key := cplace) (ps.map (·.1)) (r, nm, i)
  rw [← Hkk.out] at hrg
  rcases hrg with ⟨rfl, _⟩ | ⟨q, hq, rfl, hkey, _⟩
  · have Hv := Lib.hid (Hnew.out (usAt_none (by rw [Hfpl.out]; exact Hkk.out.symm)))
    have Hkey := Lib.hid (show keyAt cplace (ps.map (·.1)) (cplace ⟨r, nm, i, mode, st, sz, hh, fb⟩) = -1 from Hkk.out.symm)
    have hzz : decide ((0 : Int) ≤ -1) = false := by decide
    go_wp2_with fail
    refine wp_region_quiet_below (by kernel_rfl) (by kernel_rfl) ?_
    repeat (go_big_quiet_step (fail))
    refine wpQuiet_nil ?_
    intro _ hw'
    obtain ⟨⟨dq, osq⟩, hw2⟩ := hw'
    obtain ⟨W8, hW8⟩ : ∃ W, W = grow (redrawn W2 dq) osq := ⟨_, rfl⟩
    rw [hw2, ← hW8]
    have Hx8 := Lib.hid (Hx2.out.step (show Below W2.heap.size W2 W8 by rw [hW8]; exact below_regrown W2 dq osq))
    clear hw2 hW8
    obtain ⟨d0, d1, d2, d3, d4, d5, zs⟩ := Hk.out _ Hx8.out
    go_upto_region 5 with (go_at_call 85; refine (Hcf.out _ (owns_below Hf.out Hx8.out.below)).mono ?_; rintro _ w9 ⟨nv, rfl, hown9, hb9⟩; obtain ⟨na, nc, rfl⟩ := owns_shape hown9; have Hown9 := Lib.hid hown9; have Hb9 := Lib.hid hb9; clear hown9 hb9)
    obtain ⟨W9, hW9⟩ : ∃ W, W = w9.alloc (.cells #[.int .i64 r, .string (mk nm), .bool i, .int .i64 mode, .int .i64 st, .int .i64 sz, .int .i64 hh, .slice na fb.length nc] 53) := ⟨_, rfl⟩
    have Hy9 := Lib.hid (show Boxed w9 #[.int .i64 r, .string (mk nm), .bool i, .int .i64 mode, .int .i64 st, .int .i64 sz, .int .i64 hh, .slice na fb.length nc] 53 W9 by rw [hW9]; exact Boxed.start w9 _ _)
    rw [← hW9]
    clear hW9
    have Hx9 := Lib.hid (Hx8.out.step (bt Hb9.out Hy9.out.below))
    have Hb09 := Lib.hid Hx9.out.below
    have Hap := Lib.hid (apart_later (H.out.2.below Hx8.out.below) Hown9.out)
    have Hn9 := Lib.hid (owns_below (owns_mono Hown9.out (Nat.le_trans hB Hx8.out.below.size)) Hy9.out.below)
    have Hr9 := Lib.hid (owns_below H.out.1 Hb09.out)
    clear d0 d1 d2 d3 d4 d5 zs
    obtain ⟨d0, d1, d2, d3, d4, d5, zs⟩ := Hk.out _ Hx9.out
    obtain ⟨e0, e1, e2, e3, e4, e5, e6, e7⟩ := eight_of Hy9.out
    have ys := Hy9.out.lt
    by_cases hl : ps.length = 12
    · have H12 := Lib.hid (show OwnCmps w B (.slice aa 12 ca) ps by have q := H.out; rwa [hl] at q)
      have Hpc := Lib.hid (putC_full Hkey.out (show (ps.map (·.1)).length = 12 by simpa using hl))
      rw [hl]
      clear hl h12
      go_wp2_with fail
      refine bodyPost_ret (v := .tuple #[.slice ab fb.length cb, .slice aa 12 ca, .bool false]) (by simp [results, Try.results105, go_sem]) rfl ?_
      rw [Hv.out]
      exact ⟨_, _, ps, rfl, Hpc.out.symm, H12.out.below Hb09.out, owns_below Hf0.out Hb09.out, pb_below Hb09.out _⟩
    · have hlt : (ps.length : Int) < 12 := by omega
      have Hpc := Lib.hid (putC_new Hkey.out (show (ps.map (·.1)).length ≠ 12 by simpa using hl))
      go_wp2_with (at_builtin; refine wpList_append_own _ rfl _ _ 28 rfl B 53 i0 _ 8 88 Try.underlying28 Hi.out Hz0.out Hz1.out Hz2.out rfl (by decide) _ ps.length _ rfl (owns_below H.out.1 (ba Hb09.out _)) ⟨_, 0, none⟩ 1 1 (cmpCells (⟨r, nm, i, mode, st, sz, hh, fb⟩, .slice na fb.length nc)) rfl rfl ?_ (cmp_one _ ⟨_, _, _, rfl⟩) (by unfold maxLen; omega) (by omega) (by have := Hb09.out.size; simp; omega) ?_; (exact ct_cells _ (cmpCells (⟨r, nm, i, mode, st, sz, hh, fb⟩, .slice na fb.length nc)).toArray _ _ (by first | rfl | simp)); intro v7 w7 hown7 hgrow7 hnil7; have Hown7 := Lib.hid hown7; have Hgrow7 := Lib.hid hgrow7; have f5 : w7.cell? ⟨w.heap.size, 5, none⟩ = some (.slice ab fb.length cb) := box_after ((Hx9.out.step (ba (Below.refl _ _) _)).cell 5) hgrow7 (Hx9.out.step (ba (Below.refl _ _) _)).lt (fun e => by have := (H.out.1.lt _ e.symm).2; omega); clear hown7 hgrow7 hnil7)
      have HbX := Lib.hid (show Below w.heap.size w (W9.alloc (.cells (cmpCells (⟨r, nm, i, mode, st, sz, hh, fb⟩, .slice na fb.length nc)).toArray 53)) from ba Hb09.out _)
      have HrX := Lib.hid (owns_below H.out.1 HbX.out)
      have HnX := Lib.hid (Hn9.out.alloc (.cells (cmpCells (⟨r, nm, i, mode, st, sz, hh, fb⟩, .slice na fb.length nc)).toArray 53))
      refine bodyPost_ret (v := .tuple #[.slice ab fb.length cb, v7, .bool false]) (by simp [results, Try.results105, go_sem]) rfl ?_
      rw [Hv.out]
      refine ⟨_, v7, ps ++ [(⟨r, nm, i, mode, st, sz, hh, fb⟩, .slice na fb.length nc)], rfl, by rw [Hpc.out]; simp, ⟨by have h := Hown7.out; simpa using h, bodies_app (cbods_grown (H.out.2.below HbX.out) Hgrow7.out (fun b hb p hp => own_types (by decide) HrX.out ((H.out.2.below HbX.out).1 p hp) hb)) (row_keptC HnX.out HrX.out Hgrow7.out) Hap.out⟩, row_keptC (owns_below Hf0.out HbX.out) (owns_mono HrX.out (Nat.zero_le B)) Hgrow7.out, pb_trans (pb_below HbX.out _) Hgrow7.out⟩
  · have hq' : q < ps.length := by simpa using hq
    have hq1 : (q : Int) < (ps.length : Int) := by omega
    have hq0 : (0 : Int) ≤ (q : Int) := by omega
    have hqd : decide ((0 : Int) ≤ (q : Int)) = true := decide_eq_true hq0
    have hokc := (okStore_facts Hos.out).1 _ (List.getElem_mem hq)
    have Hus1 := Lib.hid (show isUsable (ps.map (·.1))[q] ⟨r, p, n, i, st, fb⟩ = usable (ps.map (·.1))[q] ⟨r, p, n, i, st, fb⟩ by
      unfold isUsable; rw [hokc, Hok.out, Hfpl.out, hkey]; simp)
    have Hbad := Lib.hid (fun (hu : isUsable (ps.map (·.1))[q] ⟨r, p, n, i, st, fb⟩ = false) => Hnew.out (usAt_bad (f := ⟨r, p, n, i, st, fb⟩) hq (by rw [Hfpl.out]; exact Hkk.out.symm) hu))
    have Hgood := Lib.hid (fun (hu : isUsable (ps.map (·.1))[q] ⟨r, p, n, i, st, fb⟩ = true) => Hhad.out q hq (usAt_good (f := ⟨r, p, n, i, st, fb⟩) hq (by rw [Hfpl.out]; exact Hkk.out.symm) hu))
    have Hkey := Lib.hid (show keyAt cplace (ps.map (·.1)) (cplace ⟨r, nm, i, mode, st, sz, hh, fb⟩) = (q : Int) from Hkk.out.symm)
    obtain ⟨g, cap, e1, hg, hg2⟩ := H.out.1.form (by omega)
    simp only [Value.slice.injEq] at e1
    obtain ⟨rfl, _, rfl⟩ := e1
    have hgw := (H.out.1.lt g rfl).2
    have Hr2 := Lib.hid (owns_below H.out.1 Hx2.out.below)
    obtain ⟨⟨c0, c1, c2, c3, c4, c5, c6, c7⟩, _⟩ := own8 Hr2.out q hq'
    have Hbody := Lib.hid ((H.out.2.below Hx2.out.below).1 _ (List.getElem_mem hq'))
    rw [List.getElem_map] at Hus1 Hbad Hgood
    obtain ⟨x, hx⟩ : ∃ x, x = ps[q] := ⟨_, rfl⟩
    rw [← hx] at c0 c1 c2 c3 c4 c5 c6 c7 Hbody Hus1 Hbad Hgood
    clear hx hokc hkey
    obtain ⟨⟨x0, x1, x2, x3, x4, x5, x6, x7⟩, xv⟩ := x
    dsimp only at c0 c1 c2 c3 c4 c5 c6 c7 Hbody Hgood
    obtain ⟨cva, cvc, rfl⟩ := owns_shape Hbody.out
    obtain ⟨us, hus⟩ : ∃ u, u = usable ⟨x0, x1, x2, x3, x4, x5, x6, x7⟩ ⟨r, p, n, i, st, fb⟩ := ⟨_, rfl⟩
    have Hus := Lib.hid hus
    clear hus
    have Hc7 := Lib.hid c7
    have k0 := cell_regrown c0
    have k1 := cell_regrown c1
    have k2 := cell_regrown c2
    have k3 := cell_regrown c3
    have k4 := cell_regrown c4
    have k5 := cell_regrown c5
    have k6 := cell_regrown c6
    have k7 := cell_regrown c7
    have j0 := cell_regrown (show W2.cell? ⟨w.heap.size, 0, none⟩ = some (.int .i64 r) from Hx2.out.cell 0)
    have j1 := cell_regrown (show W2.cell? ⟨w.heap.size, 1, none⟩ = some (.string (mk p)) from Hx2.out.cell 1)
    have j2 := cell_regrown (show W2.cell? ⟨w.heap.size, 2, none⟩ = some (.string (mk n)) from Hx2.out.cell 2)
    have j3 := cell_regrown (show W2.cell? ⟨w.heap.size, 3, none⟩ = some (.bool i) from Hx2.out.cell 3)
    have j4 := cell_regrown (show W2.cell? ⟨w.heap.size, 4, none⟩ = some (.int .i64 st) from Hx2.out.cell 4)
    have j5 := cell_regrown (show W2.cell? ⟨w.heap.size, 5, none⟩ = some (.slice ab fb.length cb) from Hx2.out.cell 5)
    clear c0 c1 c2 c3 c4 c5 c6 c7
    have cU : ∀ d os, Calls Try.prog 95 #[.agg #[.int .i64 x0, .string (mk x1), .bool x2, .int .i64 x3, .int .i64 x4, .int .i64 x5, .int .i64 x6, .slice cva x7.length cvc], .agg #[.int .i64 r, .string (mk p), .string (mk n), .bool i, .int .i64 st, .slice ab fb.length cb]] (grow (redrawn W2 d) os) fun e w'' => e = .returned (.bool us) ∧ ∃ p : Regrown, w'' = grow (redrawn W2 p.d) p.os := fun d os =>
      Calls.regrown_of (by rw [Hus.out]; exact spec_usable x0 x1 x2 x3 x4 x5 x6 _ x7 r st p n i _ fb (fun _ => True) _ (Hfs.out.below (bt Hx2.out.below (below_regrown W2 d os))) Hz8.out Hobody.out)
    cases us
    all_goals
      go_wp2_with fail
      refine wp_region_quiet_below (by kernel_rfl) (by kernel_rfl) ?_
      repeat (go_big_quiet_step (exact cU _ _))
      refine wpQuiet_nil ?_
      intro _ hw'
      obtain ⟨⟨dq, osq⟩, hw2⟩ := hw'
      obtain ⟨W8, hW8⟩ : ∃ W, W = grow (redrawn W2 dq) osq := ⟨_, rfl⟩
      rw [hw2, ← hW8]
      have H28 := Lib.hid (show Below W2.heap.size W2 W8 by rw [hW8]; exact below_regrown W2 dq osq)
      have Hx8 := Lib.hid (Hx2.out.step H28.out)
      clear hw2 hW8 cU k0 k1 k2 k3 k4 k5 k6 k7 j0 j1 j2 j3 j4 j5
      obtain ⟨d0, d1, d2, d3, d4, d5, zs⟩ := Hk.out _ Hx8.out
    · have Hv := Lib.hid (Hbad.out (by rw [Hus1.out, ← Hus.out]))
      go_upto_region 5 with (go_at_call 85; refine (Hcf.out _ (owns_below Hf.out Hx8.out.below)).mono ?_; rintro _ w9 ⟨nv, rfl, hown9, hb9⟩; obtain ⟨na, nc, rfl⟩ := owns_shape hown9; have Hown9 := Lib.hid hown9; have Hb9 := Lib.hid hb9; clear hown9 hb9)
      obtain ⟨W9, hW9⟩ : ∃ W, W = w9.alloc (.cells #[.int .i64 r, .string (mk nm), .bool i, .int .i64 mode, .int .i64 st, .int .i64 sz, .int .i64 hh, .slice na fb.length nc] 53) := ⟨_, rfl⟩
      have Hy9 := Lib.hid (show Boxed w9 #[.int .i64 r, .string (mk nm), .bool i, .int .i64 mode, .int .i64 st, .int .i64 sz, .int .i64 hh, .slice na fb.length nc] 53 W9 by rw [hW9]; exact Boxed.start w9 _ _)
      rw [← hW9]
      clear hW9
      have Hx9 := Lib.hid (Hx8.out.step (bt Hb9.out Hy9.out.below))
      have Hb09 := Lib.hid Hx9.out.below
      have Hap := Lib.hid (apart_later (H.out.2.below Hx8.out.below) Hown9.out)
      have Hn9 := Lib.hid (owns_below (owns_mono Hown9.out (Nat.le_trans hB Hx8.out.below.size)) Hy9.out.below)
      have Hr9 := Lib.hid (owns_below H.out.1 Hb09.out)
      clear d0 d1 d2 d3 d4 d5 zs
      obtain ⟨d0, d1, d2, d3, d4, d5, zs⟩ := Hk.out _ Hx9.out
      obtain ⟨e0, e1, e2, e3, e4, e5, e6, e7⟩ := eight_of Hy9.out
      have ys := Hy9.out.lt
      have Hpc := Lib.hid (putC_at (cs := ps.map (·.1)) (c := ⟨r, nm, i, mode, st, sz, hh, fb⟩) Hkey.out)
      have Hput := Lib.hid (own8_put Hr9.out q hq' (⟨r, nm, i, mode, st, sz, hh, fb⟩, .slice na fb.length nc))
      have Hg8 := Lib.hid (grown_set8 (grown_set8 (grown_set8 (grown_set8 (grown_set8 (grown_set8 (grown_set8 (grown_set8 (pb_refl W9 (some g)) (q * 8) (.int .i64 r)) (q * 8 + 1) (.string (mk nm))) (q * 8 + 2) (.bool i)) (q * 8 + 3) (.int .i64 mode)) (q * 8 + 4) (.int .i64 st)) (q * 8 + 5) (.int .i64 sz)) (q * 8 + 6) (.int .i64 hh)) (q * 8 + 7) (.slice na fb.length nc))
      obtain ⟨⟨c0, c1, c2, c3, c4, c5, c6, c7⟩, z0, z1, z2, z3, z4, z5, z6, z7⟩ := own8 Hr9.out q hq'
      have n1 : g ≠ w.heap.size := by omega
      have n2 : w.heap.size ≠ g := by omega
      go_wp2_with fail
      refine bodyPost_ret (v := .tuple #[.slice ab fb.length cb, .slice (some ⟨g, 0, none⟩) ps.length ca, .bool false]) (by simp [results, Try.results105, go_sem]) rfl ?_
      rw [Hv.out]
      refine ⟨_, _, ps.set q (⟨r, nm, i, mode, st, sz, hh, fb⟩, .slice na fb.length nc), rfl, by rw [Hpc.out, List.map_set], ⟨by rw [List.length_set]; exact Hput.out, bodies_set (H.out.2.below Hb09.out) Hg8.out (fun b hb p hp => own_types (by decide) Hr9.out ((H.out.2.below Hb09.out).1 p hp) hb) (row_keptC Hn9.out Hr9.out Hg8.out) Hap.out q⟩, row_keptC (owns_below Hf0.out Hb09.out) (owns_mono Hr9.out (Nat.zero_le B)) Hg8.out, pb_trans (pb_below Hb09.out _) Hg8.out⟩
    · have Hv := Lib.hid (Hgood.out (by rw [Hus1.out, ← Hus.out]))
      obtain ⟨⟨c0, c1, c2, c3, c4, c5, c6, c7⟩, _⟩ := own8 (owns_below H.out.1 Hx8.out.below) q hq'
      have c7' : W8.cell? ⟨g, q * 8 + 7, none⟩ = some (.slice cva x7.length cvc) := (H28.out.cell (p := ⟨g, q * 8 + 7, none⟩) (by have := Hx2.out.lt; dsimp only; omega)).trans Hc7.out
      clear c0 c1 c2 c3 c4 c5 c6 c7
      go_wp2_with fail
      refine bodyPost_ret (v := .tuple #[.slice cva x7.length cvc, .slice (some ⟨g, 0, none⟩) ps.length ca, .bool true]) (by simp [results, Try.results105, go_sem]) rfl ?_
      rw [Hv.out]
      exact ⟨_, _, ps, rfl, rfl, H.out.below Hx8.out.below, owns_below (owns_mono Hbody.out (Nat.zero_le B)) H28.out, pb_below Hx8.out.below _⟩
theorem loadB_len (cs : List Cmp) (f : Fil) (mode : Int) (B : Nat) (h : ∀ c ∈ cs, c.body.length ≤ B) (hf : f.body.length ≤ B) : (loadB cs f mode).1.length ≤ B := by
  unfold loadB
  split
  · split
    · rename_i c hc
      split
      · exact h c (List.mem_of_getElem? hc)
      · exact hf
    · exact hf
  · exact Nat.zero_le _
set_option maxRecDepth 100000 in
set_option maxHeartbeats 4000000 in
theorem spec_LoadBody (v : Value) (ps : List (Cmp × Value)) (r st : Int) (p n : Bs) (i : Bool) (bv : Value) (fb : List Stm) (mode : Int) (B B' : Nat) (w : World) (h : RowsC8 w B v ps) (hz : ShortCs 1048576 (ps.map (·.1))) (hl : ps.length ≤ 1048576) (hbl : ∀ p ∈ ps, p.1.body.length ≤ 1048576)
    (hf : w.ownsRow B' 124 5 bv fb.length (fb.flatMap stmCells)) (hzf : ShortF 1048576 ⟨r, p, n, i, st, fb⟩) (hfl : fb.length ≤ 1048576) :
    Calls Try.prog 41 #[v, .agg #[.int .i64 r, .string (mk p), .string (mk n), .bool i, .int .i64 st, bv], .int .i64 mode] w (NewLoad (loadB (ps.map (·.1)) ⟨r, p, n, i, st, fb⟩ mode) w) := by
  obtain ⟨i1, hi1, hy0, hy1, hy2⟩ := info_parts infoStm
  have Hi1 := Lib.hid hi1
  have Hy0 := Lib.hid hy0
  have Hy1 := Lib.hid hy1
  have Hy2 := Lib.hid hy2
  clear hi1 hy0 hy1 hy2
  obtain ⟨hz1, hz2, hz3⟩ := id hzf
  dsimp only at hz1 hz2 hz3
  have H := Lib.hid h
  have Hbl := Lib.hid hbl
  have Hr := Lib.hid (h.fils (D := fun _ => True) (fun _ _ => trivial))
  have Hz := Lib.hid hz
  have Hz20 := Lib.hid (shortCs_mono (B := 2000000) (by omega) hz)
  have Hz80 := Lib.hid (shortCs_mono (B := 8000000) (by omega) hz)
  have Hf := Lib.hid hf
  have Hfs := Lib.hid (show StmsIn w (fun _ => True) bv fb from StmsIn.of_owns hf (fun _ _ => trivial))
  have Hzf := Lib.hid hzf
  have Hz8 := Lib.hid (short_mono (B := 8000000) (by omega) hz3)
  obtain ⟨aa, ca, rfl⟩ := h.len
  obtain ⟨ab, cb, rfl⟩ := owns_shape hf
  clear h hbl hz hf hzf hz3
  obtain ⟨W0, hW0⟩ : ∃ W, W = w.alloc (.cells #[.int .i64 r, .string (mk p), .string (mk n), .bool i, .int .i64 st, .slice ab fb.length cb] 55) := ⟨_, rfl⟩
  have Hx0 := Lib.hid (show Boxed w #[.int .i64 r, .string (mk p), .string (mk n), .bool i, .int .i64 st, .slice ab fb.length cb] 55 W0 by rw [hW0]; exact Boxed.start w _ _)
  have HWe := Lib.hid hW0
  clear hW0
  have Hk := Lib.hid (fun (w' : World) (hC : Boxed w #[.int .i64 r, .string (mk p), .string (mk n), .bool i, .int .i64 st, .slice ab fb.length cb] 55 w') => (⟨hC.cell 0, hC.cell 1, hC.cell 2, hC.cell 3, hC.cell 4, hC.cell 5, hC.lt⟩ : w'.cell? ⟨w.heap.size, 0, none⟩ = some (.int .i64 r) ∧ w'.cell? ⟨w.heap.size, 1, none⟩ = some (.string (mk p)) ∧ w'.cell? ⟨w.heap.size, 2, none⟩ = some (.string (mk n)) ∧ w'.cell? ⟨w.heap.size, 3, none⟩ = some (.bool i) ∧ w'.cell? ⟨w.heap.size, 4, none⟩ = some (.int .i64 st) ∧ w'.cell? ⟨w.heap.size, 5, none⟩ = some (.slice ab fb.length cb) ∧ w.heap.size < w'.heap.size))
  obtain ⟨ans, hans⟩ : ∃ x, x = loadB (ps.map (·.1)) ⟨r, p, n, i, st, fb⟩ mode := ⟨_, rfl⟩
  rw [← hans]
  have Hans := Lib.hid hans
  clear hans
  cases h1 : okStore (ps.map (·.1))
  · have H1 := Lib.hid h1
    have Hn := Lib.hid (show ans = ([], [], false) by rw [Hans.out]; exact loadB_none (by rw [h1]; rfl))
    clear h1
    go_enter Try.func41, Try.ntmps41
    go_upto_region 1 with fail
    rw [← HWe.out]
    go_wp2_with (go_at_call 58; refine (spec_validStore _ _ _ _ (Hr.out.below Hx0.out.below) Hz20.out).mono ?_; rintro _ w5 ⟨rfl, hb5⟩; rw [H1.out])
    refine bodyPost_ret (v := .tuple #[.slice none 0 0, .slice none 0 0, .bool false]) (by simp [results, Try.results41, go_sem]) rfl ?_
    exact newLoad_none Hn.out (bt Hx0.out.below hb5)
  cases h2 : okFil ⟨r, p, n, i, st, fb⟩
  · have H1 := Lib.hid h1
    have H2 := Lib.hid h2
    have Hn := Lib.hid (show ans = ([], [], false) by rw [Hans.out]; exact loadB_none (by rw [h2]; simp))
    clear h1 h2
    go_enter Try.func41, Try.ntmps41
    go_upto_region 1 with fail
    rw [← HWe.out]
    go_wp2_with (first
      | (go_at_call 58; refine (spec_validStore _ _ _ _ (Hr.out.below Hx0.out.below) Hz20.out).mono ?_; rintro _ w5 ⟨rfl, hb5⟩; rw [H1.out]; obtain ⟨d0, d1, d2, d3, d4, d5, zs⟩ := Hk.out _ (Hx0.out.step hb5))
      | (go_at_call 94; refine (spec_validFile r st p n i _ fb (fun _ => True) _ (by omega) (by omega) (Hfs.out.below (bt Hx0.out.below hb5)) Hz8.out).mono ?_; rintro _ w6 ⟨rfl, hb6⟩; rw [H2.out]))
    refine bodyPost_ret (v := .tuple #[.slice none 0 0, .slice none 0 0, .bool false]) (by simp [results, Try.results41, go_sem]) rfl ?_
    exact newLoad_none Hn.out (bt (bt Hx0.out.below hb5) hb6)
  cases h3 : inr mode 0 2
  · have H1 := Lib.hid h1
    have H2 := Lib.hid h2
    have H3 := Lib.hid h3
    have Hn := Lib.hid (show ans = ([], [], false) by rw [Hans.out]; exact loadB_none (by rw [h3]; simp))
    clear h1 h2 h3
    go_enter Try.func41, Try.ntmps41
    go_upto_region 1 with fail
    rw [← HWe.out]
    go_wp2_with (first
      | (go_at_call 58; refine (spec_validStore _ _ _ _ (Hr.out.below Hx0.out.below) Hz20.out).mono ?_; rintro _ w5 ⟨rfl, hb5⟩; rw [H1.out]; obtain ⟨d0, d1, d2, d3, d4, d5, zs⟩ := Hk.out _ (Hx0.out.step hb5))
      | (go_at_call 94; refine (spec_validFile r st p n i _ fb (fun _ => True) _ (by omega) (by omega) (Hfs.out.below (bt Hx0.out.below hb5)) Hz8.out).mono ?_; rintro _ w6 ⟨rfl, hb6⟩; rw [H2.out])
      | (go_at_call 104; refine (spec_inRange' mode 0 2 _).mono ?_; rintro _ _ ⟨rfl, rfl⟩; rw [H3.out]))
    refine bodyPost_ret (v := .tuple #[.slice none 0 0, .slice none 0 0, .bool false]) (by simp [results, Try.results41, go_sem]) rfl ?_
    exact newLoad_none Hn.out (bt (bt Hx0.out.below hb5) hb6)
  have H1 := Lib.hid h1
  have H2 := Lib.hid h2
  have H3 := Lib.hid h3
  clear h1 h2 h3
  have hal : ans.1.length ≤ 1048576 := by
    rw [Hans.out]
    exact loadB_len _ _ _ _ (fun c hc => by obtain ⟨q, hq, rfl⟩ := List.mem_map.1 hc; exact Hbl.out q hq) hfl
  obtain ⟨L1, L2, had⟩ := ans
  dsimp only at hal
  go_enter Try.func41, Try.ntmps41
  go_upto_region 1 with fail
  rw [← HWe.out]
  go_upto_region 3 with (first
    | (go_at_call 58; refine (spec_validStore _ _ _ _ (Hr.out.below Hx0.out.below) Hz20.out).mono ?_; rintro _ w5 ⟨rfl, hb5⟩; rw [H1.out]; obtain ⟨d0, d1, d2, d3, d4, d5, zs⟩ := Hk.out _ (Hx0.out.step hb5))
    | (go_at_call 94; refine (spec_validFile r st p n i _ fb (fun _ => True) _ (by omega) (by omega) (Hfs.out.below (bt Hx0.out.below hb5)) Hz8.out).mono ?_; rintro _ w6 ⟨rfl, hb6⟩; rw [H2.out]; have Hx6 := Lib.hid (Hx0.out.step (bt hb5 hb6)); clear hb5 hb6 d0 d1 d2 d3 d4 d5 zs)
    | (go_at_call 104; refine (spec_inRange' mode 0 2 _).mono ?_; rintro _ _ ⟨rfl, rfl⟩; rw [H3.out]))
  go_region_held3 (fun w' => w'.cell? ⟨w.heap.size, 0, none⟩ = some (.int .i64 r) ∧ w'.cell? ⟨w.heap.size, 1, none⟩ = some (.string (mk p)) ∧ w'.cell? ⟨w.heap.size, 2, none⟩ = some (.string (mk n)) ∧ w'.cell? ⟨w.heap.size, 3, none⟩ = some (.bool i) ∧ w'.cell? ⟨w.heap.size, 4, none⟩ = some (.int .i64 st) ∧ w'.cell? ⟨w.heap.size, 5, none⟩ = some (.slice ab fb.length cb) ∧ w.heap.size < w'.heap.size)
    (first | exact Hk.out _ (HxP.out.step (by (repeat (with_reducible first | exact Below.refl _ _ | assumption | refine ba ?_ _ | refine bd ?_ | refine bdN ?_ _ | refine bs ?_ (by first | exact Nat.le_refl _ | (dsimp only; omega) | (simp; done)) _ | refine bt ?_ (by assumption))))) | exact Hk.out _ (Hx7.out.step (by (repeat (with_reducible first | exact Below.refl _ _ | assumption | refine ba ?_ _ | refine bd ?_ | refine bdN ?_ _ | refine bs ?_ (by first | exact Nat.le_refl _ | (dsimp only; omega) | (simp; done)) _ | refine bt ?_ (by assumption))))) | exact Hk.out _ (Hx6.out.step (by (repeat (with_reducible first | exact Below.refl _ _ | assumption | refine ba ?_ _ | refine bd ?_ | refine bdN ?_ _ | refine bs ?_ (by first | exact Nat.le_refl _ | (dsimp only; omega) | (simp; done)) _ | refine bt ?_ (by assumption))))))
    (first
      | (go_at_call 61; refine (spec_copyStore _ ps B _ (H.out.below (bt Hx6.out.below (by (repeat (with_reducible first | exact Below.refl _ _ | assumption | refine ba ?_ _ | refine bd ?_ | refine bdN ?_ _ | refine bs ?_ (by first | exact Nat.le_refl _ | (dsimp only; omega) | (simp; done)) _ | refine bt ?_ (by assumption)))))) hl Hbl.out).mono ?_; rintro _ w7 ⟨sv, qs, rfl, hqs, hown7, hb7⟩; obtain ⟨sa, sc, rfl⟩ := hown7.len; have Hqs := Lib.hid hqs; have Hb7 := Lib.hid (show Below w6.heap.size w6 w7 by (repeat (with_reducible first | exact Below.refl _ _ | assumption | refine ba ?_ _ | refine bd ?_ | refine bdN ?_ _ | refine bs ?_ (by first | exact Nat.le_refl _ | (dsimp only; omega) | (simp; done)) _ | refine bt ?_ (by assumption)))); have Hown7 := Lib.hid (hown7.mono (show Below w6.heap.size w6 _ by (repeat (with_reducible first | exact Below.refl _ _ | assumption | refine ba ?_ _ | refine bd ?_ | refine bdN ?_ _ | refine bs ?_ (by first | exact Nat.le_refl _ | (dsimp only; omega) | (simp; done)) _ | refine bt ?_ (by assumption)))).size); have Hx7 := Lib.hid (Hx6.out.step Hb7.out); clear hqs hown7 hb7)
      | (go_at_call 105; refine (spec_loadBody _ qs r st p n i _ fb mode w6.heap.size B' _ (Hown7.out.below (by (repeat (with_reducible first | exact Below.refl _ _ | assumption | refine ba ?_ _ | refine bd ?_ | refine bdN ?_ _ | refine bs ?_ (by first | exact Nat.le_refl _ | (dsimp only; omega) | (simp; done)) _ | refine bt ?_ (by assumption))))) (Nat.le_trans Hb7.out.size (show Below w7.heap.size w7 _ by (repeat (with_reducible first | exact Below.refl _ _ | assumption | refine ba ?_ _ | refine bd ?_ | refine bdN ?_ _ | refine bs ?_ (by first | exact Nat.le_refl _ | (dsimp only; omega) | (simp; done)) _ | refine bt ?_ (by assumption)))).size) (by rw [Hqs.out]; exact H1.out) (owns_below Hf.out (bt Hx7.out.below (by (repeat (with_reducible first | exact Below.refl _ _ | assumption | refine ba ?_ _ | refine bd ?_ | refine bdN ?_ _ | refine bs ?_ (by first | exact Nat.le_refl _ | (dsimp only; omega) | (simp; done)) _ | refine bt ?_ (by assumption)))))) Hzf.out hfl H2.out H3.out).mono ?_; rw [Hqs.out, ← Hans.out]; rintro _ wP ⟨lv, vP, psP, rfl, hpsP, hownP, hlP, hgP⟩; obtain ⟨pa, pc, rfl⟩ := hownP.len; obtain ⟨la, lc, rfl⟩ := owns_shape hlP; have HgP := Lib.hid (pb_trans (pb_below (show Below w7.heap.size w7 _ by (repeat (with_reducible first | exact Below.refl _ _ | assumption | refine ba ?_ _ | refine bd ?_ | refine bdN ?_ _ | refine bs ?_ (by first | exact Nat.le_refl _ | (dsimp only; omega) | (simp; done)) _ | refine bt ?_ (by assumption)))) _) hgP); have HownP := Lib.hid hownP; have HpsP := Lib.hid hpsP; have HlP := Lib.hid hlP; have HxP := Lib.hid (show Boxed w _ _ wP from Below.grown Hx7.out HgP.out Hx7.out.size (fun g hg => by have h1 := (Hown7.out.1.lt g hg).1; have h2 := Hx6.out.lt; simp; omega)); clear hownP hpsP hlP hgP))
  all_goals
    obtain ⟨W5, hW5⟩ : ∃ W, W = wP.alloc (.cells #[] 124) := ⟨_, rfl⟩
    have HW5 := Lib.hid hW5
    have Hb5 := Lib.hid (show Below wP.heap.size wP W5 by rw [hW5]; exact ba (Below.refl _ _) _)
    have Hm5 := Lib.hid (show W5.ownsRow wP.heap.size 124 5 (.slice (some ⟨wP.heap.size, 0, none⟩) 0 0) 0 [] by rw [hW5]; exact made_at _ _ _ 5 _ rfl (Nat.le_refl _))
    have Hs5 := Lib.hid (owns_below HlP.out Hb5.out)
    have hz5 := Hb5.out.size
    clear hW5
    go_wp2_with (at_builtin; rw [← HW5.out]; refine wpList_append_both rfl _ _ 51 rfl wP.heap.size 124 i1 _ 5 56 Try.underlying51 Hi1.out Hy0.out Hy1.out Hy2.out rfl (by decide) _ 0 _ rfl Hm5.out 0 _ L1.length _ rfl Hs5.out (stm_one L1) (by unfold maxLen; omega) (by omega) hz5 ?_; intro vQ wQ hownQ hgrowQ; rw [Nat.zero_add, List.nil_append] at hownQ; obtain ⟨aQ, cQ, hvQ⟩ := owns_shape hownQ; subst hvQ; have HownQ := Lib.hid hownQ; have HbQ := Lib.hid (show Below wP.heap.size wP wQ from Below.grown Hb5.out hgrowQ Hb5.out.size (fun g hg => (Hm5.out.lt g hg).1)); clear hownQ hgrowQ)
    refine bodyPost_ret (v := .tuple #[.slice aQ L1.length cQ, .slice pa psP.length pc, .bool had]) (by simp [results, Try.results41, go_sem]) rfl ?_
    exact ⟨_, _, psP, rfl, HpsP.out, owns_mono HownQ.out HxP.out.below.size, (HownP.out.below HbQ.out).mono Hx6.out.below.size, apart_later HownP.out.2 HownQ.out, (HxP.out.step HbQ.out).below⟩
end Go.Proofs.Ytomdmkhgkaalnaa
