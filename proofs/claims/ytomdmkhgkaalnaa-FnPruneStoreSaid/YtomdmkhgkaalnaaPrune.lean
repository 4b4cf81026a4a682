/- A store without what is gone: copies of one entry, and the contract of the model's PruneStore. -/
import Derived.Test.YtomdmkhgkaalnaaLoad
import Derived.Test.YtomdmkhgkaalnaaCopyS
import Derived.Lib.SliceRun
set_option linter.unusedVariables false
set_option linter.unusedSimpArgs false
namespace Go.Proofs.Ytomdmkhgkaalnaa
open Go.RowKit Go.Proofs.Ytomdmkhgkaalnaa.Nm
open Go.Sort (grow)

/-- The entries lie in block g from the cell off on; their bodies are own rows. -/
def RowsC (w : World) (B g off : Nat) (ps : List (Cmp × Value)) : Prop :=
  (∀ k (h : k < ps.length), w.cell? ⟨g, off + k * 8, none⟩ = some (.int .i64 ps[k].1.root) ∧ w.cell? ⟨g, off + k * 8 + 1, none⟩ = some (.string (mk ps[k].1.module)) ∧ w.cell? ⟨g, off + k * 8 + 2, none⟩ = some (.bool ps[k].1.init) ∧ w.cell? ⟨g, off + k * 8 + 3, none⟩ = some (.int .i64 ps[k].1.mode) ∧ w.cell? ⟨g, off + k * 8 + 4, none⟩ = some (.int .i64 ps[k].1.stamp) ∧ w.cell? ⟨g, off + k * 8 + 5, none⟩ = some (.int .i64 ps[k].1.size) ∧ w.cell? ⟨g, off + k * 8 + 6, none⟩ = some (.int .i64 ps[k].1.hash) ∧ w.cell? ⟨g, off + k * 8 + 7, none⟩ = some ps[k].2) ∧
  ∀ p ∈ ps, w.ownsRow B 124 5 p.2 p.1.body.length (p.1.body.flatMap stmCells)
theorem RowsC.below {w w' : World} {B g off : Nat} {ps : List (Cmp × Value)} (h : RowsC w B g off ps) (hg : g < w.heap.size) (hb : Below w.heap.size w w') : RowsC w' B g off ps := by
  refine ⟨fun k hk => ?_, fun p hp => owns_below (h.2 p hp) hb⟩
  obtain ⟨h0, h1, h2, h3, h4, h5, h6, h7⟩ := h.1 k hk
  have hc : ∀ o, w'.cell? ⟨g, o, none⟩ = w.cell? ⟨g, o, none⟩ := fun o => hb.cell (p := ⟨g, o, none⟩) hg
  simp only [hc]
  exact ⟨h0, h1, h2, h3, h4, h5, h6, h7⟩
/-- One entry of an own store. -/
theorem RowsC8.rowC {w : World} {B g n ca : Nat} {ps : List (Cmp × Value)} (h : RowsC8 w B (.slice (some ⟨g, 0, none⟩) n ca) ps) (hn : n = ps.length) (i : Nat) (hi : i < ps.length) : RowsC w B g (i * 8) [ps[i]] := by
  subst hn
  obtain ⟨h0, _⟩ := own8 h.1 i hi
  refine ⟨fun k hk => ?_, fun p hp => ?_⟩
  · obtain rfl : k = 0 := by simpa using hk
    simpa using h0
  · simp at hp; subst hp; exact h.2.1 _ (List.getElem_mem hi)

set_option maxRecDepth 100000 in
set_option maxHeartbeats 4000000 in
theorem spec_copyStoreAt (g off ca : Nat) (ps : List (Cmp × Value)) (B : Nat) (w : World) (hg : g < w.heap.size) (hm : ps.length ≤ ca) (h : RowsC w B g off ps) (hl : ps.length ≤ 1048576) (hbl : ∀ p ∈ ps, p.1.body.length ≤ 1048576) :
    Calls Try.prog 61 #[.slice (some ⟨g, off, none⟩) ps.length ca] w (NewCmps (ps.map (·.1)) w) := by
  obtain ⟨i0, hi, hz0, hz1, hz2⟩ := info_parts infoCmp
  obtain ⟨i1, hi1, hy0, hy1, hy2⟩ := info_parts infoStm
  have Hi := Lib.hid hi
  have Hz0 := Lib.hid hz0
  have Hz1 := Lib.hid hz1
  have Hz2 := Lib.hid hz2
  have Hi1 := Lib.hid hi1
  have Hy0 := Lib.hid hy0
  have Hy1 := Lib.hid hy1
  have Hy2 := Lib.hid hy2
  have H := Lib.hid h
  have Hbl := Lib.hid hbl
  clear h hbl hi hz0 hz1 hz2 hi1 hy0 hy1 hy2
  go_enter Try.func61, Try.ntmps61
  go_wp2_with fail
  go_loopw [3, 4] (fun ov iv wr => ∃ (k : Nat) (qs : List (Cmp × Value)), k ≤ ps.length ∧ iv = .int .i64 k ∧ qs.map (·.1) = (ps.map (·.1)).take k ∧ OwnCmps wr w.heap.size ov qs ∧ Below w.heap.size w wr) (fun _ iv _ => ps.length - (intOf iv).toNat)
  case atStart => exact ⟨0, [], by omega, rfl, rfl, ⟨World.ownsRow_made (base := w.heap.size) (size := 8) (e := 53) _ #[] 0 (Nat.le_refl _) (by unfold maxLen; omega) (by simp), OwnCmpBodies.nil _ _⟩, by (repeat (with_reducible first | exact Below.refl _ _ | assumption | refine ba ?_ _ | refine bd ?_ | refine bdN ?_ _ | refine bs ?_ (by first | exact Nat.le_refl _ | (dsimp only; omega) | (simp; done)) _ | refine bt ?_ (by assumption)))⟩
  case round =>
    obtain ⟨k, qs, hk, rfl, hqs, hown, hbel⟩ := hrel
    obtain ⟨oa, oc, rfl⟩ := hown.len
    have hsz := hbel.size
    have hql : qs.length ≤ 1048576 := by
      have h := congrArg List.length hqs
      simp at h
      omega
    have Hqs := Lib.hid hqs
    have Hown := Lib.hid hown
    have Hbel := Lib.hid hbel
    clear hqs hown
    by_cases hlt : k < ps.length
    · obtain ⟨c0, c1, c2, c3, c4, c5, c6, c7⟩ := (H.out.below hg hbel).1 k hlt
      have Hbody := Lib.hid ((H.out.below hg hbel).2 _ (List.getElem_mem hlt))
      have Hbk := Lib.hid (Hbl.out _ (List.getElem_mem hlt))
      have Hsn := Lib.hid (show (ps.map (·.1)).take (k + 1) = (ps.map (·.1)).take k ++ [ps[k].1] by rw [set_take _ k (by simpa using hlt)]; simp)
      have hk1 : (k : Int) < (ps.length : Int) := by omega
      have hk0 : (0 : Int) ≤ (k : Int) := by omega
      obtain ⟨p, hp⟩ : ∃ p, p = ps[k] := ⟨_, rfl⟩
      rw [← hp] at c0 c1 c2 c3 c4 c5 c6 c7 Hbody Hbk Hsn
      clear hp hbel
      obtain ⟨⟨x0, x1, x2, x3, x4, x5, x6, fb⟩, bv⟩ := p
      dsimp only at c0 c1 c2 c3 c4 c5 c6 c7 Hbody Hbk Hsn
      have hfb : fb.length ≤ 1048576 := Hbk.out
      obtain ⟨ab, cb, rfl⟩ := owns_shape Hbody.out
      obtain ⟨W5, hW5⟩ : ∃ W, W = (wr.alloc (.cells #[.int .i64 x0, .string (mk x1), .bool x2, .int .i64 x3, .int .i64 x4, .int .i64 x5, .int .i64 x6, .slice ab fb.length cb] 53)).alloc (.cells #[] 124) := ⟨_, rfl⟩
      have HW5 := Lib.hid hW5
      have Hx5 := Lib.hid (show Boxed wr #[.int .i64 x0, .string (mk x1), .bool x2, .int .i64 x3, .int .i64 x4, .int .i64 x5, .int .i64 x6, .slice ab fb.length cb] 53 W5 by rw [hW5]; exact (Boxed.start wr _ _).step (ba (Below.refl _ _) _))
      have Hm5 := Lib.hid (show W5.ownsRow (wr.heap.size + 1) 124 5 (.slice (some ⟨wr.heap.size + 1, 0, none⟩) 0 0) 0 [] by rw [hW5]; exact made_at _ _ _ 5 _ (by simp) (by simp))
      have Hs5 := Lib.hid (owns_below Hbody.out Hx5.out.below)
      have hz5 : wr.heap.size + 1 ≤ W5.heap.size := by rw [hW5]; simp
      obtain ⟨d0, d1, d2, d3, d4, d5, d6, d7⟩ := eight_of Hx5.out
      clear hW5
      go_upto_region 6 with fail
      go_upto_region 7 with (at_builtin; rw [← HW5.out]; refine wpList_append_both rfl _ _ 51 rfl (wr.heap.size + 1) 124 i1 _ 5 56 Try.underlying51 Hi1.out Hy0.out Hy1.out Hy2.out rfl (by decide) _ 0 _ rfl Hm5.out B _ fb.length _ rfl Hs5.out (stm_one fb) (by unfold maxLen; omega) (by omega) hz5 ?_; intro v6 w6 hown6 hgrow6; rw [Nat.zero_add, List.nil_append] at hown6; obtain ⟨a6, c6', hv6⟩ := owns_shape hown6; subst hv6; have Hown6 := Lib.hid hown6; have Hx6 := Lib.hid (show Boxed wr _ _ w6 from Below.grown Hx5.out hgrow6 Hx5.out.size (fun g hg => by have := (Hm5.out.lt g hg).1; simp; omega)); obtain ⟨e0, e1, e2, e3, e4, e5, e6, e7⟩ := eight_of Hx6.out; have z7 := cs_free Hx6.out 7; clear hown6 hgrow6 d0 d1 d2 d3 d4 d5 d6 d7)
      have hl6 := Hx6.out.lt
      have Hb6 := Lib.hid (show Below wr.heap.size wr (w6.setCell ⟨wr.heap.size, 7, none⟩ (.slice a6 fb.length c6')) from bs Hx6.out.below (Nat.le_refl _) _)
      have Hown6f := Lib.hid (show (w6.setCell ⟨wr.heap.size, 7, none⟩ (.slice a6 fb.length c6')).ownsRow w.heap.size 53 8 (.slice oa qs.length oc) qs.length (qs.flatMap cmpCells) from owns_set_other (owns_below Hown.out.1 Hx6.out.below) (fun b hb => by have := (Hown.out.1.lt b hb).2; dsimp only; omega) _)
      go_wp2_with (at_builtin; refine wpList_append_own _ rfl _ _ 28 rfl w.heap.size 53 i0 _ 8 88 Try.underlying28 Hi.out Hz0.out Hz1.out Hz2.out rfl (by decide) _ qs.length _ rfl (Hown6f.out.alloc _) ⟨_, 0, none⟩ 1 1 (cmpCells (⟨x0, x1, x2, x3, x4, x5, x6, fb⟩, .slice a6 fb.length c6')) rfl rfl ?_ (cmp_one _ ⟨_, _, _, rfl⟩) (by unfold maxLen; omega) (by omega) (by simp; omega) ?_; (exact ct_cells _ (cmpCells (⟨x0, x1, x2, x3, x4, x5, x6, fb⟩, .slice a6 fb.length c6')).toArray _ _ (by first | rfl | simp)); intro v7 w7 hown7 hgrow7 hnil7)
      have HbW := Lib.hid (show Below wr.heap.size wr ((w6.setCell ⟨wr.heap.size, 7, none⟩ (.slice a6 fb.length c6')).alloc (.cells (cmpCells (⟨x0, x1, x2, x3, x4, x5, x6, fb⟩, .slice a6 fb.length c6')).toArray 53)) from ba Hb6.out _)
      have Hq7 := Lib.hid (show ((w6.setCell ⟨wr.heap.size, 7, none⟩ (.slice a6 fb.length c6')).alloc (.cells (cmpCells (⟨x0, x1, x2, x3, x4, x5, x6, fb⟩, .slice a6 fb.length c6')).toArray 53)).ownsRow wr.heap.size 124 5 (.slice a6 fb.length c6') fb.length (fb.flatMap stmCells) from (owns_set_other (owns_mono Hown6.out (by omega)) (fun b hb => by have := (Hown6.out.lt b hb).1; dsimp only; omega) _).alloc _)
      have Hx7 := Lib.hid (cs_grown Hbel.out HbW.out hgrow7 (fun g hg => (Hown.out.1.lt g hg).1))
      have Hf7 := Lib.hid (cmps_snoc (q := (⟨x0, x1, x2, x3, x4, x5, x6, fb⟩, .slice a6 fb.length c6')) Hown.out HbW.out hsz Hq7.out hgrow7 hown7)
      have Hmp7 := Lib.hid (show (qs ++ [((⟨x0, x1, x2, x3, x4, x5, x6, fb⟩ : Cmp), Value.slice a6 fb.length c6')]).map (·.1) = (ps.map (·.1)).take (k + 1) by rw [List.map_append, Hqs.out, Hsn.out]; rfl)
      clear hown7 hgrow7 hnil7
      go_roundw
      case rel => exact ⟨k + 1, _, by omega, by go_num, Hmp7.out, Hf7.out, Hx7.out⟩
      case measure => simp [intOf]; omega
    · obtain rfl : k = ps.length := by omega
      have Hf := Lib.hid (show qs.map (·.1) = ps.map (·.1) by rw [Hqs.out, List.take_of_length_le (by simp)])
      go_wp2_with fail
      go_ret
      exact ⟨_, qs, rfl, Hf.out, Hown.out, hbel⟩
def inTree (t : List Fil) (c : Cmp) : Bool := t.any (fun f => decide (fplace f = cplace c))
def prune (cs : List Cmp) (t : List Fil) : List Cmp := if okStore cs && okTree t then cs.filter (inTree t) else []
theorem prune_none {cs : List Cmp} {t : List Fil} (h : (okStore cs && okTree t) = false) : prune cs t = [] := by unfold prune; rw [h]; rfl
theorem prune_at {cs : List Cmp} {t : List Fil} (h1 : okStore cs = true) (h2 : okTree t = true) : prune cs t = cs.filter (inTree t) := by unfold prune; rw [h1, h2]; rfl
theorem any_snoc {α : Type} (q : α → Bool) (l : List α) (k : Nat) (h : k < l.length) : (l.take (k + 1)).any q = ((l.take k).any q || q l[k]) := by
  rw [List.take_succ_eq_append_getElem h, List.any_append]; simp
theorem filter_snoc' {α : Type} (q : α → Bool) (l : List α) (k : Nat) (h : k < l.length) : (l.take (k + 1)).filter q = (l.take k).filter q ++ (if q l[k] = true then [l[k]] else []) := by
  rw [List.take_succ_eq_append_getElem h, List.filter_append]; congr 1; simp [List.filter_cons]
theorem newCmps_none {cs : List Cmp} {w w' : World} (h : cs = []) (hb : Below w.heap.size w w') : NewCmps cs w (.returned (.slice none 0 0)) w' := by
  subst h; exact ⟨_, [], rfl, rfl, ⟨World.ownsRow_nil _ _ _ _, OwnCmpBodies.nil _ _⟩, hb⟩
theorem one_of {ns : List (Cmp × Value)} {c : Cmp} (h : ns.map (·.1) = [c]) : ∃ nb, ns = [(c, nb)] := by
  match ns, h with
  | [(a, b)], h => simp at h; subst h; exact ⟨b, rfl⟩
set_option maxRecDepth 100000 in
set_option maxHeartbeats 4000000 in
theorem spec_PruneStore (lv : Value) (cs : List Cmp) (qs : List (Cmp × Value)) (Bc : Nat) (v : Value) (fs : List Fil) (D : Nat → Prop) (w : World) (hq : RowsC8 w Bc lv qs) (hqs : qs.map (·.1) = cs) (hz : ShortCs 1048576 cs) (hl : cmpsCost' cs) (h : FilsIn w D v fs) (hfz : ShortT 1048576 fs) (hfl : filsCost' fs) :
    Calls Try.prog 16 #[lv, .agg #[v]] w (NewCmps (prune cs fs) w) := by
  subst hqs
  obtain ⟨i0, hi, hz0, hz1, hz2⟩ := info_parts infoCmp
  have Hi := Lib.hid hi
  have Hz0 := Lib.hid hz0
  have Hz1 := Lib.hid hz1
  have Hz2 := Lib.hid hz2
  have HQ := Lib.hid hq
  have Hr := Lib.hid (hq.fils (D := fun _ => True) (fun _ _ => trivial))
  have Hz20 := Lib.hid (shortCs_mono (B := 2000000) (by omega) hz)
  have Hlc := Lib.hid hl
  have Hfz := Lib.hid hfz
  have HF := Lib.hid h
  have Hfz8 := Lib.hid (shortT_mono (B := 3000000) (by omega) hfz)
  obtain ⟨la, lc, rfl⟩ := hq.len
  obtain ⟨_, _, e, hlcap, hlm⟩ := Hr.out.len
  rw [List.length_map] at hlcap
  simp only [Value.slice.injEq] at e
  obtain ⟨rfl, heq, rfl⟩ := e
  clear heq
  unfold maxLen at hlm
  obtain ⟨aa, ca, rfl, hal, ham⟩ := h.len
  unfold maxLen at ham
  clear hq hz hl h hfz hfl hi hz0 hz1 hz2
  have Hb0 := Lib.hid (Boxed.start w #[.slice aa fs.length ca] 33)
  have Hlen := Lib.hid (show (qs.map (·.1)).length = qs.length by simp)
  cases h1 : okStore (qs.map (·.1))
  · have H1 := Lib.hid h1
    have Hs := Lib.hid (prune_none (cs := qs.map (·.1)) (t := fs) (by rw [h1]; rfl))
    clear h1
    go_enter Try.func16, Try.ntmps16
    go_wp2_with (go_at_call 58; refine (spec_validStore _ (qs.map (·.1)) (fun _ => True) _ (Hr.out.below (by (repeat (with_reducible first | exact Below.refl _ _ | assumption | refine ba ?_ _ | refine bd ?_ | refine bdN ?_ _ | refine bs ?_ (by first | exact Nat.le_refl _ | (dsimp only; omega) | (simp; done)) _ | refine bt ?_ (by assumption))))) Hz20.out).mono ?_; rintro _ w5 ⟨rfl, hb5⟩; rw [H1.out])
    go_ret
    exact newCmps_none Hs.out (by (repeat (with_reducible first | exact Below.refl _ _ | assumption | refine ba ?_ _ | refine bd ?_ | refine bdN ?_ _ | refine bs ?_ (by first | exact Nat.le_refl _ | (dsimp only; omega) | (simp; done)) _ | refine bt ?_ (by assumption))))
  cases h2 : okTree fs
  · have H1 := Lib.hid h1
    have H2 := Lib.hid h2
    have Hs := Lib.hid (prune_none (cs := qs.map (·.1)) (t := fs) (by rw [h2, Bool.and_false]))
    clear h1 h2
    go_enter Try.func16, Try.ntmps16
    go_wp2_with (first
      | (go_at_call 58; refine (spec_validStore _ (qs.map (·.1)) (fun _ => True) _ (Hr.out.below (by (repeat (with_reducible first | exact Below.refl _ _ | assumption | refine ba ?_ _ | refine bd ?_ | refine bdN ?_ _ | refine bs ?_ (by first | exact Nat.le_refl _ | (dsimp only; omega) | (simp; done)) _ | refine bt ?_ (by assumption))))) Hz20.out).mono ?_; rintro _ w5 ⟨rfl, hb5⟩; rw [H1.out]; have Hx5 := Lib.hid (Hb0.out.step hb5); have x0 : w5.cell? ⟨w.heap.size, 0, none⟩ = some (.slice aa fs.length ca) := Hx5.out.cell 0; have xs := Hx5.out.lt)
      | (go_at_call 59; refine (spec_validTree _ _ _ _ (HF.out.below (by have := Hx5.out.below; (repeat (with_reducible first | exact Below.refl _ _ | assumption | refine ba ?_ _ | refine bd ?_ | refine bdN ?_ _ | refine bs ?_ (by first | exact Nat.le_refl _ | (dsimp only; omega) | (simp; done)) _ | refine bt ?_ (by assumption))))) Hfz8.out).mono ?_; rintro _ w6 ⟨rfl, hb6⟩; rw [H2.out]))
    go_ret
    exact newCmps_none Hs.out (bt Hx5.out.below hb6)
  have H1 := Lib.hid h1
  have H2 := Lib.hid h2
  have Hs := Lib.hid (prune_at h1 h2)
  have h12 : fs.length ≤ 12 := (okTree_all h2).2.2
  have hq12 : qs.length ≤ 12 := by have := (okStore_facts h1).2.2; simpa using this
  clear h1 h2
  go_enter Try.func16, Try.ntmps16
  go_wp2_with (first
    | (go_at_call 58; refine (spec_validStore _ (qs.map (·.1)) (fun _ => True) _ (Hr.out.below (by (repeat (with_reducible first | exact Below.refl _ _ | assumption | refine ba ?_ _ | refine bd ?_ | refine bdN ?_ _ | refine bs ?_ (by first | exact Nat.le_refl _ | (dsimp only; omega) | (simp; done)) _ | refine bt ?_ (by assumption))))) Hz20.out).mono ?_; rintro _ w5 ⟨rfl, hb5⟩; rw [H1.out]; have Hx5 := Lib.hid (Hb0.out.step hb5); have x0 : w5.cell? ⟨w.heap.size, 0, none⟩ = some (.slice aa fs.length ca) := Hx5.out.cell 0; have xs := Hx5.out.lt)
    | (go_at_call 59; refine (spec_validTree _ _ _ _ (HF.out.below (by have := Hx5.out.below; (repeat (with_reducible first | exact Below.refl _ _ | assumption | refine ba ?_ _ | refine bd ?_ | refine bdN ?_ _ | refine bs ?_ (by first | exact Nat.le_refl _ | (dsimp only; omega) | (simp; done)) _ | refine bt ?_ (by assumption))))) Hfz8.out).mono ?_; rintro _ w6 ⟨rfl, hb6⟩; rw [H2.out]; have Hx6 := Lib.hid (Hx5.out.step hb6); have hz6 := Hx6.out.lt))
  clear x0 xs hb5 hb6
  go_loopw [5, 6] (fun ov kv wr => ∃ (k : Nat) (rs : List (Cmp × Value)), k ≤ qs.length ∧ kv = .int .i64 k ∧ rs.map (·.1) = ((qs.map (·.1)).take k).filter (inTree fs) ∧ OwnCmps wr (w.heap.size + 1) ov rs ∧ Boxed w #[.slice aa fs.length ca] 33 wr) (fun _ kv _ => qs.length - (intOf kv).toNat)
  case atStart => exact ⟨0, [], by omega, rfl, rfl, ⟨World.ownsRow_made (base := w.heap.size + 1) (size := 8) (e := 53) _ #[] 0 (by omega) (by unfold maxLen; omega) (by simp), OwnCmpBodies.nil _ _⟩, Hx6.out.step (ba (Below.refl _ _) _)⟩
  case round =>
    obtain ⟨k, rs, hk, rfl, hrs, hown, hbx⟩ := hrel
    obtain ⟨oa, oc, rfl⟩ := hown.len
    have hsz := hbx.lt
    have hrl : rs.length ≤ 12 := by
      have h := congrArg List.length hrs
      rw [List.length_map] at h
      have := List.length_filter_le (inTree fs) ((qs.map (·.1)).take k)
      rw [List.length_take, List.length_map] at this
      omega
    have Hrs := Lib.hid hrs
    have Hown := Lib.hid hown
    have Hbx := Lib.hid hbx
    clear hrs hown hbx Hx6 Hx5
    by_cases hlt : k < qs.length
    · have hlt' : k < (qs.map (·.1)).length := by simpa using hlt
      have Hsn := Lib.hid (filter_snoc' (inTree fs) (qs.map (·.1)) k hlt')
      rw [List.getElem_map] at Hsn
      have HQr := Lib.hid (HQ.out.below Hbx.out.below)
      obtain ⟨g, cap, e1, hg, hg2⟩ := HQr.out.1.form (by omega)
      simp only [Value.slice.injEq] at e1
      obtain ⟨rfl, _, rfl⟩ := e1
      have hgl := (HQr.out.1.lt g rfl).2
      have Hrow := Lib.hid (HQr.out.rowC rfl k hlt)
      have Hbk := Lib.hid (Hlc.out.2 _ (List.mem_map.2 ⟨qs[k], List.getElem_mem hlt, rfl⟩))
      obtain ⟨⟨c0, c1, c2, _⟩, _⟩ := own8 HQr.out.1 k hlt
      have C0 := Lib.hid c0
      have C1 := Lib.hid c1
      have C2 := Lib.hid c2
      obtain ⟨q, hqk⟩ : ∃ q, q = qs[k] := ⟨_, rfl⟩
      rw [← hqk] at Hsn Hrow Hbk C0 C1 C2
      clear c0 c1 c2 hqk hlt'
      obtain ⟨⟨x0, x1, x2, x3, x4, x5, x6, cb⟩, qv⟩ := q
      dsimp only at C0 C1 C2 Hbk
      have hk1 : (k : Int) < (qs.length : Int) := by omega
      have hk0 : (0 : Int) ≤ (k : Int) := by omega
      have Ha := Lib.hid (show fs.length = fs.length by simp)
      obtain ⟨Tq, hTq⟩ : ∃ T, T = inTree fs ⟨x0, x1, x2, x3, x4, x5, x6, cb⟩ := ⟨_, rfl⟩
      have HTq := Lib.hid hTq
      rw [← hTq] at Hsn
      clear hTq
      obtain ⟨wo, hwo⟩ : ∃ wo, wo = wr := ⟨_, rfl⟩
      subst hwo
      go_wp2_with fail
      go_loopw [7, 8] (fun mv jv wr => ∃ (j : Nat) (m : Bool), j ≤ fs.length ∧ jv = .int .i64 j ∧ mv = .bool m ∧ m = (fs.take j).any (fun f => decide (fplace f = (x0, x1, x2))) ∧ Below wo.heap.size wo wr) (fun _ jv _ => fs.length - (intOf jv).toNat)
      case atStart => exact ⟨0, false, by omega, rfl, rfl, rfl, Below.refl _ _⟩
      case round =>
        obtain ⟨j, m, hj, rfl, rfl, hm, hbj⟩ := hrel
        have Hm := Lib.hid hm
        have Hbj := Lib.hid hbj
        have hszj := hbj.size
        have f0 : wr.cell? ⟨w.heap.size, 0, none⟩ = some (.slice aa fs.length ca) := (Hbx.out.step hbj).cell 0
        have hxs := (Hbx.out.step hbj).lt
        clear hm hbj
        by_cases hlj : j < fs.length
        · have hlj' : j < fs.length := by simpa using hlj
          have Hany := Lib.hid (any_snoc (fun f => decide (fplace f = (x0, x1, x2))) fs j hlj')
          obtain ⟨gt, ot, capt, bv, e1, hDt, hbt', hbody, c0, c1, c2, c3, c4, c5⟩ := (HF.out.below (bt Hbx.out.below Hbj.out)).at_ hlj
          simp only [Value.slice.injEq] at e1
          obtain ⟨rfl, hnn, rfl⟩ := e1
          clear hnn
          have Hzk := Lib.hid (Hfz.out _ (List.getElem_mem hlj))
          obtain ⟨ab, cbb, rfl, _, _⟩ := hbody.len
          obtain ⟨p, hp⟩ : ∃ p, p = fs[j] := ⟨_, rfl⟩
          rw [← hp] at c0 c1 c2 c3 c4 c5 Hany Hzk
          clear hp hlj' hbody
          obtain ⟨fr, fp, fn, fi, fst, fb⟩ := p
          dsimp only at c0 c1 c2 c3 c4 c5 Hany Hzk
          have hj1 : (j : Int) < (fs.length : Int) := by omega
          have hj0 : (0 : Int) ≤ (j : Int) := by omega
          obtain ⟨nm, hnm⟩ : ∃ n, n = modName ⟨fr, fp, fn, fi, fst, fb⟩ := ⟨_, rfl⟩
          have Hnm := Lib.hid hnm
          have Hst := Lib.hid (show (fs.take (j + 1)).any (fun f => decide (fplace f = (x0, x1, x2))) = (m || ((fr == x0) && ((nm == x1) && (fi == x2)))) by
            rw [Hany.out, ← Hm.out]
            congr 1
            rw [show fplace ⟨fr, fp, fn, fi, fst, fb⟩ = (fr, nm, fi) by rw [hnm]; rfl]
            rw [Bool.eq_iff_iff]
            simp only [decide_eq_true_eq, Prod.mk.injEq, Bool.and_eq_true, beq_iff_eq])
          clear hnm
          obtain ⟨W1, hW1⟩ : ∃ W1, W1 = wr.alloc (.cells #[.int .i64 fr, .string (mk fp), .string (mk fn), .bool fi, .int .i64 fst, .slice ab fb.length cbb] 55) := ⟨_, rfl⟩
          have HWe := Lib.hid hW1
          have X1 := Lib.hid (show Boxed wr #[.int .i64 fr, .string (mk fp), .string (mk fn), .bool fi, .int .i64 fst, .slice ab fb.length cbb] 55 W1 by rw [hW1]; exact Boxed.start wr _ _)
          have HW := Lib.hid (bt Hbj.out X1.out.below)
          clear hW1
          go_upto_region 12 with fail
          rw [← HWe.out]
          clear c0 c1 c2 c3 c4 c5 f0 hxs
          have j0 := cell_regrown (show W1.cell? ⟨wr.heap.size, 0, none⟩ = some (.int .i64 fr) from X1.out.cell 0)
          have j1 := cell_regrown (show W1.cell? ⟨wr.heap.size, 1, none⟩ = some (.string (mk fp)) from X1.out.cell 1)
          have j2 := cell_regrown (show W1.cell? ⟨wr.heap.size, 2, none⟩ = some (.string (mk fn)) from X1.out.cell 2)
          have j3 := cell_regrown (show W1.cell? ⟨wr.heap.size, 3, none⟩ = some (.bool fi) from X1.out.cell 3)
          have j4 := cell_regrown (show W1.cell? ⟨wr.heap.size, 4, none⟩ = some (.int .i64 fst) from X1.out.cell 4)
          have j5 := cell_regrown (show W1.cell? ⟨wr.heap.size, 5, none⟩ = some (.slice ab fb.length cbb) from X1.out.cell 5)
          have k0 := cell_regrown ((HW.out.cell (p := ⟨g, k * 8, none⟩) hgl).trans C0.out)
          have k1 := cell_regrown ((HW.out.cell (p := ⟨g, k * 8 + 1, none⟩) hgl).trans C1.out)
          have k2 := cell_regrown ((HW.out.cell (p := ⟨g, k * 8 + 2, none⟩) hgl).trans C2.out)
          have cM : ∀ d os, Calls Try.prog 60 #[.agg #[.int .i64 fr, .string (mk fp), .string (mk fn), .bool fi, .int .i64 fst, .slice ab fb.length cbb]] (grow (redrawn W1 d) os) fun e w'' => e = .returned (.string (mk nm)) ∧ ∃ p : Regrown, w'' = grow (redrawn W1 p.d) p.os := fun d os =>
            Calls.regrown_of (by rw [Hnm.out]; exact spec_moduleName fr fst fp fn fi _ fb _ (Nat.le_trans Hzk.out.1 (by omega)) (Nat.le_trans Hzk.out.2.1 (by omega)))
          have hcase : m = true ∨ (m = false ∧ (fr == x0) = false) ∨ (m = false ∧ fr = x0 ∧ (nm == x1) = false) ∨ (m = false ∧ fr = x0 ∧ nm = x1) := by
            cases m
            · by_cases a : fr = x0
              · by_cases b : nm = x1
                · exact .inr (.inr (.inr ⟨rfl, a, b⟩))
                · exact .inr (.inr (.inl ⟨rfl, a, by rw [beq_bs']; exact decide_eq_false b⟩))
              · exact .inr (.inl ⟨rfl, by simpa using a⟩)
            · exact .inl rfl
          obtain ⟨m', hm'⟩ : ∃ b, b = (m || ((fr == x0) && ((nm == x1) && (fi == x2)))) := ⟨_, rfl⟩
          rw [← hm'] at Hst
          rcases hcase with rfl | ⟨rfl, a1⟩ | ⟨rfl, rfl, a2⟩ | ⟨rfl, rfl, a2⟩
          · have Hm' := Lib.hid (show m' = true by rw [hm']; rfl)
            clear hm'
            refine wp_region_quiet_below (by kernel_rfl) (by kernel_rfl) ?_
            repeat (go_big_quiet_step (exact cM _ _))
            refine wpQuiet_nil ?_
            intro _ hw'
            obtain ⟨⟨dq, osq⟩, hw2⟩ := hw'
            subst hw2
            clear cM j0 j1 j2 j3 j4 j5 k0 k1 k2
            go_wp2_with fail
            go_roundw
            case rel => exact ⟨j + 1, m', by omega, by go_num, by rw [Hm'.out], Hst.out.symm, bt HW.out (below_regrown W1 dq osq)⟩
            case measure => simp [intOf]; omega
          · have Hm' := Lib.hid (show m' = false by rw [hm', a1]; rfl)
            clear hm'
            have a1' : ¬ fr = x0 := by simpa using a1
            refine wp_region_quiet_below (by kernel_rfl) (by kernel_rfl) ?_
            repeat (go_big_quiet_step (exact cM _ _))
            refine wpQuiet_nil ?_
            intro _ hw'
            obtain ⟨⟨dq, osq⟩, hw2⟩ := hw'
            subst hw2
            clear cM j0 j1 j2 j3 j4 j5 k0 k1 k2
            go_wp2_with fail
            go_roundw
            case rel => exact ⟨j + 1, m', by omega, by go_num, by rw [Hm'.out], Hst.out.symm, bt HW.out (below_regrown W1 dq osq)⟩
            case measure => simp [intOf]; omega
          · have Hm' := Lib.hid (show m' = false by rw [hm', a2]; simp)
            clear hm'
            refine wp_region_quiet_below (by kernel_rfl) (by kernel_rfl) ?_
            repeat (go_big_quiet_step (exact cM _ _))
            refine wpQuiet_nil ?_
            intro _ hw'
            obtain ⟨⟨dq, osq⟩, hw2⟩ := hw'
            subst hw2
            clear cM j0 j1 j2 j3 j4 j5 k0 k1 k2
            go_wp2_with fail
            go_roundw
            case rel => exact ⟨j + 1, m', by omega, by go_num, by rw [Hm'.out], Hst.out.symm, bt HW.out (below_regrown W1 dq osq)⟩
            case measure => simp [intOf]; omega
          · have Hm' := Lib.hid (show m' = (fi == x2) by rw [hm', a2]; simp)
            clear hm'
            have a4 : (nm == x1) = true := by rw [a2]; simp
            clear a2
            refine wp_region_quiet_below (by kernel_rfl) (by kernel_rfl) ?_
            repeat (go_big_quiet_step (exact cM _ _))
            refine wpQuiet_nil ?_
            intro _ hw'
            obtain ⟨⟨dq, osq⟩, hw2⟩ := hw'
            subst hw2
            clear cM j0 j1 j2 j3 j4 j5 k0 k1 k2
            go_wp2_with fail
            go_roundw
            case rel => exact ⟨j + 1, m', by omega, by go_num, by rw [Hm'.out], Hst.out.symm, bt HW.out (below_regrown W1 dq osq)⟩
            case measure => simp [intOf]; omega
        · obtain rfl : j = fs.length := by omega
          have HTm := Lib.hid (show m = Tq by rw [Hm.out, HTq.out]; unfold inTree; rw [List.take_of_length_le (by simp)]; rfl)
          skip
          cases m
          · have Hs2 := Lib.hid (show ((qs.map (·.1)).take (k + 1)).filter (inTree fs) = ((qs.map (·.1)).take k).filter (inTree fs) by rw [Hsn.out, ← HTm.out]; simp)
            go_wp2_with fail
            go_roundw
            case rel => exact ⟨k + 1, rs, by omega, by go_num, by rw [Hs2.out]; exact Hrs.out, Hown.out.below Hbj.out, Hbx.out.step Hbj.out⟩
            case measure => simp [intOf]; omega
          · have Hs2 := Lib.hid (show ((qs.map (·.1)).take (k + 1)).filter (inTree fs) = ((qs.map (·.1)).take k).filter (inTree fs) ++ [⟨x0, x1, x2, x3, x4, x5, x6, cb⟩] by rw [Hsn.out, ← HTm.out]; simp)
            have Hr1 := Lib.hid (Hrow.out.below hgl Hbj.out)
            have hgr : g < wr.heap.size := by omega
            have HownJ := Lib.hid (Hown.out.below Hbj.out)
            have HbxJ := Lib.hid (Hbx.out.step Hbj.out)
            have hxl := HbxJ.out.lt
            have q1 : (k : Int) ≤ (lc : Int) := by omega
            have q2 : (k : Int) + 1 ≤ (qs.length : Int) := by omega
            have q3 : (k : Int) + 1 ≤ (lc : Int) := by omega
            have q4 : (k : Int) ≤ (k : Int) + 1 := by omega
            have q5 : (0 : Int) ≤ (k : Int) + 1 := by omega
            have n1 : k ≤ lc := by omega
            have n2 : k + 1 ≤ lc := by omega
            have n3 : ¬ lc = k := by omega
            have n4 : lc ≠ k := by omega
            have n5 : k + 1 - k = 1 := by omega
            have hp2 : ((k : Int) + 1).toNat = k + 1 := by omega
            have hwr : IntKind.i64.wrap ((k : Int) + 1) = (k : Int) + 1 := by rw [IntKind.wrap_i64]; omega
            go_wp2_with (first
              | (go_at_call 61; refine (spec_copyStoreAt g (k * 8) (lc - k) [(⟨x0, x1, x2, x3, x4, x5, x6, cb⟩, qv)] Bc _ hgr (by simp; omega) Hr1.out (by simp) (by intro p hp; simp at hp; subst hp; exact Hbk.out)).mono ?_; rintro _ w9 ⟨nv, ns, rfl, hns, hown9, hb9⟩; obtain ⟨nb, rfl⟩ := one_of hns; obtain ⟨na, nc, rfl⟩ := hown9.len; have Hnb := Lib.hid (show w9.ownsRow wr.heap.size 124 5 nb cb.length (cb.flatMap stmCells) from hown9.2.1 _ (List.mem_singleton.2 rfl)); have Hown9 := Lib.hid hown9; have Hb9 := Lib.hid hb9; clear hns hown9 hb9)
              | (at_builtin; refine wpList_append_both rfl _ _ 28 rfl (w.heap.size + 1) 53 i0 _ 8 88 Try.underlying28 Hi.out Hz0.out Hz1.out Hz2.out rfl (by decide) _ rs.length _ rfl (HownJ.out.below Hb9.out).1 wr.heap.size _ 1 _ rfl Hown9.out.1 (fun u hu => by obtain ⟨za, zc, hz⟩ := owns_shape Hnb.out; exact cmp_one ((⟨x0, x1, x2, x3, x4, x5, x6, cb⟩ : Cmp), nb) ⟨_, _, _, hz⟩ u (by simpa using hu)) (by unfold maxLen; omega) (by omega) (by have := Hb9.out.size; omega) ?_; intro v7 w7 hown7 hgrow7; have Hown7 := Lib.hid hown7; have Hgrow7 := Lib.hid hgrow7; clear hown7 hgrow7))
            have HrX := Lib.hid (HownJ.out.below Hb9.out)
            have Hx7 := Lib.hid (show Boxed w #[.slice aa fs.length ca] 33 w7 from Below.grown (HbxJ.out.step Hb9.out) Hgrow7.out (HbxJ.out.step Hb9.out).size (fun b hb => by have := (HownJ.out.1.lt b hb).1; simp; omega))
            go_roundw
            case rel =>
              refine ⟨k + 1, rs ++ [(⟨x0, x1, x2, x3, x4, x5, x6, cb⟩, nb)], by omega, by go_num, by rw [Hs2.out, List.map_append, Hrs.out]; rfl, ⟨by have h := Hown7.out; simpa using h, bodies_app (cbods_grown HrX.out.2 Hgrow7.out (fun b hb p hp => own_types (by decide) HrX.out.1 (HrX.out.2.1 p hp) hb)) (row_keptC (owns_mono Hnb.out hxl) HrX.out.1 Hgrow7.out) (apart_later HownJ.out.2 Hnb.out)⟩, Hx7.out⟩
            case measure => simp [intOf]; omega
    · obtain rfl : k = qs.length := by omega
      have Hf := Lib.hid (show rs.map (·.1) = prune (qs.map (·.1)) fs by rw [Hs.out, Hrs.out, List.take_of_length_le (by simp)])
      go_wp2_with fail
      go_ret
      exact ⟨_, rs, rfl, Hf.out, Hown.out.mono (by omega), Hbx.out.below⟩

/-! ### Contract of the program's function that drops from a store what is of no file. -/
/-! ### Plain data. -/
/-- What is kept of a store, by the places that there are. -/
def keepP (S : List Pl) (p : Cmp × Value) : Bool := decide (srcPlace (cplace p.1) ∈ S)
theorem keep_setG {α : Type} {ys xs : List α} {m i : Nat} {q : α → Bool} (hm : m < i) (hi : i < xs.length) (hl : ys.length = xs.length) (h1 : ys.take m = (xs.take i).filter q) (h2 : ys.drop i = xs.drop i) (hq : q xs[i] = true) :
    (ys.set m xs[i]).take (m + 1) = (xs.take (i + 1)).filter q ∧ (ys.set m xs[i]).drop (i + 1) = xs.drop (i + 1) := by
  constructor
  · rw [filter_snoc' q xs i hi, if_pos hq, ← h1, List.take_succ_eq_append_getElem (by rw [List.length_set]; omega), List.take_set_of_le (by omega), List.getElem_set_self]
  · rw [List.drop_set_of_lt (by omega)]
    have := congrArg (List.drop 1) h2
    simpa [List.drop_drop] using this
theorem keep_notG {α : Type} {ys xs : List α} {m i : Nat} {q : α → Bool} (hi : i < xs.length) (h1 : ys.take m = (xs.take i).filter q) (h2 : ys.drop i = xs.drop i) (hq : q xs[i] = false) :
    ys.take m = (xs.take (i + 1)).filter q ∧ ys.drop (i + 1) = xs.drop (i + 1) := by
  constructor
  · rw [filter_snoc' q xs i hi, if_neg (by rw [hq]; simp), List.append_nil, h1]
  · have := congrArg (List.drop 1) h2
    simpa [List.drop_drop] using this
theorem keep_hereG {α : Type} {ys xs : List α} {i : Nat} (hi : i < xs.length) (hl : ys.length = xs.length) (h2 : ys.drop i = xs.drop i) : ys[i]'(by omega) = xs[i] := by
  have := congrArg (fun l => l[0]?) h2
  simp only [List.getElem?_drop, Nat.add_zero] at this
  rw [List.getElem?_eq_getElem (by omega), List.getElem?_eq_getElem hi] at this
  exact Option.some.inj this
theorem lastOf_lenC (p : Bs) : (lastOf p).length ≤ 3 := by
  unfold lastOf
  split
  · rename_i h; exact (vp_len (getLast_vp h)).2
  · simp
theorem parentOf_lenC (p : Bs) : (parentOf p).length ≤ p.length := by
  unfold parentOf
  split
  · exact parent_len p
  · simp
theorem okPl_src {x0 : Int} {x1 : Bs} {x2 : Bool} (h0 : 0 ≤ x0 ∧ x0 ≤ 2) (h1 : x1.length ≤ 8000000) : okPl (srcPlace (x0, x1, x2)) := by
  unfold srcPlace
  dsimp only
  have e1 := parentOf_lenC x1
  have e2 := lastOf_lenC x1
  split
  · exact ⟨h0, h1, by simp⟩
  · exact ⟨h0, by dsimp only; omega, by dsimp only; omega⟩
/-- The places of a valid tree tell just what is in it. -/
theorem keepP_is {t : List Fil} {p : Cmp × Value} (ht : okTree t = true) (hv : vn p.1.module = true) : keepP (dedup (t.map place)) p = inTree t p.1 := by
  unfold keepP inTree
  rw [Bool.eq_iff_iff, decide_eq_true_eq, mem_dedup, List.any_eq_true]
  have hok := (okTree_all ht).1
  constructor
  · intro h
    obtain ⟨f, hf, e⟩ := List.mem_map.1 h
    exact ⟨f, hf, by rw [decide_eq_true_eq]; exact ((srcPlace_is (p := cplace p.1) hv (List.all_eq_true.1 hok f hf)).1 e.symm).symm⟩
  · rintro ⟨f, hf, e⟩
    rw [decide_eq_true_eq] at e
    exact List.mem_map.2 ⟨f, hf, ((srcPlace_is (p := cplace p.1) hv (List.all_eq_true.1 hok f hf)).2 e.symm).symm⟩
theorem OwnCmpBodies.filter {w : World} {B : Nat} {ps : List (Cmp × Value)} (h : OwnCmpBodies w B ps) (q : Cmp × Value → Bool) : OwnCmpBodies w B (ps.filter q) :=
  ⟨fun p hp => h.1 p (List.mem_filter.1 hp).1, h.2.filter q⟩
theorem map_keep {t : List Fil} {ps : List (Cmp × Value)} (ht : okTree t = true) (hv : ∀ c ∈ ps.map (·.1), vn c.module = true) : (ps.filter (keepP (dedup (t.map place)))).map (·.1) = (ps.map (·.1)).filter (inTree t) := by
  rw [List.filter_map]
  congr 1
  exact List.filter_congr (fun p hp => keepP_is ht (hv _ (List.mem_map.2 ⟨p, hp, rfl⟩)))

theorem tell_of {ps : List (Cmp × Value)} (h : okStore (ps.map (·.1)) = true) : ∀ p ∈ ps, (0 ≤ p.1.root ∧ p.1.root ≤ 2) ∧ p.1.module.length ≤ 8000000 := fun p hp => by
  have h1 := (okStore_facts h).1 p.1 (List.mem_map.2 ⟨p, hp, rfl⟩)
  have h2 := vn_len (okCmp_vn h1)
  unfold okCmp inr at h1
  simp only [Bool.and_eq_true, decide_eq_true_eq] at h1
  exact ⟨by omega, by omega⟩
theorem owns_cellsP {B e size g n cap : Nat} : ∀ (vs : List Value) (o : Nat) (w : World) (xs : List Value), w.ownsRow B e size (.slice (some ⟨g, 0, none⟩) n cap) n xs → o + vs.length ≤ xs.length → (w.setCells g o vs).ownsRow B e size (.slice (some ⟨g, 0, none⟩) n cap) n (xs.take o ++ (vs ++ xs.drop (o + vs.length)))
  | [], o, w, xs, h, _ => by simpa [World.setCells] using h
  | u :: r, o, w, xs, h, hl => by
      have h1 := owns_cellsP r (o + 1) _ _ (h.stored o u).1 (by simp at hl ⊢; omega)
      have hlt : o < xs.length := by simp at hl; omega
      rw [World.setCells]
      have e1 : (xs.set o u).take (o + 1) = xs.take o ++ [u] := by
        rw [List.set_eq_take_append_cons_drop, if_pos hlt, List.take_append, List.length_take, Nat.min_eq_left (by omega), List.take_take, Nat.min_eq_right (by omega), show o + 1 - o = 1 by omega]
        rfl
      have e2 : (xs.set o u).drop (o + 1 + r.length) = xs.drop (o + (u :: r).length) := by
        rw [List.drop_set_of_lt (by omega)]
        simp; congr 1; omega
      rw [e1, e2] at h1
      simpa using h1
theorem owns_frontP {w : World} {B e size g n cap : Nat} {xs : List Value} (h : w.ownsRow B e size (.slice (some ⟨g, 0, none⟩) n cap) n xs) (i : Nat) (hi : i ≤ n) : w.ownsRow B e size (.slice (some ⟨g, 0, none⟩) i cap) i (xs.take (i * size)) := by
  have hm : i * size ≤ n * size := Nat.mul_le_mul_right _ hi
  refine ⟨by rw [List.length_take, h.1]; omega, .inr ?_⟩
  rcases h.2 with ⟨h', _⟩ | ⟨g', cap', cur, h', hb, hg, hnc, hcm, hcs, htake⟩
  · simp at h'
  · simp only [Value.slice.injEq, Option.some.injEq, Addr.mk.injEq, and_true, true_and] at h'
    obtain ⟨rfl, rfl⟩ := h'
    refine ⟨g, cap, cur, rfl, hb, hg, by omega, hcm, hcs, ?_⟩
    rw [← htake, List.take_take, Nat.min_eq_left hm]
theorem heap_setCellsP (b : Nat) : ∀ (vs : List Value) (o : Nat) (w : World) (x : Nat), x ≠ b → (w.setCells b o vs).heap[x]? = w.heap[x]?
  | [], _, _, _, _ => rfl
  | v :: r, o, w, x, h => by rw [World.setCells, heap_setCellsP b r _ _ x h]; exact Below.heap_setCell w _ v x h
theorem below_tailP {N g : Nat} (hg : N ≤ g) : ∀ (vs : List Value) (o : Nat) {a w : World}, Below N a w → Below N a (w.setCells g o vs)
  | [], _, _, _, h => h
  | u :: r, o, _, _, h => below_tailP hg r (o + 1) (h.setCell (p := ⟨g, o, none⟩) hg u)
/-! ### A slice of structs that is cleared. -/
theorem run_clear_cells {P : Program} (w : World) (t e ty : TypeId) (z : Value) (ht : P.underlying t = some (.slice e)) (hv : ∀ w, (zeroValue e).run P w = .ok z w) (b o n c k : Nat) (hn : 0 < n) (vs : List Value) (hvs : (Builtin.zeroCells z.cells n).toList = vs) (hl : vs.length = k)
    (h1 : ∀ v ∈ vs, v.oneCell' = true) (hc : ∀ j, j < k → (w.cell? ⟨b, o + j, none⟩).isSome = true) (hf : ∀ j, j < k → w.frozen? ⟨b, o + j, none⟩ = false) :
    (Builtin.clear_ #[t] ty #[.slice (some ⟨b, o, none⟩) n c]).run P w = .ok (.tuple #[]) (w.setCells b o vs) := by
  have hst := run_storeCells_cells (P := P) b o vs 0 w (by simpa [hl] using hc) (by simpa [hl] using hf) h1
  simp only [Nat.add_zero] at hst
  obtain ⟨m, rfl⟩ : ∃ m, n = m + 1 := ⟨n - 1, by omega⟩
  simp [Builtin.clear_, run_underlying ht, hv, hvs, hst]
theorem zeroCells_len (a : Array Value) (n : Nat) : (Builtin.zeroCells a n).toList.length = n * a.size := by simp [Builtin.zeroCells]
theorem cmpZero (w : World) : (zeroValue 53).run Try.prog w = .ok (.agg #[.int .i64 0, .string ByteArray.empty, .bool false, .int .i64 0, .int .i64 0, .int .i64 0, .int .i64 0, .slice none 0 0]) w := by kernel_rfl
theorem zero8_one (n : Nat) : ∀ v ∈ (Builtin.zeroCells (Value.agg #[.int .i64 0, .string ByteArray.empty, .bool false, .int .i64 0, .int .i64 0, .int .i64 0, .int .i64 0, .slice none 0 0]).cells n).toList, v.oneCell' = true := by
  intro v hv
  simp only [Builtin.zeroCells, Array.toList_map, List.mem_map] at hv
  obtain ⟨i, _, rfl⟩ := hv
  have hc : i % 8 = 0 ∨ i % 8 = 1 ∨ i % 8 = 2 ∨ i % 8 = 3 ∨ i % 8 = 4 ∨ i % 8 = 5 ∨ i % 8 = 6 ∨ i % 8 = 7 := by omega
  have e : (Value.agg #[.int .i64 0, .string ByteArray.empty, .bool false, .int .i64 0, .int .i64 0, .int .i64 0, .int .i64 0, .slice none 0 0]).cells.size = 8 := rfl
  rw [e]
  rcases hc with h | h | h | h | h | h | h | h <;> rw [h] <;> rfl

/-! ### The closure. -/
/-- The map that a closure has captured. -/
def MapAt (w : World) (B b n : Nat) (S : List Pl) : Prop := B < w.heap.size ∧ w.cell? ⟨B, 0, none⟩ = some (.map (some b)) ∧ PlMap w b n S
theorem MapAt.below {w w' : World} {B b n : Nat} {S : List Pl} (h : MapAt w B b n S) (hb : Below w.heap.size w w') : MapAt w' B b n S :=
  ⟨Nat.lt_of_lt_of_le h.1 hb.size, (hb.cell (p := ⟨B, 0, none⟩) h.1).trans h.2.1, h.2.2.below hb⟩
set_option maxRecDepth 100000 in
set_option maxHeartbeats 1000000 in
theorem impl_PruneStore1 (x0 : Int) (x1 : Bs) (x2 : Bool) (x3 x4 x5 x6 : Int) (bv : Value) (B b n : Nat) (S : List Pl) (w : World) (hp : MapAt w B b n S) (h0 : 0 ≤ x0 ∧ x0 ≤ 2) (hn : x1.length ≤ 8000000) :
    Calls Try.prog 67 #[.agg #[.int .i64 x0, .string (mk x1), .bool x2, .int .i64 x3, .int .i64 x4, .int .i64 x5, .int .i64 x6, bv], .pointer (some ⟨B, 0, none⟩)] w
      fun e w' => e = .returned (.bool (!decide (srcPlace (x0, x1, x2) ∈ S))) ∧ Below w.heap.size w w' := by
  have Hm := Lib.hid (fun W => impl_placeOfSource x0 x1 x2 x3 x4 x5 x6 bv W hn)
  have hok := okPl_src (x2 := x2) h0 hn
  obtain ⟨c, hcd⟩ : ∃ c, c = decide (srcPlace (x0, x1, x2) ∈ S) := ⟨_, rfl⟩
  rw [← hcd]
  have Hget := Lib.hid (fun (W : World) (hW : PlMap W b n S) => (show (Instr.lookup 86 (.map (some b)) (plVal (srcPlace (x0, x1, x2))) false).run Try.prog W = .ok (.bool c) W by rw [hcd]; exact hW.get _ hok))
  clear hcd hok
  obtain ⟨⟨sr, sp, sn, si⟩, hsp⟩ : ∃ s, s = srcPlace (x0, x1, x2) := ⟨_, rfl⟩
  rw [← hsp] at Hm Hget
  clear hsp
  obtain ⟨hB, hc, hpl⟩ := hp
  have Hpl := Lib.hid hpl
  unfold plVal at Hm Hget
  dsimp only at Hm Hget
  clear hpl
  go_enter Try.func67, Try.ntmps67
  go_wp2_with fail
  have hx := Boxed.start w #[.int .i64 x0, .string (mk x1), .bool x2, .int .i64 x3, .int .i64 x4, .int .i64 x5, .int .i64 x6, bv] 53
  obtain ⟨W1, hW1⟩ : ∃ W1, W1 = w.alloc (.cells #[.int .i64 x0, .string (mk x1), .bool x2, .int .i64 x3, .int .i64 x4, .int .i64 x5, .int .i64 x6, bv] 53) := ⟨_, rfl⟩
  rw [← hW1] at hx ⊢
  have hb := hx.below
  have k0 := cell_regrown (show W1.cell? ⟨w.heap.size, 0, none⟩ = some (.int .i64 x0) from hx.cell 0)
  have k1 := cell_regrown (show W1.cell? ⟨w.heap.size, 1, none⟩ = some (.string (mk x1)) from hx.cell 1)
  have k2 := cell_regrown (show W1.cell? ⟨w.heap.size, 2, none⟩ = some (.bool x2) from hx.cell 2)
  have k3 := cell_regrown (show W1.cell? ⟨w.heap.size, 3, none⟩ = some (.int .i64 x3) from hx.cell 3)
  have k4 := cell_regrown (show W1.cell? ⟨w.heap.size, 4, none⟩ = some (.int .i64 x4) from hx.cell 4)
  have k5 := cell_regrown (show W1.cell? ⟨w.heap.size, 5, none⟩ = some (.int .i64 x5) from hx.cell 5)
  have k6 := cell_regrown (show W1.cell? ⟨w.heap.size, 6, none⟩ = some (.int .i64 x6) from hx.cell 6)
  have k7 := cell_regrown (show W1.cell? ⟨w.heap.size, 7, none⟩ = some bv from hx.cell 7)
  have j1 := cell_regrown ((hb.cell (p := ⟨B, 0, none⟩) hB).trans hc)
  have Hb := Lib.hid hb
  have qL : ∀ d os, (Instr.lookup 86 (.map (some b)) (.agg #[.int .i64 sr, .string (mk sp), .string (mk sn), .bool si]) false).run Try.prog (grow (redrawn W1 d) os) = .ok (.bool c) (grow (redrawn W1 d) os) := fun d os =>
    Hget.out _ ((Hpl.out.below Hb.out).below (below_regrown W1 d os))
  clear hx hb hW1 hc
  have cP : ∀ d os, Calls Try.prog 68 #[.agg #[.int .i64 x0, .string (mk x1), .bool x2, .int .i64 x3, .int .i64 x4, .int .i64 x5, .int .i64 x6, bv]] (grow (redrawn W1 d) os) fun e w'' => e = .returned (.agg #[.int .i64 sr, .string (mk sp), .string (mk sn), .bool si]) ∧ ∃ p : Regrown, w'' = grow (redrawn W1 p.d) p.os := fun d os =>
    Calls.regrown_of (Hm.out (grow (redrawn W1 d) os))
  refine wp_region_quiet_below (by kernel_rfl) (by kernel_rfl) ?_
  repeat (go_big_quiet_step (exact cP _ _))
  refine wpQuiet_nil ?_
  intro _ hw'
  obtain ⟨⟨dq, osq⟩, hw2⟩ := hw'
  subst hw2
  have Hb7 := Lib.hid (bt Hb.out (below_regrown W1 dq osq))
  clear cP k0 k1 k2 k3 k4 k5 k6 k7 j1 qL
  go_wp2_with fail
  go_ret
  exact ⟨rfl, Hb7.out⟩

/-! ### The functions of slices. -/
/-- What a store's rows need, so that their places can be told. -/
def TellC (ps : List (Cmp × Value)) : Prop := ∀ p ∈ ps, (0 ≤ p.1.root ∧ p.1.root ≤ 2) ∧ p.1.module.length ≤ 8000000
set_option maxRecDepth 100000 in
set_option maxHeartbeats 1000000 in
theorem slices_IndexP (W : World) (B b n : Nat) (S : List Pl) (a : Option Addr) (ca : Nat) (xs : List (Cmp × Value)) (w : World) (hW : Below W.heap.size W w) (hmp : MapAt W B b n S) (ht : TellC xs)
    (hown : OwnCmps w W.heap.size (.slice a xs.length ca) xs) (hn : xs.length ≤ 1000000) :
    Calls Try.prog 122 #[.slice a xs.length ca, .func (.func 67) #[] #[.pointer (some ⟨B, 0, none⟩)]] w
      fun e w' => (∃ r : Nat, r ≤ xs.length ∧ e = .returned (.int .i64 (if r = xs.length then -1 else r)) ∧ (∀ j (h : j < xs.length), j < r → keepP S xs[j] = true) ∧ (∀ h : r < xs.length, keepP S xs[r] = false)) ∧ Below w.heap.size w w' := by
  have Hmp := Lib.hid hmp
  have HW := Lib.hid hW
  have Ht := Lib.hid ht
  have Hown := Lib.hid hown
  clear hmp hW ht hown
  go_enter Try.func122, Try.ntmps122
  go_wp2_with fail
  go_loopw [8] (fun iv wr => ∃ k : Nat, k ≤ xs.length ∧ iv = .int .i64 k ∧ Below w.heap.size w wr ∧ ∀ j (h : j < xs.length), j < k → keepP S xs[j] = true) (fun iv _ => xs.length - (intOf iv).toNat)
  case atStart => exact ⟨0, by omega, rfl, Below.refl _ _, fun i _ h => absurd h (by omega)⟩
  case round =>
    obtain ⟨k, hk, rfl, hbel, ha⟩ := hrel
    have Ha := Lib.hid ha
    clear ha
    by_cases hlt : k < xs.length
    · have Hbel := Lib.hid hbel
      have hrow := (Hown.out.below hbel).1
      obtain ⟨g, cap, e1, hg, hg2⟩ := hrow.form (by omega)
      simp only [Value.slice.injEq] at e1
      obtain ⟨rfl, _, rfl⟩ := e1
      obtain ⟨⟨c0, c1, c2, c3, c4, c5, c6, c7⟩, _⟩ := own8 hrow k hlt
      have htl := Ht.out _ (List.getElem_mem hlt)
      obtain ⟨ab, cb, hsh⟩ := owns_shape ((Hown.out.below hbel).2.1 _ (List.getElem_mem hlt))
      have Hn := Lib.hid (fun (h : keepP S xs[k] = true) j (hj : j < xs.length) (hjk : j < k + 1) => (by
        by_cases e : j = k
        · subst e; exact h
        · exact Ha.out j hj (by omega) : keepP S xs[j] = true))
      clear hrow hbel
      obtain ⟨p, hs⟩ : ∃ p, p = xs[k] := ⟨_, rfl⟩
      rw [← hs] at c0 c1 c2 c3 c4 c5 c6 c7 htl hsh
      have Hs := Lib.hid hs
      clear hs
      obtain ⟨⟨x0, x1, x2, x3, x4, x5, x6, fb⟩, bv⟩ := p
      dsimp only at c0 c1 c2 c3 c4 c5 c6 c7 htl hsh
      subst hsh
      obtain ⟨ht0, ht1⟩ := htl
      have Ht0 := Lib.hid ht0
      clear ht0
      cases hq : keepP S (⟨x0, x1, x2, x3, x4, x5, x6, fb⟩, .slice ab fb.length cb)
      · have Hq := Lib.hid hq
        have Hd := Lib.hid (show decide (srcPlace (x0, x1, x2) ∈ S) = false from hq)
        clear hq
        go_wp2_with (go_at_call 67; refine (impl_PruneStore1 _ _ _ _ _ _ _ _ B b n S _ (Hmp.out.below (bt HW.out (bt Hbel.out (by (repeat (with_reducible first | exact Below.refl _ _ | assumption | refine ba ?_ _ | refine bd ?_ | refine bdN ?_ _ | refine bs ?_ (by first | exact Nat.le_refl _ | (dsimp only; omega) | (simp; done)) _ | refine bt ?_ (by assumption))))))) Ht0.out ht1).mono ?_; rintro _ w6 ⟨rfl, hb6⟩; rw [Hd.out])
        go_ret
        refine ⟨⟨k, by omega, ?_, fun j h1 h2 => Ha.out j h1 h2, fun h => by rw [← Hs.out]; exact Hq.out⟩, bt Hbel.out (by (repeat (with_reducible first | exact Below.refl _ _ | assumption | refine ba ?_ _ | refine bd ?_ | refine bdN ?_ _ | refine bs ?_ (by first | exact Nat.le_refl _ | (dsimp only; omega) | (simp; done)) _ | refine bt ?_ (by assumption))))⟩
        rw [if_neg (by omega)]; rfl
      · have Hq := Lib.hid hq
        have Hd := Lib.hid (show decide (srcPlace (x0, x1, x2) ∈ S) = true from hq)
        clear hq
        go_wp2_with (go_at_call 67; refine (impl_PruneStore1 _ _ _ _ _ _ _ _ B b n S _ (Hmp.out.below (bt HW.out (bt Hbel.out (by (repeat (with_reducible first | exact Below.refl _ _ | assumption | refine ba ?_ _ | refine bd ?_ | refine bdN ?_ _ | refine bs ?_ (by first | exact Nat.le_refl _ | (dsimp only; omega) | (simp; done)) _ | refine bt ?_ (by assumption))))))) Ht0.out ht1).mono ?_; rintro _ w6 ⟨rfl, hb6⟩; rw [Hd.out])
        go_roundw
        case rel => exact ⟨k + 1, by omega, by go_num, bt Hbel.out (by (repeat (with_reducible first | exact Below.refl _ _ | assumption | refine ba ?_ _ | refine bd ?_ | refine bdN ?_ _ | refine bs ?_ (by first | exact Nat.le_refl _ | (dsimp only; omega) | (simp; done)) _ | refine bt ?_ (by assumption)))), Hn.out (by rw [← Hs.out]; exact Hq.out)⟩
        case measure => simp [intOf]; omega
    · obtain rfl : k = xs.length := by omega
      go_wp2_with fail
      go_ret
      exact ⟨⟨xs.length, Nat.le_refl _, by rw [if_pos rfl]; rfl, fun j h1 h2 => Ha.out j h1 h2, fun h => absurd h (by omega)⟩, hbel⟩
set_option maxRecDepth 100000 in
set_option maxHeartbeats 4000000 in
theorem slices_DeleteP (W : World) (B b n : Nat) (S : List Pl) (a : Option Addr) (ca : Nat) (xs : List (Cmp × Value)) (w : World) (hW : Below W.heap.size W w) (hmp : MapAt W B b n S) (ht : TellC xs)
    (hown : OwnCmps w W.heap.size (.slice a xs.length ca) xs) (hn : xs.length ≤ 1000000) :
    Calls Try.prog 65 #[.slice a xs.length ca, .func (.func 67) #[] #[.pointer (some ⟨B, 0, none⟩)]] w
      fun e w' => (∃ v', e = .returned v' ∧ OwnCmps w' W.heap.size v' (xs.filter (keepP S))) ∧ Below W.heap.size W w' := by
  have Hmp := Lib.hid hmp
  have HW := Lib.hid hW
  have Ht := Lib.hid ht
  have Hown := Lib.hid hown
  clear hmp hW ht hown
  by_cases hall : ∀ s ∈ xs, keepP S s = true
  · have Hall := Lib.hid hall
    clear hall
    go_enter Try.func65, Try.ntmps65
    go_wp2_with (go_at_call 122; refine (slices_IndexP W B b n S a ca xs _ HW.out Hmp.out Ht.out Hown.out hn).mono ?_; rintro _ w5 ⟨⟨r, hrn, rfl, hr1, hr2⟩, hb5⟩; have hre : r = xs.length := Classical.byContradiction (fun h => by have h1 := hr2 (by omega); rw [Hall.out _ (List.getElem_mem (by omega))] at h1; cases h1); rw [if_pos hre]; have Hb5 := Lib.hid (bt HW.out hb5); have Hown5 := Lib.hid (Hown.out.below hb5); clear hr1 hr2 hb5)
    go_ret
    exact ⟨⟨_, rfl, by rw [List.filter_eq_self.2 Hall.out]; exact Hown5.out⟩, Hb5.out⟩
  · have Hno := Lib.hid hall
    clear hall
    go_enter Try.func65, Try.ntmps65
    go_wp2_with (go_at_call 122; refine (slices_IndexP W B b n S a ca xs _ HW.out Hmp.out Ht.out Hown.out hn).mono ?_; rintro _ w5 ⟨⟨r, hrn, rfl, hr1, hr2⟩, hb5⟩; have hre : r < xs.length := Classical.byContradiction (fun h => Hno.out (fun s hs => by obtain ⟨j, hj, e⟩ := List.getElem_of_mem hs; rw [← e]; exact hr1 j hj (by omega))); have hrm : ((r : Int) == -1) = false := (by rw [beq_eq_false_iff_ne]; omega); rw [if_neg (by omega)]; have Hb5 := Lib.hid (bt HW.out hb5); have Hown5 := Lib.hid (Hown.out.below hb5); have Hr1 := Lib.hid hr1; have Hr2 := Lib.hid hr2; clear hr1 hr2 hb5)
    obtain ⟨g, cap, e1, hg, hg2⟩ := Hown5.out.1.form (by omega)
    simp only [Value.slice.injEq] at e1
    obtain ⟨rfl, _, rfl⟩ := e1
    clear Hown HW
    have Hst := Lib.hid (show xs.take r = (xs.take (r + 1)).filter (keepP S) by
      rw [filter_snoc' _ xs r hre, if_neg (by rw [Hr2.out hre]; simp), List.append_nil]
      exact (List.filter_eq_self.2 (fun x hx => by
        obtain ⟨j, hj, e⟩ := List.getElem_of_mem hx
        rw [List.length_take] at hj
        rw [List.getElem_take] at e
        rw [← e]; exact Hr1.out j (by omega) (by omega))).symm)
    have Hgg := Lib.hid hg
    go_loopw [5, 6] (fun mv iv wr => ∃ (m i : Nat) (ys : List (Cmp × Value)), m < i ∧ i ≤ xs.length ∧ mv = .int .i64 m ∧ iv = .int .i64 i ∧ ys.length = xs.length ∧ ys.take m = (xs.take i).filter (keepP S) ∧ ys.drop i = xs.drop i ∧ wr.ownsRow W.heap.size 53 8 (.slice (some ⟨g, 0, none⟩) xs.length ca) xs.length (ys.flatMap cmpCells) ∧ OwnCmpBodies wr W.heap.size xs ∧ Below W.heap.size W wr) (fun _ iv _ => xs.length - (intOf iv).toNat)
    case atStart => exact ⟨r, r + 1, xs, by omega, by omega, rfl, by go_num, rfl, Hst.out, rfl, Hown5.out.1, Hown5.out.2, Hb5.out⟩
    case round =>
      obtain ⟨m, i, ys, hmi, hi, rfl, rfl, hl, h1, h2, hown, hbods, hbel⟩ := hrel
      have Hown := Lib.hid hown
      have Hbods := Lib.hid hbods
      have Hbel := Lib.hid hbel
      have H1 := Lib.hid h1
      have H2 := Lib.hid h2
      have Hl := Lib.hid hl
      clear h1 h2 Hst Hr1 Hr2 Hown5 Hb5 hl hre hrn hrm hbods
      by_cases hlt : i < xs.length
      · have hly : i < ys.length := by rw [Hl.out]; exact hlt
        obtain ⟨⟨c0, c1, c2, c3, c4, c5, c6, c7⟩, _⟩ := own8 hown i hly
        rw [keep_hereG hlt Hl.out H2.out] at c0 c1 c2 c3 c4 c5 c6 c7
        have htl := Ht.out _ (List.getElem_mem hlt)
        obtain ⟨ab, cb, hsh⟩ := owns_shape (Hbods.out.1 _ (List.getElem_mem hlt))
        have Hyes := Lib.hid (fun h => keep_setG (q := keepP S) hmi hlt Hl.out H1.out H2.out h)
        have Hnot := Lib.hid (fun h => keep_notG (q := keepP S) hlt H1.out H2.out h)
        have hgl := (hown.lt g rfl).2
        clear hown hbel hly
        obtain ⟨p, hs⟩ : ∃ p, p = xs[i] := ⟨_, rfl⟩
        rw [← hs] at c0 c1 c2 c3 c4 c5 c6 c7 htl hsh Hyes Hnot
        clear hs
        obtain ⟨⟨x0, x1, x2, x3, x4, x5, x6, fb⟩, bv⟩ := p
        dsimp only at c0 c1 c2 c3 c4 c5 c6 c7 htl hsh
        subst hsh
        obtain ⟨ht0, ht1⟩ := htl
        have Ht0 := Lib.hid ht0
        have hi1 : (i : Int) < (xs.length : Int) := by omega
        have hi0 : (0 : Int) ≤ (i : Int) := by omega
        have hm1 : (m : Int) < (xs.length : Int) := by omega
        have hm0 : (0 : Int) ≤ (m : Int) := by omega
        have Hb5 := Lib.hid (Boxed.start wr #[.int .i64 x0, .string (mk x1), .bool x2, .int .i64 x3, .int .i64 x4, .int .i64 x5, .int .i64 x6, .slice ab fb.length cb] 53)
        clear ht0
        cases hq : keepP S (⟨x0, x1, x2, x3, x4, x5, x6, fb⟩, .slice ab fb.length cb)
        · have Hq := Lib.hid hq
          have Hd := Lib.hid (show decide (srcPlace (x0, x1, x2) ∈ S) = false from hq)
          have Hn2 := Lib.hid (Hnot.out hq)
          clear hq
          go_wp2_with (go_at_call 67; refine (impl_PruneStore1 _ _ _ _ _ _ _ _ B b n S _ (Hmp.out.below (bt Hbel.out (by (repeat (with_reducible first | exact Below.refl _ _ | assumption | refine ba ?_ _ | refine bd ?_ | refine bdN ?_ _ | refine bs ?_ (by first | exact Nat.le_refl _ | (dsimp only; omega) | (simp; done)) _ | refine bt ?_ (by assumption)))))) Ht0.out ht1).mono ?_; rintro _ w6 ⟨rfl, hb6⟩; rw [Hd.out]; have Hx6 := Lib.hid (Hb5.out.step hb6))
          go_roundw
          case rel => exact ⟨m, i + 1, ys, by omega, by omega, rfl, by go_num, Hl.out, Hn2.out.1, Hn2.out.2, owns_below Hown.out Hx6.out.below, Hbods.out.below Hx6.out.below, bt Hbel.out Hx6.out.below⟩
          case measure => simp [intOf]; omega
        · have Hq := Lib.hid hq
          have Hd := Lib.hid (show decide (srcPlace (x0, x1, x2) ∈ S) = true from hq)
          have Hy2 := Lib.hid (Hyes.out hq)
          clear hq
          have hme : m < ys.length := by rw [Hl.out]; omega
          go_wp2_with (go_at_call 67; refine (impl_PruneStore1 _ _ _ _ _ _ _ _ B b n S _ (Hmp.out.below (bt Hbel.out (by (repeat (with_reducible first | exact Below.refl _ _ | assumption | refine ba ?_ _ | refine bd ?_ | refine bdN ?_ _ | refine bs ?_ (by first | exact Nat.le_refl _ | (dsimp only; omega) | (simp; done)) _ | refine bt ?_ (by assumption)))))) Ht0.out ht1).mono ?_; rintro _ w6 ⟨rfl, hb6⟩; rw [Hd.out]; have Hx6 := Lib.hid (Hb5.out.step hb6); obtain ⟨d0, d1, d2, d3, d4, d5, d6, d7⟩ := eight_of Hx6.out; obtain ⟨⟨e0, e1, e2, e3, e4, e5, e6, e7⟩, z0, z1, z2, z3, z4, z5, z6, z7⟩ := own8 (owns_below Hown.out Hx6.out.below) m hme)
          have Hr6 := Lib.hid (owns_below Hown.out Hx6.out.below)
          have Hput := Lib.hid (own8_put Hr6.out m hme (⟨x0, x1, x2, x3, x4, x5, x6, fb⟩, .slice ab fb.length cb))
          have Hg8 := Lib.hid (grown_set8 (grown_set8 (grown_set8 (grown_set8 (grown_set8 (grown_set8 (grown_set8 (grown_set8 (pb_refl w6 (some g)) (m * 8) (.int .i64 x0)) (m * 8 + 1) (.string (mk x1))) (m * 8 + 2) (.bool x2)) (m * 8 + 3) (.int .i64 x3)) (m * 8 + 4) (.int .i64 x4)) (m * 8 + 5) (.int .i64 x5)) (m * 8 + 6) (.int .i64 x6)) (m * 8 + 7) (.slice ab fb.length cb))
          have Hbx := Lib.hid (Hbods.out.below Hx6.out.below)
          have Hbw := Lib.hid ((bt Hbel.out Hx6.out.below).grown Hg8.out (bt Hbel.out Hx6.out.below).size (fun k e => by cases e; exact Hgg.out))
          go_roundw
          case rel => exact ⟨m + 1, i + 1, ys.set m (⟨x0, x1, x2, x3, x4, x5, x6, fb⟩, .slice ab fb.length cb), by omega, by omega, by go_num, by go_num, by rw [List.length_set]; exact Hl.out, Hy2.out.1, Hy2.out.2, Hput.out, cbods_grown Hbx.out Hg8.out (fun b hb p hp => own_types (by decide) Hr6.out (Hbx.out.1 p hp) hb), Hbw.out⟩
          case measure => simp [intOf]; omega
      · obtain rfl : i = xs.length := by omega
        have hlc : xs.length ≤ ca := by
          rcases hown.2 with ⟨h', _⟩ | ⟨g', cap', cur, h', _, _, hnc, _⟩
          · simp at h'
          · simp only [Value.slice.injEq, Option.some.injEq, Addr.mk.injEq, and_true, true_and] at h'
            obtain ⟨rfl, rfl⟩ := h'
            exact hnc
        have hmc : ¬ ca = m := by omega
        have hmca : (m : Int) ≤ (ca : Int) := by omega
        have hfl := fm_len cmpCells 8 ys cmpCells_len
        rw [Hl.out] at hfl
        obtain ⟨vs, hvs⟩ : ∃ vs, vs = (Builtin.zeroCells (Value.agg #[.int .i64 0, .string ByteArray.empty, .bool false, .int .i64 0, .int .i64 0, .int .i64 0, .int .i64 0, .slice none 0 0]).cells (xs.length - m)).toList := ⟨_, rfl⟩
        have hvl : vs.length = (xs.length - m) * 8 := by rw [hvs, zeroCells_len]; rfl
        have hcl : ∀ ty, (Builtin.clear_ #[28] ty #[.slice (some ⟨g, m * 8, none⟩) (xs.length - m) (ca - m)]).run Try.prog wr = .ok (.tuple #[]) (wr.setCells g (m * 8) vs) := fun ty =>
          run_clear_cells wr _ _ ty _ Try.underlying28 cmpZero g (m * 8) _ _ ((xs.length - m) * 8) (by omega) vs hvs.symm hvl (by rw [hvs]; exact zero8_one _) (fun j hj => by rw [hown.cellAt (m * 8 + j) (by omega), List.getElem?_eq_getElem (by omega)]; rfl) (fun j hj => hown.frozenAt (m * 8 + j))
        have Hcell := Lib.hid (owns_cellsP vs (m * 8) wr _ hown (by omega))
        have Hvl := Lib.hid hvl
        have Hfl := Lib.hid hfl
        clear hown hbel hvs hvl hfl
        go_wp2_with fail
        go_ret
        have h1 := H1.out
        rw [List.take_length] at h1
        have hfm : (xs.filter (keepP S)).length = m := by rw [← h1, List.length_take, Hl.out]; omega
        have hfr := owns_frontP Hcell.out m (by omega)
        have htk : (ys.flatMap cmpCells).take (m * 8) = (xs.filter (keepP S)).flatMap cmpCells := by
          have hA := fm_take_len cmpCells 8 ys m (by rw [Hl.out]; omega) cmpCells_len
          have e2 := fm_split cmpCells ys m (by rw [Hl.out]; omega)
          rw [← h1, e2, List.take_left' hA]
        rw [List.take_append_of_le_length (by rw [List.length_take, Hfl.out]; omega), List.take_take, Nat.min_self, htk] at hfr
        have hbs := below_tailP (Nat.le_refl g) vs (m * 8) (Below.refl g wr)
        have hgs : wr.grownBy (wr.setCells g (m * 8) vs) (some g) := ⟨hbs.os, hbs.tape, hbs.output, hbs.size, fun j _ hne => heap_setCellsP g vs (m * 8) wr j (fun e => hne (by rw [e]))⟩
        refine ⟨⟨_, rfl, ?_, ?_⟩, below_tailP hg _ _ Hbel.out⟩
        · rw [hfm]; exact hfr
        · exact (cbods_grown Hbods.out hgs (fun b hb p hp => own_types (by decide) Hown.out (Hbods.out.1 p hp) hb)).filter _
set_option maxRecDepth 100000 in
set_option maxHeartbeats 4000000 in
theorem impl_PruneStore (lv : Value) (cs : List Cmp) (qs : List (Cmp × Value)) (Bc : Nat) (v : Value) (fs : List Fil) (D : Nat → Prop) (w : World) (hq : RowsC8 w Bc lv qs) (hqs : qs.map (·.1) = cs) (hz : ShortCs 1048576 cs) (hl : cmpsCost' cs) (h : FilsIn w D v fs) (hfz : ShortT 1048576 fs) (hfl : filsCost' fs) :
    Calls Try.prog 19 #[lv, .agg #[v]] w (NewCmps (prune cs fs) w) := by
  subst hqs
  have HQ := Lib.hid hq
  have Hr := Lib.hid (hq.fils (D := fun _ => True) (fun _ _ => trivial))
  have Hz20 := Lib.hid (shortCs_mono (B := 2000000) (by omega) hz)
  have Hlc := Lib.hid hl
  have HF := Lib.hid h
  have Hfz8 := Lib.hid (shortT_mono (B := 8000000) (by omega) hfz)
  obtain ⟨la, lc, rfl⟩ := hq.len
  obtain ⟨aa, ca, rfl, hal, ham⟩ := h.len
  unfold maxLen at ham
  have Hqn := Lib.hid (show qs.length ≤ 1048576 by have := hl.1; simpa using this)
  have Hqb := Lib.hid (fun (p : Cmp × Value) (hp : p ∈ qs) => hl.2 _ (List.mem_map.2 ⟨p, hp, rfl⟩))
  clear hq hz hl h hfz hfl
  have Hb0 := Lib.hid (Boxed.start w #[.slice aa fs.length ca] 33)
  cases h1 : okStore (qs.map (·.1))
  · have H1 := Lib.hid h1
    have Hs := Lib.hid (prune_none (cs := qs.map (·.1)) (t := fs) (by rw [h1]; rfl))
    clear h1
    go_enter Try.func19, Try.ntmps19
    go_wp2_with (go_at_call 31; refine (impl_ValidStore _ (qs.map (·.1)) _ _ (Hr.out.below (by (repeat (with_reducible first | exact Below.refl _ _ | assumption | refine ba ?_ _ | refine bd ?_ | refine bdN ?_ _ | refine bs ?_ (by first | exact Nat.le_refl _ | (dsimp only; omega) | (simp; done)) _ | refine bt ?_ (by assumption))))) Hz20.out).mono ?_; rintro _ w5 ⟨rfl, hb5⟩; rw [H1.out])
    go_ret
    exact newCmps_none Hs.out (by (repeat (with_reducible first | exact Below.refl _ _ | assumption | refine ba ?_ _ | refine bd ?_ | refine bdN ?_ _ | refine bs ?_ (by first | exact Nat.le_refl _ | (dsimp only; omega) | (simp; done)) _ | refine bt ?_ (by assumption))))
  cases h2 : okTree fs
  · have H1 := Lib.hid h1
    have H2 := Lib.hid h2
    have Hs := Lib.hid (prune_none (cs := qs.map (·.1)) (t := fs) (by rw [h2, Bool.and_false]))
    clear h1 h2
    go_enter Try.func19, Try.ntmps19
    go_wp2_with (first
      | (go_at_call 31; refine (impl_ValidStore _ (qs.map (·.1)) _ _ (Hr.out.below (by (repeat (with_reducible first | exact Below.refl _ _ | assumption | refine ba ?_ _ | refine bd ?_ | refine bdN ?_ _ | refine bs ?_ (by first | exact Nat.le_refl _ | (dsimp only; omega) | (simp; done)) _ | refine bt ?_ (by assumption))))) Hz20.out).mono ?_; rintro _ w5 ⟨rfl, hb5⟩; rw [H1.out]; have Hx5 := Lib.hid (Hb0.out.step hb5); have x0 : w5.cell? ⟨w.heap.size, 0, none⟩ = some (.slice aa fs.length ca) := Hx5.out.cell 0; have xs := Hx5.out.lt)
      | (go_at_call 51; refine (impl_ValidTree _ _ _ _ (HF.out.below (by have := Hx5.out.below; (repeat (with_reducible first | exact Below.refl _ _ | assumption | refine ba ?_ _ | refine bd ?_ | refine bdN ?_ _ | refine bs ?_ (by first | exact Nat.le_refl _ | (dsimp only; omega) | (simp; done)) _ | refine bt ?_ (by assumption))))) Hfz8.out).mono ?_; rintro _ w6 ⟨rfl, hb6⟩; rw [H2.out]))
    go_ret
    exact newCmps_none Hs.out (bt Hx5.out.below hb6)
  have H1 := Lib.hid h1
  have H2 := Lib.hid h2
  have Hs := Lib.hid (prune_at h1 h2)
  have h12 : fs.length ≤ 12 := (okTree_all h2).2.2
  have hq12 : qs.length ≤ 12 := by have := (okStore_facts h1).2.2; simpa using this
  have Hpls := Lib.hid (okPls_of (okTree_all h2).1)
  have Htl := Lib.hid (fun (ns : List (Cmp × Value)) (e : ns.map (·.1) = qs.map (·.1)) => tell_of (ps := ns) (by rw [e]; exact h1))
  have Hmk := Lib.hid (fun (ns : List (Cmp × Value)) (e : ns.map (·.1) = qs.map (·.1)) => (show (ns.filter (keepP (dedup (fs.map place)))).map (·.1) = prune (qs.map (·.1)) fs by
    rw [prune_at h1 h2, ← e]
    exact map_keep h2 (fun c hc => okCmp_vn ((okStore_facts h1).1 c (by rw [← e]; exact hc)))))
  have hmf : ∀ (fn : Fn) (first cap : Array Value) (w : World), (Instr.makeFunc fn first cap).run Try.prog w = .ok (.func fn first cap) w := fun _ _ _ _ => rfl
  clear h1 h2
  go_enter Try.func19, Try.ntmps19
  go_wp2_with (first
    | (go_at_call 31; refine (impl_ValidStore _ (qs.map (·.1)) _ _ (Hr.out.below (by (repeat (with_reducible first | exact Below.refl _ _ | assumption | refine ba ?_ _ | refine bd ?_ | refine bdN ?_ _ | refine bs ?_ (by first | exact Nat.le_refl _ | (dsimp only; omega) | (simp; done)) _ | refine bt ?_ (by assumption))))) Hz20.out).mono ?_; rintro _ w5 ⟨rfl, hb5⟩; rw [H1.out]; have Hx5 := Lib.hid (Hb0.out.step hb5); have x0 : w5.cell? ⟨w.heap.size, 0, none⟩ = some (.slice aa fs.length ca) := Hx5.out.cell 0; have xs := Hx5.out.lt)
    | (go_at_call 51; refine (impl_ValidTree _ _ _ _ (HF.out.below (by have := Hx5.out.below; (repeat (with_reducible first | exact Below.refl _ _ | assumption | refine ba ?_ _ | refine bd ?_ | refine bdN ?_ _ | refine bs ?_ (by first | exact Nat.le_refl _ | (dsimp only; omega) | (simp; done)) _ | refine bt ?_ (by assumption))))) Hfz8.out).mono ?_; rintro _ w6 ⟨rfl, hb6⟩; rw [H2.out]; have Hx6 := Lib.hid (Hx5.out.step hb6); have hz6 := Hx6.out.lt; have y0 : w6.cell? ⟨w.heap.size, 0, none⟩ = some (.slice aa fs.length ca) := Hx6.out.cell 0)
    | (go_at_call 64; refine (impl_placesOf _ fs _ _ (HF.out.below (by have := Hx6.out.below; (repeat (with_reducible first | exact Below.refl _ _ | assumption | refine ba ?_ _ | refine bd ?_ | refine bdN ?_ _ | refine bs ?_ (by first | exact Nat.le_refl _ | (dsimp only; omega) | (simp; done)) _ | refine bt ?_ (by assumption))))) Hpls.out (by omega)).mono ?_; rintro _ w7 ⟨b, rfl, hb, hpl7, hb7⟩; have Hx7 := Lib.hid (Hx6.out.step hb7); have Hpl7 := Lib.hid hpl7; have hz7 := Hx7.out.lt; clear hpl7)
    | (go_at_call 66; refine (impl_copyStore _ qs Bc _ (HQ.out.below (by have := Hx7.out.below; (repeat (with_reducible first | exact Below.refl _ _ | assumption | refine ba ?_ _ | refine bd ?_ | refine bdN ?_ _ | refine bs ?_ (by first | exact Nat.le_refl _ | (dsimp only; omega) | (simp; done)) _ | refine bt ?_ (by assumption))))) Hqn.out Hqb.out).mono ?_; rintro _ w8 ⟨v8, ns, rfl, hns, hown8, hb8⟩; have Hown8 := Lib.hid hown8; have Hns := Lib.hid hns; have Hb8 := Lib.hid hb8; obtain ⟨a8, c8, hv8⟩ := hown8.len; subst hv8; clear hown8 hns hb8)
    | (go_at_call 65; refine (slices_DeleteP (w7.alloc (.cells #[.map (some b)] 86)) w7.heap.size b fs.length _ a8 c8 ns _ Hb8.out ⟨by simp, (BoxC.start w7 #[.map (some b)] 86).2 0, Hpl7.out.below (ba (Below.refl _ _) _)⟩ (Htl.out ns Hns.out) Hown8.out (by have := congrArg List.length Hns.out; simp at this; omega)).mono ?_; rintro _ w9 ⟨⟨v9, rfl, hown9⟩, hb9⟩; have Hown9 := Lib.hid hown9; have Hb9 := Lib.hid hb9; clear hown9 hb9))
  go_ret
  refine ⟨_, _, rfl, Hmk.out ns Hns.out, Hown9.out.mono (by have := Hx7.out.below.size; simp; omega), ?_⟩
  have h7 := Hx7.out.below
  exact (ba h7 (.cells #[.map (some b)] 86)).trans (Hb9.out.mono (by have := h7.size; simp; omega))
theorem prune_fine (cs : List Cmp) (t : List Fil) : (∀ c ∈ prune cs t, okBody c.body = true) ∧ (prune cs t).length ≤ 12 := by
  cases h : (okStore cs && okTree t)
  · rw [prune_none h]; simp
  · simp only [Bool.and_eq_true] at h
    obtain ⟨h1, h2⟩ := h
    rw [prune_at h1 h2]
    obtain ⟨f1, _, f3⟩ := okStore_facts h1
    exact ⟨fun c hc => okCmp_body (f1 c (List.mem_filter.1 hc).1), Nat.le_trans (List.length_filter_le _ _) f3⟩
end Go.Proofs.Ytomdmkhgkaalnaa
