/- A store without what is gone: copies of one entry, and the contract of the model's PruneStore. -/
import Derived.Test.YtomdmkhgkaalnaaSLoad
set_option linter.unusedVariables false
set_option linter.unusedSimpArgs false
namespace Go.Proofs.Ytomdmkhgkaalnaa
open Go.RowKit Go.Proofs.Ytomdmkhgkaalnaa.Nm
open Go.Sort (grow)

/-- The entries lie in block g from the cell off on; their bodies are own rows. -/
def RowsC (w : World) (B g off : Nat) (ps : List (Cmp × Value)) : Prop :=
  (∀ k (h : k < ps.length), w.cell? ⟨g, off + k * 8, none⟩ = some (.int .i64 ps[k].1.root) ∧ w.cell? ⟨g, off + k * 8 + 1, none⟩ = some (.string (mk ps[k].1.module)) ∧ w.cell? ⟨g, off + k * 8 + 2, none⟩ = some (.bool ps[k].1.init) ∧ w.cell? ⟨g, off + k * 8 + 3, none⟩ = some (.int .i64 ps[k].1.mode) ∧ w.cell? ⟨g, off + k * 8 + 4, none⟩ = some (.int .i64 ps[k].1.stamp) ∧ w.cell? ⟨g, off + k * 8 + 5, none⟩ = some (.int .i64 ps[k].1.size) ∧ w.cell? ⟨g, off + k * 8 + 6, none⟩ = some (.int .i64 ps[k].1.hash) ∧ w.cell? ⟨g, off + k * 8 + 7, none⟩ = some ps[k].2) ∧
  ∀ p ∈ ps, w.ownsRow B 124 5 p.2 p.1.body.length (p.1.body.flatMap stmCells)
theorem RowsC.below {w w' : World} {B g off : Nat} {ps : List (Cmp × Value)} (h : RowsC w B g off ps) (hg : g < w.heap.size) (hb : Below w.heap.size w w') : RowsC w' B g off ps := by
  refine ⟨fun k hk => ?_, fun p hp => owns_below (h.2 p hp) hb⟩
  obtain ⟨h0, h1, h2, h3, h4, h5, h6, h7⟩ := h.1 k hk
  have hc : ∀ o, w'.cell? ⟨g, o, none⟩ = w.cell? ⟨g, o, none⟩ := fun o => hb.cell (p := ⟨g, o, none⟩) hg
  simp only [hc]
  exact ⟨h0, h1, h2, h3, h4, h5, h6, h7⟩
/-- One entry of an own store. -/
theorem RowsC8.rowC {w : World} {B g n ca : Nat} {ps : List (Cmp × Value)} (h : RowsC8 w B (.slice (some ⟨g, 0, none⟩) n ca) ps) (hn : n = ps.length) (i : Nat) (hi : i < ps.length) : RowsC w B g (i * 8) [ps[i]] := by
  subst hn
  obtain ⟨h0, _⟩ := own8 h.1 i hi
  refine ⟨fun k hk => ?_, fun p hp => ?_⟩
  · obtain rfl : k = 0 := by simpa using hk
    simpa using h0
  · simp at hp; subst hp; exact h.2.1 _ (List.getElem_mem hi)

set_option maxRecDepth 100000 in
set_option maxHeartbeats 4000000 in
theorem spec_copyStoreAt (g off ca : Nat) (ps : List (Cmp × Value)) (B : Nat) (w : World) (hg : g < w.heap.size) (hm : ps.length ≤ ca) (h : RowsC w B g off ps) (hl : ps.length ≤ 1048576) (hbl : ∀ p ∈ ps, p.1.body.length ≤ 1048576) :
    Calls Try.prog 61 #[.slice (some ⟨g, off, none⟩) ps.length ca] w (NewCmps (ps.map (·.1)) w) := by
  obtain ⟨i0, hi, hz0, hz1, hz2⟩ := info_parts infoCmp
  obtain ⟨i1, hi1, hy0, hy1, hy2⟩ := info_parts infoStm
  have Hi := Lib.hid hi
  have Hz0 := Lib.hid hz0
  have Hz1 := Lib.hid hz1
  have Hz2 := Lib.hid hz2
  have Hi1 := Lib.hid hi1
  have Hy0 := Lib.hid hy0
  have Hy1 := Lib.hid hy1
  have Hy2 := Lib.hid hy2
  have H := Lib.hid h
  have Hbl := Lib.hid hbl
  clear h hbl hi hz0 hz1 hz2 hi1 hy0 hy1 hy2
  go_enter Try.func61, Try.ntmps61
  go_wp2_with fail
  go_loopw [3, 4] (fun ov iv wr => ∃ (k : Nat) (qs : List (Cmp × Value)), k ≤ ps.length ∧ iv = .int .i64 k ∧ qs.map (·.1) = (ps.map (·.1)).take k ∧ OwnCmps wr w.heap.size ov qs ∧ Below w.heap.size w wr) (fun _ iv _ => ps.length - (intOf iv).toNat)
  case atStart => exact ⟨0, [], by omega, rfl, rfl, ⟨World.ownsRow_made (base := w.heap.size) (size := 8) (e := 53) _ #[] 0 (Nat.le_refl _) (by unfold maxLen; omega) (by simp), OwnCmpBodies.nil _ _⟩, by (repeat (with_reducible first | exact Below.refl _ _ | assumption | refine ba ?_ _ | refine bd ?_ | refine bdN ?_ _ | refine bs ?_ (by first | exact Nat.le_refl _ | (dsimp only; omega) | (simp; done)) _ | refine bt ?_ (by assumption)))⟩
  case round =>
    obtain ⟨k, qs, hk, rfl, hqs, hown, hbel⟩ := hrel
    obtain ⟨oa, oc, rfl⟩ := hown.len
    have hsz := hbel.size
    have hql : qs.length ≤ 1048576 := by
      have h := congrArg List.length hqs
      simp at h
      omega
    have Hqs := Lib.hid hqs
    have Hown := Lib.hid hown
    have Hbel := Lib.hid hbel
    clear hqs hown
    by_cases hlt : k < ps.length
    · obtain ⟨c0, c1, c2, c3, c4, c5, c6, c7⟩ := (H.out.below hg hbel).1 k hlt
      have Hbody := Lib.hid ((H.out.below hg hbel).2 _ (List.getElem_mem hlt))
      have Hbk := Lib.hid (Hbl.out _ (List.getElem_mem hlt))
      have Hsn := Lib.hid (show (ps.map (·.1)).take (k + 1) = (ps.map (·.1)).take k ++ [ps[k].1] by rw [set_take _ k (by simpa using hlt)]; simp)
      have hk1 : (k : Int) < (ps.length : Int) := by omega
      have hk0 : (0 : Int) ≤ (k : Int) := by omega
      obtain ⟨p, hp⟩ : ∃ p, p = ps[k] := ⟨_, rfl⟩
      rw [← hp] at c0 c1 c2 c3 c4 c5 c6 c7 Hbody Hbk Hsn
      clear hp hbel
      obtain ⟨⟨x0, x1, x2, x3, x4, x5, x6, fb⟩, bv⟩ := p
      dsimp only at c0 c1 c2 c3 c4 c5 c6 c7 Hbody Hbk Hsn
      have hfb : fb.length ≤ 1048576 := Hbk.out
      obtain ⟨ab, cb, rfl⟩ := owns_shape Hbody.out
      obtain ⟨W5, hW5⟩ : ∃ W, W = (wr.alloc (.cells #[.int .i64 x0, .string (mk x1), .bool x2, .int .i64 x3, .int .i64 x4, .int .i64 x5, .int .i64 x6, .slice ab fb.length cb] 53)).alloc (.cells #[] 124) := ⟨_, rfl⟩
      have HW5 := Lib.hid hW5
      have Hx5 := Lib.hid (show Boxed wr #[.int .i64 x0, .string (mk x1), .bool x2, .int .i64 x3, .int .i64 x4, .int .i64 x5, .int .i64 x6, .slice ab fb.length cb] 53 W5 by rw [hW5]; exact (Boxed.start wr _ _).step (ba (Below.refl _ _) _))
      have Hm5 := Lib.hid (show W5.ownsRow (wr.heap.size + 1) 124 5 (.slice (some ⟨wr.heap.size + 1, 0, none⟩) 0 0) 0 [] by rw [hW5]; exact made_at _ _ _ 5 _ (by simp) (by simp))
      have Hs5 := Lib.hid (owns_below Hbody.out Hx5.out.below)
      have hz5 : wr.heap.size + 1 ≤ W5.heap.size := by rw [hW5]; simp
      obtain ⟨d0, d1, d2, d3, d4, d5, d6, d7⟩ := eight_of Hx5.out
      clear hW5
      go_upto_region 6 with fail
      go_upto_region 7 with (at_builtin; rw [← HW5.out]; refine wpList_append_both rfl _ _ 51 rfl (wr.heap.size + 1) 124 i1 _ 5 56 Try.underlying51 Hi1.out Hy0.out Hy1.out Hy2.out rfl (by decide) _ 0 _ rfl Hm5.out B _ fb.length _ rfl Hs5.out (stm_one fb) (by unfold maxLen; omega) (by omega) hz5 ?_; intro v6 w6 hown6 hgrow6; rw [Nat.zero_add, List.nil_append] at hown6; obtain ⟨a6, c6', hv6⟩ := owns_shape hown6; subst hv6; have Hown6 := Lib.hid hown6; have Hx6 := Lib.hid (show Boxed wr _ _ w6 from Below.grown Hx5.out hgrow6 Hx5.out.size (fun g hg => by have := (Hm5.out.lt g hg).1; simp; omega)); obtain ⟨e0, e1, e2, e3, e4, e5, e6, e7⟩ := eight_of Hx6.out; have z7 := cs_free Hx6.out 7; clear hown6 hgrow6 d0 d1 d2 d3 d4 d5 d6 d7)
      have hl6 := Hx6.out.lt
      have Hb6 := Lib.hid (show Below wr.heap.size wr (w6.setCell ⟨wr.heap.size, 7, none⟩ (.slice a6 fb.length c6')) from bs Hx6.out.below (Nat.le_refl _) _)
      have Hown6f := Lib.hid (show (w6.setCell ⟨wr.heap.size, 7, none⟩ (.slice a6 fb.length c6')).ownsRow w.heap.size 53 8 (.slice oa qs.length oc) qs.length (qs.flatMap cmpCells) from owns_set_other (owns_below Hown.out.1 Hx6.out.below) (fun b hb => by have := (Hown.out.1.lt b hb).2; dsimp only; omega) _)
      go_wp2_with (at_builtin; refine wpList_append_own _ rfl _ _ 28 rfl w.heap.size 53 i0 _ 8 88 Try.underlying28 Hi.out Hz0.out Hz1.out Hz2.out rfl (by decide) _ qs.length _ rfl (Hown6f.out.alloc _) ⟨_, 0, none⟩ 1 1 (cmpCells (⟨x0, x1, x2, x3, x4, x5, x6, fb⟩, .slice a6 fb.length c6')) rfl rfl ?_ (cmp_one _ ⟨_, _, _, rfl⟩) (by unfold maxLen; omega) (by omega) (by simp; omega) ?_; (exact ct_cells _ (cmpCells (⟨x0, x1, x2, x3, x4, x5, x6, fb⟩, .slice a6 fb.length c6')).toArray _ _ (by first | rfl | simp)); intro v7 w7 hown7 hgrow7 hnil7)
      have HbW := Lib.hid (show Below wr.heap.size wr ((w6.setCell ⟨wr.heap.size, 7, none⟩ (.slice a6 fb.length c6')).alloc (.cells (cmpCells (⟨x0, x1, x2, x3, x4, x5, x6, fb⟩, .slice a6 fb.length c6')).toArray 53)) from ba Hb6.out _)
      have Hq7 := Lib.hid (show ((w6.setCell ⟨wr.heap.size, 7, none⟩ (.slice a6 fb.length c6')).alloc (.cells (cmpCells (⟨x0, x1, x2, x3, x4, x5, x6, fb⟩, .slice a6 fb.length c6')).toArray 53)).ownsRow wr.heap.size 124 5 (.slice a6 fb.length c6') fb.length (fb.flatMap stmCells) from (owns_set_other (owns_mono Hown6.out (by omega)) (fun b hb => by have := (Hown6.out.lt b hb).1; dsimp only; omega) _).alloc _)
      have Hx7 := Lib.hid (cs_grown Hbel.out HbW.out hgrow7 (fun g hg => (Hown.out.1.lt g hg).1))
      have Hf7 := Lib.hid (cmps_snoc (q := (⟨x0, x1, x2, x3, x4, x5, x6, fb⟩, .slice a6 fb.length c6')) Hown.out HbW.out hsz Hq7.out hgrow7 hown7)
      have Hmp7 := Lib.hid (show (qs ++ [((⟨x0, x1, x2, x3, x4, x5, x6, fb⟩ : Cmp), Value.slice a6 fb.length c6')]).map (·.1) = (ps.map (·.1)).take (k + 1) by rw [List.map_append, Hqs.out, Hsn.out]; rfl)
      clear hown7 hgrow7 hnil7
      go_roundw
      case rel => exact ⟨k + 1, _, by omega, by go_num, Hmp7.out, Hf7.out, Hx7.out⟩
      case measure => simp [intOf]; omega
    · obtain rfl : k = ps.length := by omega
      have Hf := Lib.hid (show qs.map (·.1) = ps.map (·.1) by rw [Hqs.out, List.take_of_length_le (by simp)])
      go_wp2_with fail
      go_ret
      exact ⟨_, qs, rfl, Hf.out, Hown.out, hbel⟩
def inTree (t : List Fil) (c : Cmp) : Bool := t.any (fun f => decide (fplace f = cplace c))
def prune (cs : List Cmp) (t : List Fil) : List Cmp := if okStore cs && okTree t then cs.filter (inTree t) else []
theorem prune_none {cs : List Cmp} {t : List Fil} (h : (okStore cs && okTree t) = false) : prune cs t = [] := by unfold prune; rw [h]; rfl
theorem prune_at {cs : List Cmp} {t : List Fil} (h1 : okStore cs = true) (h2 : okTree t = true) : prune cs t = cs.filter (inTree t) := by unfold prune; rw [h1, h2]; rfl
theorem any_snoc {α : Type} (q : α → Bool) (l : List α) (k : Nat) (h : k < l.length) : (l.take (k + 1)).any q = ((l.take k).any q || q l[k]) := by
  rw [List.take_succ_eq_append_getElem h, List.any_append]; simp
theorem filter_snoc' {α : Type} (q : α → Bool) (l : List α) (k : Nat) (h : k < l.length) : (l.take (k + 1)).filter q = (l.take k).filter q ++ (if q l[k] = true then [l[k]] else []) := by
  rw [List.take_succ_eq_append_getElem h, List.filter_append]; congr 1; simp [List.filter_cons]
theorem newCmps_none {cs : List Cmp} {w w' : World} (h : cs = []) (hb : Below w.heap.size w w') : NewCmps cs w (.returned (.slice none 0 0)) w' := by
  subst h; exact ⟨_, [], rfl, rfl, ⟨World.ownsRow_nil _ _ _ _, OwnCmpBodies.nil _ _⟩, hb⟩
theorem one_of {ns : List (Cmp × Value)} {c : Cmp} (h : ns.map (·.1) = [c]) : ∃ nb, ns = [(c, nb)] := by
  match ns, h with
  | [(a, b)], h => simp at h; subst h; exact ⟨b, rfl⟩
set_option maxRecDepth 100000 in
set_option maxHeartbeats 4000000 in
theorem spec_PruneStore (lv : Value) (cs : List Cmp) (qs : List (Cmp × Value)) (Bc : Nat) (v : Value) (fs : List Fil) (ps : List (Fil × Value)) (B : Nat) (w : World) (hq : RowsC8 w Bc lv qs) (hqs : qs.map (·.1) = cs) (hz : ShortCs 1048576 cs) (hl : cmpsCost' cs) (h : RowsFB w B v ps) (hps : ps.map (·.1) = fs) (hfz : ShortT 1048576 fs) (hfl : filsCost' fs) :
    Calls Try.prog 16 #[lv, .agg #[v]] w (NewCmps (prune cs fs) w) := by
  subst hps hqs
  obtain ⟨i0, hi, hz0, hz1, hz2⟩ := info_parts infoCmp
  have Hi := Lib.hid hi
  have Hz0 := Lib.hid hz0
  have Hz1 := Lib.hid hz1
  have Hz2 := Lib.hid hz2
  have HQ := Lib.hid hq
  have Hr := Lib.hid (hq.fils (D := fun _ => True) (fun _ _ => trivial))
  have Hz20 := Lib.hid (shortCs_mono (B := 2000000) (by omega) hz)
  have Hlc := Lib.hid hl
  have H := Lib.hid h
  have Hfz := Lib.hid hfz
  have HF := Lib.hid (h.fils (D := fun _ => True) (fun _ _ => trivial))
  have Hfz8 := Lib.hid (shortT_mono (B := 3000000) (by omega) hfz)
  obtain ⟨la, lc, rfl⟩ := hq.len
  obtain ⟨_, _, e, hlcap, hlm⟩ := Hr.out.len
  rw [List.length_map] at hlcap
  simp only [Value.slice.injEq] at e
  obtain ⟨rfl, heq, rfl⟩ := e
  clear heq
  unfold maxLen at hlm
  obtain ⟨aa, ca, rfl⟩ := h.len
  clear hq hz hl h hfz hfl hi hz0 hz1 hz2
  have Hb0 := Lib.hid (Boxed.start w #[.slice aa ps.length ca] 33)
  have Hlen := Lib.hid (show (qs.map (·.1)).length = qs.length by simp)
  cases h1 : okStore (qs.map (·.1))
  · have H1 := Lib.hid h1
    have Hs := Lib.hid (prune_none (cs := qs.map (·.1)) (t := ps.map (·.1)) (by rw [h1]; rfl))
    clear h1
    go_enter Try.func16, Try.ntmps16
    go_wp2_with (go_at_call 58; refine (spec_validStore _ (qs.map (·.1)) (fun _ => True) _ (Hr.out.below (by (repeat (with_reducible first | exact Below.refl _ _ | assumption | refine ba ?_ _ | refine bd ?_ | refine bdN ?_ _ | refine bs ?_ (by first | exact Nat.le_refl _ | (dsimp only; omega) | (simp; done)) _ | refine bt ?_ (by assumption))))) Hz20.out).mono ?_; rintro _ w5 ⟨rfl, hb5⟩; rw [H1.out])
    go_ret
    exact newCmps_none Hs.out (by (repeat (with_reducible first | exact Below.refl _ _ | assumption | refine ba ?_ _ | refine bd ?_ | refine bdN ?_ _ | refine bs ?_ (by first | exact Nat.le_refl _ | (dsimp only; omega) | (simp; done)) _ | refine bt ?_ (by assumption))))
  cases h2 : okTree (ps.map (·.1))
  · have H1 := Lib.hid h1
    have H2 := Lib.hid h2
    have Hs := Lib.hid (prune_none (cs := qs.map (·.1)) (t := ps.map (·.1)) (by rw [h2, Bool.and_false]))
    clear h1 h2
    go_enter Try.func16, Try.ntmps16
    go_wp2_with (first
      | (go_at_call 58; refine (spec_validStore _ (qs.map (·.1)) (fun _ => True) _ (Hr.out.below (by (repeat (with_reducible first | exact Below.refl _ _ | assumption | refine ba ?_ _ | refine bd ?_ | refine bdN ?_ _ | refine bs ?_ (by first | exact Nat.le_refl _ | (dsimp only; omega) | (simp; done)) _ | refine bt ?_ (by assumption))))) Hz20.out).mono ?_; rintro _ w5 ⟨rfl, hb5⟩; rw [H1.out]; have Hx5 := Lib.hid (Hb0.out.step hb5); have x0 : w5.cell? ⟨w.heap.size, 0, none⟩ = some (.slice aa ps.length ca) := Hx5.out.cell 0; have xs := Hx5.out.lt)
      | (go_at_call 59; refine (spec_validTree _ _ _ _ (HF.out.below (by have := Hx5.out.below; (repeat (with_reducible first | exact Below.refl _ _ | assumption | refine ba ?_ _ | refine bd ?_ | refine bdN ?_ _ | refine bs ?_ (by first | exact Nat.le_refl _ | (dsimp only; omega) | (simp; done)) _ | refine bt ?_ (by assumption))))) Hfz8.out).mono ?_; rintro _ w6 ⟨rfl, hb6⟩; rw [H2.out]))
    go_ret
    exact newCmps_none Hs.out (bt Hx5.out.below hb6)
  have H1 := Lib.hid h1
  have H2 := Lib.hid h2
  have Hs := Lib.hid (prune_at h1 h2)
  have h12 : ps.length ≤ 12 := by have := (okTree_all h2).2.2; simpa using this
  have hq12 : qs.length ≤ 12 := by have := (okStore_facts h1).2.2; simpa using this
  clear h1 h2
  go_enter Try.func16, Try.ntmps16
  go_wp2_with (first
    | (go_at_call 58; refine (spec_validStore _ (qs.map (·.1)) (fun _ => True) _ (Hr.out.below (by (repeat (with_reducible first | exact Below.refl _ _ | assumption | refine ba ?_ _ | refine bd ?_ | refine bdN ?_ _ | refine bs ?_ (by first | exact Nat.le_refl _ | (dsimp only; omega) | (simp; done)) _ | refine bt ?_ (by assumption))))) Hz20.out).mono ?_; rintro _ w5 ⟨rfl, hb5⟩; rw [H1.out]; have Hx5 := Lib.hid (Hb0.out.step hb5); have x0 : w5.cell? ⟨w.heap.size, 0, none⟩ = some (.slice aa ps.length ca) := Hx5.out.cell 0; have xs := Hx5.out.lt)
    | (go_at_call 59; refine (spec_validTree _ _ _ _ (HF.out.below (by have := Hx5.out.below; (repeat (with_reducible first | exact Below.refl _ _ | assumption | refine ba ?_ _ | refine bd ?_ | refine bdN ?_ _ | refine bs ?_ (by first | exact Nat.le_refl _ | (dsimp only; omega) | (simp; done)) _ | refine bt ?_ (by assumption))))) Hfz8.out).mono ?_; rintro _ w6 ⟨rfl, hb6⟩; rw [H2.out]; have Hx6 := Lib.hid (Hx5.out.step hb6); have hz6 := Hx6.out.lt))
  clear x0 xs hb5 hb6
  go_loopw [5, 6] (fun ov kv wr => ∃ (k : Nat) (rs : List (Cmp × Value)), k ≤ qs.length ∧ kv = .int .i64 k ∧ rs.map (·.1) = ((qs.map (·.1)).take k).filter (inTree (ps.map (·.1))) ∧ OwnCmps wr (w.heap.size + 1) ov rs ∧ Boxed w #[.slice aa ps.length ca] 33 wr) (fun _ kv _ => qs.length - (intOf kv).toNat)
  case atStart => exact ⟨0, [], by omega, rfl, rfl, ⟨World.ownsRow_made (base := w.heap.size + 1) (size := 8) (e := 53) _ #[] 0 (by omega) (by unfold maxLen; omega) (by simp), OwnCmpBodies.nil _ _⟩, Hx6.out.step (ba (Below.refl _ _) _)⟩
  case round =>
    obtain ⟨k, rs, hk, rfl, hrs, hown, hbx⟩ := hrel
    obtain ⟨oa, oc, rfl⟩ := hown.len
    have hsz := hbx.lt
    have hrl : rs.length ≤ 12 := by
      have h := congrArg List.length hrs
      rw [List.length_map] at h
      have := List.length_filter_le (inTree (ps.map (·.1))) ((qs.map (·.1)).take k)
      rw [List.length_take, List.length_map] at this
      omega
    have Hrs := Lib.hid hrs
    have Hown := Lib.hid hown
    have Hbx := Lib.hid hbx
    clear hrs hown hbx Hx6 Hx5
    by_cases hlt : k < qs.length
    · have hlt' : k < (qs.map (·.1)).length := by simpa using hlt
      have Hsn := Lib.hid (filter_snoc' (inTree (ps.map (·.1))) (qs.map (·.1)) k hlt')
      rw [List.getElem_map] at Hsn
      have HQr := Lib.hid (HQ.out.below Hbx.out.below)
      obtain ⟨g, cap, e1, hg, hg2⟩ := HQr.out.1.form (by omega)
      simp only [Value.slice.injEq] at e1
      obtain ⟨rfl, _, rfl⟩ := e1
      have hgl := (HQr.out.1.lt g rfl).2
      have Hrow := Lib.hid (HQr.out.rowC rfl k hlt)
      have Hbk := Lib.hid (Hlc.out.2 _ (List.mem_map.2 ⟨qs[k], List.getElem_mem hlt, rfl⟩))
      obtain ⟨⟨c0, c1, c2, _⟩, _⟩ := own8 HQr.out.1 k hlt
      have C0 := Lib.hid c0
      have C1 := Lib.hid c1
      have C2 := Lib.hid c2
      obtain ⟨q, hqk⟩ : ∃ q, q = qs[k] := ⟨_, rfl⟩
      rw [← hqk] at Hsn Hrow Hbk C0 C1 C2
      clear c0 c1 c2 hqk hlt'
      obtain ⟨⟨x0, x1, x2, x3, x4, x5, x6, cb⟩, qv⟩ := q
      dsimp only at C0 C1 C2 Hbk
      have hk1 : (k : Int) < (qs.length : Int) := by omega
      have hk0 : (0 : Int) ≤ (k : Int) := by omega
      have Ha := Lib.hid (show ps.length = (ps.map (·.1)).length by simp)
      obtain ⟨Tq, hTq⟩ : ∃ T, T = inTree (ps.map (·.1)) ⟨x0, x1, x2, x3, x4, x5, x6, cb⟩ := ⟨_, rfl⟩
      have HTq := Lib.hid hTq
      rw [← hTq] at Hsn
      clear hTq
      obtain ⟨wo, hwo⟩ : ∃ wo, wo = wr := ⟨_, rfl⟩
      subst hwo
      go_wp2_with fail
      go_loopw [7, 8] (fun mv jv wr => ∃ (j : Nat) (m : Bool), j ≤ ps.length ∧ jv = .int .i64 j ∧ mv = .bool m ∧ m = ((ps.map (·.1)).take j).any (fun f => decide (fplace f = (x0, x1, x2))) ∧ Below wo.heap.size wo wr) (fun _ jv _ => ps.length - (intOf jv).toNat)
      case atStart => exact ⟨0, false, by omega, rfl, rfl, rfl, Below.refl _ _⟩
      case round =>
        obtain ⟨j, m, hj, rfl, rfl, hm, hbj⟩ := hrel
        have Hm := Lib.hid hm
        have Hbj := Lib.hid hbj
        have hszj := hbj.size
        have f0 : wr.cell? ⟨w.heap.size, 0, none⟩ = some (.slice aa ps.length ca) := (Hbx.out.step hbj).cell 0
        have hxs := (Hbx.out.step hbj).lt
        clear hm hbj
        by_cases hlj : j < ps.length
        · have hlj' : j < (ps.map (·.1)).length := by simpa using hlj
          have Hany := Lib.hid (any_snoc (fun f => decide (fplace f = (x0, x1, x2))) (ps.map (·.1)) j hlj')
          rw [List.getElem_map] at Hany
          have hrow := (H.out.below (bt Hbx.out.below Hbj.out)).1
          obtain ⟨gt, capt, e1, hgt, hgt2⟩ := hrow.form (by omega)
          simp only [Value.slice.injEq] at e1
          obtain ⟨rfl, _, rfl⟩ := e1
          obtain ⟨⟨c0, c1, c2, c3, c4, c5⟩, _⟩ := own6 hrow j hlj
          have Hzk := Lib.hid (Hfz.out _ (List.mem_map.2 ⟨_, List.getElem_mem hlj, rfl⟩))
          have Hbd := Lib.hid ((H.out.below (bt Hbx.out.below Hbj.out)).2.1 _ (List.getElem_mem hlj))
          obtain ⟨p, hp⟩ : ∃ p, p = ps[j] := ⟨_, rfl⟩
          rw [← hp] at c0 c1 c2 c3 c4 c5 Hany Hzk Hbd
          clear hp hrow hgt hgt2 hlj'
          obtain ⟨⟨fr, fp, fn, fi, fst, fb⟩, bv⟩ := p
          dsimp only at c0 c1 c2 c3 c4 c5 Hany Hzk Hbd
          obtain ⟨ab, cbb, rfl⟩ := owns_shape Hbd.out
          have hj1 : (j : Int) < (ps.length : Int) := by omega
          have hj0 : (0 : Int) ≤ (j : Int) := by omega
          obtain ⟨nm, hnm⟩ : ∃ n, n = modName ⟨fr, fp, fn, fi, fst, fb⟩ := ⟨_, rfl⟩
          have Hnm := Lib.hid hnm
          have Hst := Lib.hid (show ((ps.map (·.1)).take (j + 1)).any (fun f => decide (fplace f = (x0, x1, x2))) = (m || ((fr == x0) && ((nm == x1) && (fi == x2)))) by
            rw [Hany.out, ← Hm.out]
            congr 1
            rw [show fplace ⟨fr, fp, fn, fi, fst, fb⟩ = (fr, nm, fi) by rw [hnm]; rfl]
            rw [Bool.eq_iff_iff]
            simp only [decide_eq_true_eq, Prod.mk.injEq, Bool.and_eq_true, beq_iff_eq])
          clear hnm
          obtain ⟨W1, hW1⟩ : ∃ W1, W1 = wr.alloc (.cells #[.int .i64 fr, .string (mk fp), .string (mk fn), .bool fi, .int .i64 fst, .slice ab fb.length cbb] 55) := ⟨_, rfl⟩
          have HWe := Lib.hid hW1
          have X1 := Lib.hid (show Boxed wr #[.int .i64 fr, .string (mk fp), .string (mk fn), .bool fi, .int .i64 fst, .slice ab fb.length cbb] 55 W1 by rw [hW1]; exact Boxed.start wr _ _)
          have HW := Lib.hid (bt Hbj.out X1.out.below)
          clear hW1
          go_upto_region 12 with fail
          rw [← HWe.out]
          clear c0 c1 c2 c3 c4 c5 f0 hxs
          have j0 := cell_regrown (show W1.cell? ⟨wr.heap.size, 0, none⟩ = some (.int .i64 fr) from X1.out.cell 0)
          have j1 := cell_regrown (show W1.cell? ⟨wr.heap.size, 1, none⟩ = some (.string (mk fp)) from X1.out.cell 1)
          have j2 := cell_regrown (show W1.cell? ⟨wr.heap.size, 2, none⟩ = some (.string (mk fn)) from X1.out.cell 2)
          have j3 := cell_regrown (show W1.cell? ⟨wr.heap.size, 3, none⟩ = some (.bool fi) from X1.out.cell 3)
          have j4 := cell_regrown (show W1.cell? ⟨wr.heap.size, 4, none⟩ = some (.int .i64 fst) from X1.out.cell 4)
          have j5 := cell_regrown (show W1.cell? ⟨wr.heap.size, 5, none⟩ = some (.slice ab fb.length cbb) from X1.out.cell 5)
          have k0 := cell_regrown ((HW.out.cell (p := ⟨g, k * 8, none⟩) hgl).trans C0.out)
          have k1 := cell_regrown ((HW.out.cell (p := ⟨g, k * 8 + 1, none⟩) hgl).trans C1.out)
          have k2 := cell_regrown ((HW.out.cell (p := ⟨g, k * 8 + 2, none⟩) hgl).trans C2.out)
          have cM : ∀ d os, Calls Try.prog 60 #[.agg #[.int .i64 fr, .string (mk fp), .string (mk fn), .bool fi, .int .i64 fst, .slice ab fb.length cbb]] (grow (redrawn W1 d) os) fun e w'' => e = .returned (.string (mk nm)) ∧ ∃ p : Regrown, w'' = grow (redrawn W1 p.d) p.os := fun d os =>
            Calls.regrown_of (by rw [Hnm.out]; exact spec_moduleName fr fst fp fn fi _ fb _ (Nat.le_trans Hzk.out.1 (by omega)) (Nat.le_trans Hzk.out.2.1 (by omega)))
          have hcase : m = true ∨ (m = false ∧ (fr == x0) = false) ∨ (m = false ∧ fr = x0 ∧ (nm == x1) = false) ∨ (m = false ∧ fr = x0 ∧ nm = x1) := by
            cases m
            · by_cases a : fr = x0
              · by_cases b : nm = x1
                · exact .inr (.inr (.inr ⟨rfl, a, b⟩))
                · exact .inr (.inr (.inl ⟨rfl, a, by rw [beq_bs']; exact decide_eq_false b⟩))
              · exact .inr (.inl ⟨rfl, by simpa using a⟩)
            · exact .inl rfl
          obtain ⟨m', hm'⟩ : ∃ b, b = (m || ((fr == x0) && ((nm == x1) && (fi == x2)))) := ⟨_, rfl⟩
          rw [← hm'] at Hst
          rcases hcase with rfl | ⟨rfl, a1⟩ | ⟨rfl, rfl, a2⟩ | ⟨rfl, rfl, a2⟩
          · have Hm' := Lib.hid (show m' = true by rw [hm']; rfl)
            clear hm'
            refine wp_region_quiet_below (by kernel_rfl) (by kernel_rfl) ?_
            repeat (go_big_quiet_step (exact cM _ _))
            refine wpQuiet_nil ?_
            intro _ hw'
            obtain ⟨⟨dq, osq⟩, hw2⟩ := hw'
            subst hw2
            clear cM j0 j1 j2 j3 j4 j5 k0 k1 k2
            go_wp2_with fail
            go_roundw
            case rel => exact ⟨j + 1, m', by omega, by go_num, by rw [Hm'.out], Hst.out.symm, bt HW.out (below_regrown W1 dq osq)⟩
            case measure => simp [intOf]; omega
          · have Hm' := Lib.hid (show m' = false by rw [hm', a1]; rfl)
            clear hm'
            have a1' : ¬ fr = x0 := by simpa using a1
            refine wp_region_quiet_below (by kernel_rfl) (by kernel_rfl) ?_
            repeat (go_big_quiet_step (exact cM _ _))
            refine wpQuiet_nil ?_
            intro _ hw'
            obtain ⟨⟨dq, osq⟩, hw2⟩ := hw'
            subst hw2
            clear cM j0 j1 j2 j3 j4 j5 k0 k1 k2
            go_wp2_with fail
            go_roundw
            case rel => exact ⟨j + 1, m', by omega, by go_num, by rw [Hm'.out], Hst.out.symm, bt HW.out (below_regrown W1 dq osq)⟩
            case measure => simp [intOf]; omega
          · have Hm' := Lib.hid (show m' = false by rw [hm', a2]; simp)
            clear hm'
            refine wp_region_quiet_below (by kernel_rfl) (by kernel_rfl) ?_
            repeat (go_big_quiet_step (exact cM _ _))
            refine wpQuiet_nil ?_
            intro _ hw'
            obtain ⟨⟨dq, osq⟩, hw2⟩ := hw'
            subst hw2
            clear cM j0 j1 j2 j3 j4 j5 k0 k1 k2
            go_wp2_with fail
            go_roundw
            case rel => exact ⟨j + 1, m', by omega, by go_num, by rw [Hm'.out], Hst.out.symm, bt HW.out (below_regrown W1 dq osq)⟩
            case measure => simp [intOf]; omega
          · have Hm' := Lib.hid (show m' = (fi == x2) by rw [hm', a2]; simp)
            clear hm'
            have a4 : (nm == x1) = true := by rw [a2]; simp
            clear a2
            refine wp_region_quiet_below (by kernel_rfl) (by kernel_rfl) ?_
            repeat (go_big_quiet_step (exact cM _ _))
            refine wpQuiet_nil ?_
            intro _ hw'
            obtain ⟨⟨dq, osq⟩, hw2⟩ := hw'
            subst hw2
            clear cM j0 j1 j2 j3 j4 j5 k0 k1 k2
            go_wp2_with fail
            go_roundw
            case rel => exact ⟨j + 1, m', by omega, by go_num, by rw [Hm'.out], Hst.out.symm, bt HW.out (below_regrown W1 dq osq)⟩
            case measure => simp [intOf]; omega
        · obtain rfl : j = ps.length := by omega
          have HTm := Lib.hid (show m = Tq by rw [Hm.out, HTq.out]; unfold inTree; rw [List.take_of_length_le (by simp)]; rfl)
          skip
          cases m
          · have Hs2 := Lib.hid (show ((qs.map (·.1)).take (k + 1)).filter (inTree (ps.map (·.1))) = ((qs.map (·.1)).take k).filter (inTree (ps.map (·.1))) by rw [Hsn.out, ← HTm.out]; simp)
            go_wp2_with fail
            go_roundw
            case rel => exact ⟨k + 1, rs, by omega, by go_num, by rw [Hs2.out]; exact Hrs.out, Hown.out.below Hbj.out, Hbx.out.step Hbj.out⟩
            case measure => simp [intOf]; omega
          · have Hs2 := Lib.hid (show ((qs.map (·.1)).take (k + 1)).filter (inTree (ps.map (·.1))) = ((qs.map (·.1)).take k).filter (inTree (ps.map (·.1))) ++ [⟨x0, x1, x2, x3, x4, x5, x6, cb⟩] by rw [Hsn.out, ← HTm.out]; simp)
            have Hr1 := Lib.hid (Hrow.out.below hgl Hbj.out)
            have hgr : g < wr.heap.size := by omega
            have HownJ := Lib.hid (Hown.out.below Hbj.out)
            have HbxJ := Lib.hid (Hbx.out.step Hbj.out)
            have hxl := HbxJ.out.lt
            have q1 : (k : Int) ≤ (lc : Int) := by omega
            have q2 : (k : Int) + 1 ≤ (qs.length : Int) := by omega
            have q3 : (k : Int) + 1 ≤ (lc : Int) := by omega
            have q4 : (k : Int) ≤ (k : Int) + 1 := by omega
            have q5 : (0 : Int) ≤ (k : Int) + 1 := by omega
            have n1 : k ≤ lc := by omega
            have n2 : k + 1 ≤ lc := by omega
            have n3 : ¬ lc = k := by omega
            have n4 : lc ≠ k := by omega
            have n5 : k + 1 - k = 1 := by omega
            have hp2 : ((k : Int) + 1).toNat = k + 1 := by omega
            have hwr : IntKind.i64.wrap ((k : Int) + 1) = (k : Int) + 1 := by rw [IntKind.wrap_i64]; omega
            go_wp2_with (first
              | (go_at_call 61; refine (spec_copyStoreAt g (k * 8) (lc - k) [(⟨x0, x1, x2, x3, x4, x5, x6, cb⟩, qv)] Bc _ hgr (by simp; omega) Hr1.out (by simp) (by intro p hp; simp at hp; subst hp; exact Hbk.out)).mono ?_; rintro _ w9 ⟨nv, ns, rfl, hns, hown9, hb9⟩; obtain ⟨nb, rfl⟩ := one_of hns; obtain ⟨na, nc, rfl⟩ := hown9.len; have Hnb := Lib.hid (show w9.ownsRow wr.heap.size 124 5 nb cb.length (cb.flatMap stmCells) from hown9.2.1 _ (List.mem_singleton.2 rfl)); have Hown9 := Lib.hid hown9; have Hb9 := Lib.hid hb9; clear hns hown9 hb9)
              | (at_builtin; refine wpList_append_both rfl _ _ 28 rfl (w.heap.size + 1) 53 i0 _ 8 88 Try.underlying28 Hi.out Hz0.out Hz1.out Hz2.out rfl (by decide) _ rs.length _ rfl (HownJ.out.below Hb9.out).1 wr.heap.size _ 1 _ rfl Hown9.out.1 (fun u hu => by obtain ⟨za, zc, hz⟩ := owns_shape Hnb.out; exact cmp_one ((⟨x0, x1, x2, x3, x4, x5, x6, cb⟩ : Cmp), nb) ⟨_, _, _, hz⟩ u (by simpa using hu)) (by unfold maxLen; omega) (by omega) (by have := Hb9.out.size; omega) ?_; intro v7 w7 hown7 hgrow7; have Hown7 := Lib.hid hown7; have Hgrow7 := Lib.hid hgrow7; clear hown7 hgrow7))
            have HrX := Lib.hid (HownJ.out.below Hb9.out)
            have Hx7 := Lib.hid (show Boxed w #[.slice aa ps.length ca] 33 w7 from Below.grown (HbxJ.out.step Hb9.out) Hgrow7.out (HbxJ.out.step Hb9.out).size (fun b hb => by have := (HownJ.out.1.lt b hb).1; simp; omega))
            go_roundw
            case rel =>
              refine ⟨k + 1, rs ++ [(⟨x0, x1, x2, x3, x4, x5, x6, cb⟩, nb)], by omega, by go_num, by rw [Hs2.out, List.map_append, Hrs.out]; rfl, ⟨by have h := Hown7.out; simpa using h, bodies_app (cbods_grown HrX.out.2 Hgrow7.out (fun b hb p hp => own_types (by decide) HrX.out.1 (HrX.out.2.1 p hp) hb)) (row_keptC (owns_mono Hnb.out hxl) HrX.out.1 Hgrow7.out) (apart_later HownJ.out.2 Hnb.out)⟩, Hx7.out⟩
            case measure => simp [intOf]; omega
    · obtain rfl : k = qs.length := by omega
      have Hf := Lib.hid (show rs.map (·.1) = prune (qs.map (·.1)) (ps.map (·.1)) by rw [Hs.out, Hrs.out, List.take_of_length_le (by simp)])
      go_wp2_with fail
      go_ret
      exact ⟨_, rs, rfl, Hf.out, Hown.out.mono (by omega), Hbx.out.below⟩
end Go.Proofs.Ytomdmkhgkaalnaa
