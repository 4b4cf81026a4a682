/- Contracts of the model's functions that copy trees: with one more file, without one, with one that is edited. -/
import Derived.Deep.RegionLaw
import Derived.Test.YtfelbhpgifgkcaaAdds2
set_option linter.unusedVariables false
set_option linter.unusedSimpArgs false
namespace Go.Proofs.Ytfelbhpgifgkcaa
open Go.RowKit Go.Proofs.Ytfelbhpgifgkcaa.Nm

theorem made_at (W : World) (g base size : Nat) (e : TypeId) (hg : g = W.heap.size) (hb : base ≤ g) : (W.alloc (.cells #[] e)).ownsRow base e size (.slice (some ⟨g, 0, none⟩) 0 0) 0 [] := by
  subst hg
  exact World.ownsRow_made (base := base) (size := size) (e := e) W #[] 0 hb (by unfold maxLen; omega) (by simp)
set_option maxRecDepth 100000 in
set_option maxHeartbeats 2000000 in
theorem spec_copyFile (r st : Int) (p n : Bs) (i : Bool) (bv : Value) (body : List Stm) (w : World) (hb : w.ownsRow 0 139 5 bv body.length (body.flatMap stmCells)) (hl : body.length ≤ 1048576) :
    Calls Try.prog 73 #[.agg #[.int .i64 r, .string (mk p), .string (mk n), .bool i, .int .i64 st, bv]] w (NewFil ⟨r, p, n, i, st, body⟩ w) := by
  obtain ⟨i1, hi1, hy0, hy1, hy2⟩ := info_parts infoStm
  have Hi1 := Lib.hid hi1
  have Hy0 := Lib.hid hy0
  have Hy1 := Lib.hid hy1
  have Hy2 := Lib.hid hy2
  have Hb := Lib.hid hb
  obtain ⟨ab, cb, rfl⟩ := owns_shape hb
  clear hb hi1 hy0 hy1 hy2
  obtain ⟨Wb, hWb⟩ : ∃ Wb, Wb = (w.alloc (.cells #[.int .i64 r, .string (mk p), .string (mk n), .bool i, .int .i64 st, .slice ab body.length cb] 36)).alloc (.cells #[.int .i64 0, .string ⟨#[]⟩, .string ⟨#[]⟩, .bool false, .int .i64 0, .slice none 0 0] 36) := ⟨_, rfl⟩
  have HBw := Lib.hid (show Below w.heap.size w Wb by rw [hWb]; (repeat (with_reducible first | exact Below.refl _ _ | assumption | refine ba ?_ _ | refine bd ?_ | refine bdN ?_ _ | refine bs ?_ (by first | exact Nat.le_refl _ | (dsimp only; omega) | (simp; done)) _ | refine bt ?_ (by assumption))))
  have hWs : Wb.heap.size = w.heap.size + 2 := by rw [hWb]; simp
  have HWs := Lib.hid hWs
  have HX0 := Lib.hid (show BoxC Wb w.heap.size #[.int .i64 r, .string (mk p), .string (mk n), .bool i, .int .i64 st, .slice ab body.length cb] by rw [hWb]; exact (BoxC.start w _ _).below (by (repeat (with_reducible first | exact Below.refl _ _ | assumption | refine ba ?_ _ | refine bd ?_ | refine bdN ?_ _ | refine bs ?_ (by first | exact Nat.le_refl _ | (dsimp only; omega) | (simp; done)) _ | refine bt ?_ (by assumption)))))
  have HX1 := Lib.hid (show BoxC Wb (w.heap.size + 1) #[.int .i64 0, .string ⟨#[]⟩, .string ⟨#[]⟩, .bool false, .int .i64 0, .slice none 0 0] by rw [hWb]; exact (BoxC.start (w.alloc (.cells #[.int .i64 r, .string (mk p), .string (mk n), .bool i, .int .i64 st, .slice ab body.length cb] 36)) _ _).at (by simp))
  have HF0 := Lib.hid (fun (j : Nat) => (show Wb.frozen? ⟨w.heap.size, j, none⟩ = false by rw [hWb]; simp [go_sem]))
  have HF1 := Lib.hid (fun (j : Nat) => (show Wb.frozen? ⟨w.heap.size + 1, j, none⟩ = false by rw [hWb]; simp [go_sem]))
  have HWe := Lib.hid hWb
  clear hWb hWs
  go_enter Try.func73, Try.ntmps73
  go_wp2_with (at_builtin; refine wpList_append_both rfl _ _ 34 rfl (w.heap.size + 2) 139 i1 _ 5 56 Try.underlying34 Hi1.out Hy0.out Hy1.out Hy2.out rfl (by decide) _ 0 _ rfl (made_at _ (w.heap.size + 1 + 1) (w.heap.size + 2) 5 139 (by simp) (by omega)) 0 _ body.length _ rfl (owns_below Hb.out (by (repeat (with_reducible first | exact Below.refl _ _ | assumption | refine ba ?_ _ | refine bd ?_ | refine bdN ?_ _ | refine bs ?_ (by first | exact Nat.le_refl _ | (dsimp only; omega) | (simp; done)) _ | refine bt ?_ (by assumption))))) (stm_one body) (by unfold maxLen; omega) (by omega) (by simp; try omega) ?_; intro v6 w6 hown6 hgrow6; rw [← HWe.out] at hgrow6; rw [Nat.zero_add, List.nil_append] at hown6; obtain ⟨a6, c6, hv6⟩ := owns_shape hown6; subst hv6; have Hx6 := Lib.hid (show Below Wb.heap.size Wb w6 from (ba (Below.refl _ _) _).grown hgrow6 (by simp) (fun k e => by cases e; have := HWs.out; dsimp only; omega)); have Hown6 := Lib.hid hown6; clear hown6 hgrow6; have d0 : w6.cell? ⟨w.heap.size, 0, none⟩ = some (.int .i64 r) := (HX0.out.below Hx6.out).2 0; have d1 : w6.cell? ⟨w.heap.size, 1, none⟩ = some (.string (mk p)) := (HX0.out.below Hx6.out).2 1; have d2 : w6.cell? ⟨w.heap.size, 2, none⟩ = some (.string (mk n)) := (HX0.out.below Hx6.out).2 2; have d3 : w6.cell? ⟨w.heap.size, 3, none⟩ = some (.bool i) := (HX0.out.below Hx6.out).2 3; have d4 : w6.cell? ⟨w.heap.size, 4, none⟩ = some (.int .i64 st) := (HX0.out.below Hx6.out).2 4; have d5 : w6.cell? ⟨w.heap.size, 5, none⟩ = some (.slice ab body.length cb) := (HX0.out.below Hx6.out).2 5; have z5 : w6.frozen? ⟨w.heap.size, 5, none⟩ = false := (Hx6.out.frozen (p := ⟨w.heap.size, 5, none⟩) (by have := HWs.out; dsimp only; omega)).trans (HF0.out 5); have q0 : w6.cell? ⟨w.heap.size + 1, 0, none⟩ = some (.int .i64 0) := (HX1.out.below Hx6.out).2 0; have q1 : w6.cell? ⟨w.heap.size + 1, 1, none⟩ = some (.string ⟨#[]⟩) := (HX1.out.below Hx6.out).2 1; have q2 : w6.cell? ⟨w.heap.size + 1, 2, none⟩ = some (.string ⟨#[]⟩) := (HX1.out.below Hx6.out).2 2; have q3 : w6.cell? ⟨w.heap.size + 1, 3, none⟩ = some (.bool false) := (HX1.out.below Hx6.out).2 3; have q4 : w6.cell? ⟨w.heap.size + 1, 4, none⟩ = some (.int .i64 0) := (HX1.out.below Hx6.out).2 4; have q5 : w6.cell? ⟨w.heap.size + 1, 5, none⟩ = some (.slice none 0 0) := (HX1.out.below Hx6.out).2 5; have hfz := fun (j : Nat) => (show w6.frozen? ⟨w.heap.size + 1, j, none⟩ = false from (Hx6.out.frozen (p := ⟨w.heap.size + 1, j, none⟩) (by have := HWs.out; dsimp only; omega)).trans (HF1.out j)); have g0 := hfz 0; have g1 := hfz 1; have g2 := hfz 2; have g3 := hfz 3; have g4 := hfz 4; have g5 := hfz 5; clear hfz; have s0 := (HX0.out.below Hx6.out).1; have s1 := (HX1.out.below Hx6.out).1)
  refine bodyPost_ret (v := filV (⟨r, p, n, i, st, body⟩, .slice a6 body.length c6)) (by simp [results, Try.results73, go_sem, filV, *]) rfl ⟨_, rfl, ?_, ?_⟩
  · refine owns_mono (B := w.heap.size + 2) ?_ (by omega)
    (repeat (with_reducible first | refine World.ownsRow.alloc ?_ _ | refine owns_set_low ?_ (by first | (dsimp only; omega) | (simp; done) | (simp; omega)) _))
    exact Hown6.out
  · have hbw := HBw.out.trans (Hx6.out.mono HBw.out.size)
    (repeat (with_reducible first | exact Below.refl _ _ | assumption | refine ba ?_ _ | refine bd ?_ | refine bdN ?_ _ | refine bs ?_ (by first | exact Nat.le_refl _ | (dsimp only; omega) | (simp; done)) _ | refine bt ?_ (by assumption)))

theorem cell_block {w w' : World} {b : Nat} (h : w'.heap[b]? = w.heap[b]?) (o : Nat) : w'.cell? ⟨b, o, none⟩ = w.cell? ⟨b, o, none⟩ := by rw [World.cell?_of_block (w := w) h]
/-- The state of the loop that copies a tree: the box of the tree, the box of what is returned, the box of the copy. -/
structure CopyAt (w wr : World) (sl : Value) (ov : Value) (qs : List (Fil × Value)) : Prop where
  tree : wr.cell? ⟨w.heap.size, 0, none⟩ = some sl
  res : wr.cell? ⟨w.heap.size + 1, 0, none⟩ = some (.slice none 0 0)
  rfree : wr.frozen? ⟨w.heap.size + 1, 0, none⟩ = false
  out : wr.cell? ⟨w.heap.size + 1 + 1, 0, none⟩ = some ov
  ofree : wr.frozen? ⟨w.heap.size + 1 + 1, 0, none⟩ = false
  size : w.heap.size + 3 ≤ wr.heap.size
  own : OwnFils wr (w.heap.size + 3) ov qs
  below : Below w.heap.size w wr
/-- Another value in the box of the copy. -/
theorem CopyAt.next {w wr w' : World} {sl ov : Value} {qs : List (Fil × Value)} (h : CopyAt w wr sl ov qs) {v' : Value} {qs' : List (Fil × Value)} (hb : Below (w.heap.size + 3) wr w') (hown : OwnFils w' (w.heap.size + 3) v' qs') :
    CopyAt w (w'.setCell ⟨w.heap.size + 1 + 1, 0, none⟩ v') sl v' qs' := by
  have hs := h.size
  have hz := hb.size
  have ht := (hb.cell (p := ⟨w.heap.size, 0, none⟩) (by dsimp only; omega)).trans h.tree
  have hr := (hb.cell (p := ⟨w.heap.size + 1, 0, none⟩) (by dsimp only; omega)).trans h.res
  have hf := (hb.frozen (p := ⟨w.heap.size + 1, 0, none⟩) (by dsimp only; omega)).trans h.rfree
  have ho := (hb.cell (p := ⟨w.heap.size + 1 + 1, 0, none⟩) (by dsimp only; omega)).trans h.out
  have hg := (hb.frozen (p := ⟨w.heap.size + 1 + 1, 0, none⟩) (by dsimp only; omega)).trans h.ofree
  refine ⟨?_, ?_, ?_, ?_, ?_, ?_, hown.set_low (by dsimp only; omega) _, (h.below.trans (hb.mono (by omega))).setCell (by dsimp only; omega) _⟩
  · rw [World.cell?_of_block (w := w') (Below.heap_setCell _ _ _ _ (by dsimp only; omega))]; exact ht
  · rw [World.cell?_of_block (w := w') (Below.heap_setCell _ _ _ _ (by dsimp only; omega))]; exact hr
  · simp [go_sem, hf]
  · simp [go_sem, ho]
  · simp [go_sem, hg]
  · simp; omega
set_option maxRecDepth 100000 in
set_option maxHeartbeats 4000000 in
theorem spec_copyTree (v : Value) (ps : List (Fil × Value)) (w : World) (h : RowsF w v ps) (hl : ps.length ≤ 2000000) (hbl : ∀ p ∈ ps, p.1.body.length ≤ 1048576) :
    Calls Try.prog 72 #[.agg #[v]] w (NewTree (ps.map (·.1)) w) := by
  obtain ⟨i0, hi, hz0, hz1, hz2⟩ := info_parts infoFil
  have Hi := Lib.hid hi
  have Hz0 := Lib.hid hz0
  have Hz1 := Lib.hid hz1
  have Hz2 := Lib.hid hz2
  have H := Lib.hid h
  have Hbl := Lib.hid hbl
  obtain ⟨aa, ca, rfl⟩ := h.len
  clear h hbl hi hz0 hz1 hz2
  go_enter Try.func72, Try.ntmps72
  go_wp2_with fail
  go_loopw [4] (fun iv wr => ∃ (k : Nat) (qs : List (Fil × Value)) (oa : Option Addr) (oc : Nat), k ≤ ps.length ∧ iv = .int .i64 k ∧ qs.map (·.1) = (ps.map (·.1)).take k ∧ CopyAt w wr (.slice aa ps.length ca) (.slice oa qs.length oc) qs) (fun iv _ => ps.length - (intOf iv).toNat)
  case atStart =>
    refine ⟨0, [], none, 0, by omega, rfl, rfl, ⟨?_, ?_, ?_, ?_, ?_, ?_, ⟨World.ownsRow_nil _ _ _ _, OwnBodies.nil _ _⟩, by (repeat (with_reducible first | exact Below.refl _ _ | assumption | refine ba ?_ _ | refine bd ?_ | refine bdN ?_ _ | refine bs ?_ (by first | exact Nat.le_refl _ | (dsimp only; omega) | (simp; done)) _ | refine bt ?_ (by assumption)))⟩⟩ <;> simp [go_sem]
  case round =>
    obtain ⟨k, qs, oa, oc, hk, rfl, hqs, hst⟩ := hrel
    have Hqs := Lib.hid hqs
    have Hst := Lib.hid hst
    have hql : qs.length ≤ 2000000 := by have h := congrArg List.length hqs; simp at h; omega
    have hA := hst.tree
    have hO := hst.out
    have hOf := hst.ofree
    have hsz := hst.size
    have hs0 : w.heap.size < wr.heap.size := by omega
    have hs1 : w.heap.size + 1 < wr.heap.size := by omega
    have hs2 : w.heap.size + 1 + 1 < wr.heap.size := by omega
    clear hqs
    by_cases hlt : k < ps.length
    · have hrow := (H.out.below hst.below).1
      obtain ⟨g, cap, e1, hg, hg2⟩ := hrow.form (by omega)
      simp only [Value.slice.injEq] at e1
      obtain ⟨rfl, _, rfl⟩ := e1
      obtain ⟨⟨c0, c1, c2, c3, c4, c5⟩, _⟩ := own6 hrow k hlt
      have hgs : g < wr.heap.size := (hrow.lt g rfl).2
      have Hgw := Lib.hid (show g < w.heap.size from (H.out.1.lt g rfl).2)
      have Hbody := Lib.hid ((H.out.below hst.below).2 _ (List.getElem_mem hlt))
      have Hbk := Lib.hid (Hbl.out _ (List.getElem_mem hlt))
      have Hsn := Lib.hid (List.take_succ_eq_append_getElem (l := ps.map (·.1)) (show k < (ps.map (·.1)).length by simpa using hlt))
      simp only [List.getElem_map] at Hsn
      obtain ⟨p, hp⟩ : ∃ p, p = ps[k] := ⟨_, rfl⟩
      rw [← hp] at c0 c1 c2 c3 c4 c5 Hbody Hsn Hbk
      clear hp hrow hg hg2 hst
      obtain ⟨⟨fr, fp, fn, fi, fst, fb⟩, bv⟩ := p
      dsimp only at c0 c1 c2 c3 c4 c5 Hbody Hbk Hsn
      obtain ⟨ab, cb, rfl⟩ := owns_shape Hbody.out
      have hk1 : (k : Int) < (ps.length : Int) := by omega
      have hk0 : (0 : Int) ≤ (k : Int) := by omega
      go_wp2_with fail
      go_region_law (first
          | (go_simp; go_at_call 73; refine (spec_copyFile _ _ _ _ _ _ fb _ (owns_below Hbody.out (by (repeat (with_reducible first | exact Below.refl _ _ | assumption | refine ba ?_ _ | refine bd ?_ | refine bdN ?_ _ | refine bs ?_ (by first | exact Nat.le_refl _ | (dsimp only; omega) | (simp; done)) _ | refine bt ?_ (by assumption))))) Hbk.out).mono ?_; rintro _ w5 ⟨v5, rfl, hown5, hb5⟩; unfold filV; dsimp only; obtain ⟨a5, c5', hv5⟩ := owns_shape hown5; subst hv5; have Hown5 := Lib.hid (owns_mono hown5 (show Below wr.heap.size wr _ by (repeat (with_reducible first | exact Below.refl _ _ | assumption | refine ba ?_ _ | refine bd ?_ | refine bdN ?_ _ | refine bs ?_ (by first | exact Nat.le_refl _ | (dsimp only; omega) | (simp; done)) _ | refine bt ?_ (by assumption)))).size); have Hb5 := Lib.hid (show Below wr.heap.size wr w5 by (repeat (with_reducible first | exact Below.refl _ _ | assumption | refine ba ?_ _ | refine bd ?_ | refine bdN ?_ _ | refine bs ?_ (by first | exact Nat.le_refl _ | (dsimp only; omega) | (simp; done)) _ | refine bt ?_ (by assumption)))); have hO5 : w5.cell? ⟨w.heap.size + 1 + 1, 0, none⟩ = some (.slice oa qs.length oc) := (Hb5.out.cell (p := ⟨w.heap.size + 1 + 1, 0, none⟩) hs2).trans hO; have hz5 : wr.heap.size ≤ w5.heap.size := Hb5.out.size; have hy5 : w.heap.size + 1 + 1 < w5.heap.size := (by omega); clear hown5)
          | (refine step_append_both rfl (.tmp 14) (.tmp 21) 23 rfl (w.heap.size + 3) 36 i0 _ 6 80 Try.underlying23 Hi.out Hz0.out Hz1.out Hz2.out rfl (by decide) (.slice oa qs.length oc) qs.length (qs.flatMap filCells) (by simp [Act.eval, Act.put]) ((owns_below Hst.out.own.1 Hb5.out).alloc _) w5.heap.size (.slice (some ⟨w5.heap.size, 0, none⟩) 1 1) 1 (filCells ((⟨fr, fp, fn, fi, fst, fb⟩ : Fil), Value.slice a5 fb.length c5')) (by simp [Act.eval, Act.put]) (World.ownsRow_lit (size := 6) w5 (filCells ((⟨fr, fp, fn, fi, fst, fb⟩ : Fil), Value.slice a5 fb.length c5')).toArray 1 (Nat.le_refl _) (by unfold maxLen; omega) rfl) (fun x hx => by simp [filCells] at hx; rcases hx with rfl | rfl | rfl | rfl | rfl | rfl <;> rfl) (by unfold maxLen; omega) (by omega) (by simp; omega) ?_; intro vA wA hownA hgA; obtain ⟨aA, cA, hvA⟩ := owns_shape hownA; subst hvA; have HfA := Lib.hid (fils_snoc (q := ((⟨fr, fp, fn, fi, fst, fb⟩ : Fil), Value.slice a5 fb.length c5')) Hst.out.own (ba Hb5.out _) (by omega) (Hown5.out.alloc _) hgA hownA); have HbA := Lib.hid (show Below (w.heap.size + 3) wr wA from ((ba Hb5.out _).mono (by omega)).grown hgA (by simp; omega) (fun k e => (Hst.out.own.1.lt k e).1)); have HnA := Lib.hid (Hst.out.next HbA.out (by have h := HfA.out; exact h)); have hOA : wA.cell? ⟨w.heap.size + 1 + 1, 0, none⟩ = some (.slice oa qs.length oc) := (HbA.out.cell (p := ⟨w.heap.size + 1 + 1, 0, none⟩) (by dsimp only; omega)).trans hO; have hfA : wA.frozen? ⟨w.heap.size + 1 + 1, 0, none⟩ = false := (HbA.out.frozen (p := ⟨w.heap.size + 1 + 1, 0, none⟩) (by dsimp only; omega)).trans hOf; have hzA : w.heap.size + 1 + 1 < wA.heap.size := (by have := HbA.out.size; omega)))
      all_goals
        have HmA := Lib.hid (show (qs ++ [((⟨fr, fp, fn, fi, fst, fb⟩ : Fil), Value.slice a5 fb.length c5')]).map (·.1) = (ps.map (·.1)).take (k + 1) by rw [List.map_append, Hqs.out, Hsn.out]; rfl)
        have hqA : (qs ++ [((⟨fr, fp, fn, fi, fst, fb⟩ : Fil), Value.slice a5 fb.length c5')]).length = qs.length + 1 := by simp
        have HnB := Lib.hid HnA.out
        clear hOA hfA
        go_wp2_with fail
        go_roundw
        case rel => exact ⟨k + 1, qs ++ [((⟨fr, fp, fn, fi, fst, fb⟩ : Fil), Value.slice a5 fb.length c5')], aA, cA, by omega, by go_num, HmA.out, by rw [hqA]; exact HnB.out⟩
        case measure => simp [intOf]; omega
    · obtain rfl : k = ps.length := by omega
      have Hf := Lib.hid (show qs.map (·.1) = ps.map (·.1) by rw [Hqs.out, List.take_of_length_le (by simp)])
      have hR := hst.res
      have hRf := hst.rfree
      clear hst
      generalize qs.length = qn at *
      go_wp2_with fail
      refine bodyPost_ret (v := .agg #[.slice oa qn oc]) (by simp [results, Try.results72, go_sem, *]) rfl ?_
      have hbw := Hst.out.below
      refine ⟨_, qs, rfl, Hf.out, ?_, by (repeat (with_reducible first | exact Below.refl _ _ | assumption | refine ba ?_ _ | refine bd ?_ | refine bdN ?_ _ | refine bs ?_ (by first | exact Nat.le_refl _ | (dsimp only; omega) | (simp; done)) _ | refine bt ?_ (by assumption)))⟩
      exact ((Hst.out.own.set_low (by dsimp only; omega) _).mono (by omega))
end Go.Proofs.Ytfelbhpgifgkcaa
