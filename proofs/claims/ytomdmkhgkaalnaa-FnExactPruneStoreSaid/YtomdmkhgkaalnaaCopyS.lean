/- Contracts of the copies of a store, of both sides. -/
import Derived.Test.YtomdmkhgkaalnaaCTree
set_option linter.unusedVariables false
set_option linter.unusedSimpArgs false
namespace Go.Proofs.Ytomdmkhgkaalnaa
open Go.RowKit Go.Proofs.Ytomdmkhgkaalnaa.Nm

theorem eight_of {w wr : World} {c0 c1 c2 c3 c4 c5 c6 c7 : Value} {T : TypeId} (h : Boxed w #[c0, c1, c2, c3, c4, c5, c6, c7] T wr) :
    wr.cell? ⟨w.heap.size, 0, none⟩ = some c0 ∧ wr.cell? ⟨w.heap.size, 1, none⟩ = some c1 ∧ wr.cell? ⟨w.heap.size, 2, none⟩ = some c2 ∧ wr.cell? ⟨w.heap.size, 3, none⟩ = some c3 ∧ wr.cell? ⟨w.heap.size, 4, none⟩ = some c4 ∧ wr.cell? ⟨w.heap.size, 5, none⟩ = some c5 ∧ wr.cell? ⟨w.heap.size, 6, none⟩ = some c6 ∧ wr.cell? ⟨w.heap.size, 7, none⟩ = some c7 :=
  ⟨h.cell 0, h.cell 1, h.cell 2, h.cell 3, h.cell 4, h.cell 5, h.cell 6, h.cell 7⟩
theorem cs_free {w wr : World} {cs : Array Value} {T : TypeId} (h : Boxed w cs T wr) (i : Nat) : wr.frozen? ⟨w.heap.size, i, none⟩ = false := by
  have := h.frozen (p := ⟨w.heap.size, i, none⟩) (by simp)
  rw [this]; simp [go_sem]
theorem cs_grown {w wr W w7 : World} {row : Option Nat} (h : Below w.heap.size w wr) (hb : Below wr.heap.size wr W) (hg : W.grownBy w7 row) (hr : ∀ g, row = some g → w.heap.size ≤ g) : Below w.heap.size w w7 :=
  (bt h hb).grown hg (bt h hb).size (fun g e => hr g e)
theorem set_take {α : Type} (cs : List α) (k : Nat) (h : k < cs.length) : cs.take (k + 1) = cs.take k ++ [cs[k]] := by rw [List.take_succ_eq_append_getElem h]

set_option maxRecDepth 100000 in
set_option maxHeartbeats 4000000 in
theorem impl_copyStore (v : Value) (ps : List (Cmp × Value)) (B : Nat) (w : World) (h : RowsC8 w B v ps) (hl : ps.length ≤ 1048576) (hbl : ∀ p ∈ ps, p.1.body.length ≤ 1048576) :
    Calls Try.prog 66 #[v] w (NewCmps (ps.map (·.1)) w) := by
  obtain ⟨i0, hi, hz0, hz1, hz2⟩ := info_parts infoCmp
  have Hi := Lib.hid hi
  have Hz0 := Lib.hid hz0
  have Hz1 := Lib.hid hz1
  have Hz2 := Lib.hid hz2
  have H := Lib.hid h
  have Hbl := Lib.hid hbl
  obtain ⟨aa, ca, rfl⟩ := h.len
  clear h hbl hi hz0 hz1 hz2
  go_enter Try.func66, Try.ntmps66
  go_wp2_with fail
  go_loopw [3, 8] (fun ov iv wr => ∃ (k : Nat) (qs : List (Cmp × Value)), k ≤ ps.length ∧ iv = .int .i64 k ∧ qs.map (·.1) = (ps.map (·.1)).take k ∧ OwnCmps wr w.heap.size ov qs ∧ Below w.heap.size w wr) (fun _ iv _ => ps.length - (intOf iv).toNat)
  case atStart => exact ⟨0, [], by omega, rfl, rfl, ⟨World.ownsRow_nil _ _ _ _, OwnCmpBodies.nil _ _⟩, Below.refl _ _⟩
  case round =>
    obtain ⟨k, qs, hk, rfl, hqs, hown, hbel⟩ := hrel
    obtain ⟨oa, oc, rfl⟩ := hown.len
    have hsz := hbel.size
    have hql : qs.length ≤ 1048576 := by
      have h := congrArg List.length hqs
      simp at h
      omega
    have Hqs := Lib.hid hqs
    have Hown := Lib.hid hown
    have Hbel := Lib.hid hbel
    clear hqs hown
    by_cases hlt : k < ps.length
    · have hrow := (H.out.below hbel).1
      obtain ⟨g, cap, e1, hg, hg2⟩ := hrow.form (by omega)
      simp only [Value.slice.injEq] at e1
      obtain ⟨rfl, _, rfl⟩ := e1
      obtain ⟨⟨c0, c1, c2, c3, c4, c5, c6, c7⟩, _⟩ := own8 hrow k hlt
      have Hbody := Lib.hid ((H.out.below hbel).2.1 _ (List.getElem_mem hlt))
      have Hbk := Lib.hid (Hbl.out _ (List.getElem_mem hlt))
      have Hsn := Lib.hid (show (ps.map (·.1)).take (k + 1) = (ps.map (·.1)).take k ++ [ps[k].1] by rw [set_take _ k (by simpa using hlt)]; simp)
      have hk1 : (k : Int) < (ps.length : Int) := by omega
      have hk0 : (0 : Int) ≤ (k : Int) := by omega
      obtain ⟨p, hp⟩ : ∃ p, p = ps[k] := ⟨_, rfl⟩
      rw [← hp] at c0 c1 c2 c3 c4 c5 c6 c7 Hbody Hbk Hsn
      clear hp hrow hg hg2 hbel
      obtain ⟨⟨x0, x1, x2, x3, x4, x5, x6, fb⟩, bv⟩ := p
      dsimp only at c0 c1 c2 c3 c4 c5 c6 c7 Hbody Hbk Hsn
      obtain ⟨ab, cb, rfl⟩ := owns_shape Hbody.out
      have Hb5 := Lib.hid (Boxed.start wr #[.int .i64 x0, .string (mk x1), .bool x2, .int .i64 x3, .int .i64 x4, .int .i64 x5, .int .i64 x6, .slice ab fb.length cb] 53)
      go_wp2_with fail
      refine (impl_copyBody fb _ B _ (owns_below Hbody.out (show Below wr.heap.size wr _ by (repeat (with_reducible first | exact Below.refl _ _ | assumption | refine ba ?_ _ | refine bd ?_ | refine bdN ?_ _ | refine bs ?_ (by first | exact Nat.le_refl _ | (dsimp only; omega) | (simp; done)) _ | refine bt ?_ (by assumption))))) Hbk.out).mono ?_
      rintro _ w6 ⟨a6, c6', rfl, hown6, hb6⟩
      have Hown6 := Lib.hid hown6
      have Hx6 := Lib.hid (Hb5.out.step hb6)
      obtain ⟨d0, d1, d2, d3, d4, d5, d6, d7⟩ := eight_of Hx6.out
      have z7 := cs_free Hx6.out 7
      have hl6 := Hx6.out.lt
      have Hb6 := Lib.hid (show Below wr.heap.size wr (w6.setCell ⟨wr.heap.size, 7, none⟩ (.slice a6 fb.length c6')) from bs Hx6.out.below (Nat.le_refl _) _)
      have Hown6f := Lib.hid (show (w6.setCell ⟨wr.heap.size, 7, none⟩ (.slice a6 fb.length c6')).ownsRow w.heap.size 53 8 (.slice oa qs.length oc) qs.length (qs.flatMap cmpCells) from owns_set_other (owns_below Hown.out.1 Hx6.out.below) (fun b hb => by have := (Hown.out.1.lt b hb).2; dsimp only; omega) _)
      clear c0 c1 c2 c3 c4 c5 c6 c7 hown6 hb6
      go_wp2_with (at_builtin; refine wpList_append_own _ rfl _ _ 28 rfl w.heap.size 53 i0 _ 8 88 Try.underlying28 Hi.out Hz0.out Hz1.out Hz2.out rfl (by decide) _ qs.length _ rfl (Hown6f.out.alloc _) ⟨_, 0, none⟩ 1 1 (cmpCells (⟨x0, x1, x2, x3, x4, x5, x6, fb⟩, .slice a6 fb.length c6')) rfl rfl ?_ (cmp_one _ ⟨_, _, _, rfl⟩) (by unfold maxLen; omega) (by omega) (by simp; omega) ?_; (exact ct_cells _ (cmpCells (⟨x0, x1, x2, x3, x4, x5, x6, fb⟩, .slice a6 fb.length c6')).toArray _ _ (by first | rfl | simp)); intro v7 w7 hown7 hgrow7 hnil7)
      have HbW := Lib.hid (show Below wr.heap.size wr ((w6.setCell ⟨wr.heap.size, 7, none⟩ (.slice a6 fb.length c6')).alloc (.cells (cmpCells (⟨x0, x1, x2, x3, x4, x5, x6, fb⟩, .slice a6 fb.length c6')).toArray 53)) from ba Hb6.out _)
      have Hq7 := Lib.hid (show ((w6.setCell ⟨wr.heap.size, 7, none⟩ (.slice a6 fb.length c6')).alloc (.cells (cmpCells (⟨x0, x1, x2, x3, x4, x5, x6, fb⟩, .slice a6 fb.length c6')).toArray 53)).ownsRow wr.heap.size 124 5 (.slice a6 fb.length c6') fb.length (fb.flatMap stmCells) from (owns_set_other (owns_mono Hown6.out (by simp)) (fun b hb => by have := (Hown6.out.lt b hb).1; simp at this; dsimp only; omega) _).alloc _)
      have Hx7 := Lib.hid (cs_grown Hbel.out HbW.out hgrow7 (fun g hg => (Hown.out.1.lt g hg).1))
      have Hf7 := Lib.hid (cmps_snoc (q := (⟨x0, x1, x2, x3, x4, x5, x6, fb⟩, .slice a6 fb.length c6')) Hown.out HbW.out hsz Hq7.out hgrow7 hown7)
      have Hmp7 := Lib.hid (show (qs ++ [((⟨x0, x1, x2, x3, x4, x5, x6, fb⟩ : Cmp), Value.slice a6 fb.length c6')]).map (·.1) = (ps.map (·.1)).take (k + 1) by rw [List.map_append, Hqs.out, Hsn.out]; rfl)
      clear hown7 hgrow7 hnil7
      go_roundw
      case rel => exact ⟨k + 1, _, by omega, by go_num, Hmp7.out, Hf7.out, Hx7.out⟩
      case measure => simp [intOf]; omega
    · obtain rfl : k = ps.length := by omega
      have Hf := Lib.hid (show qs.map (·.1) = ps.map (·.1) by rw [Hqs.out, List.take_of_length_le (by simp)])
      go_wp2_with fail
      go_ret
      exact ⟨_, qs, rfl, Hf.out, Hown.out, hbel⟩
set_option maxRecDepth 100000 in
set_option maxHeartbeats 4000000 in
theorem spec_copyStore (v : Value) (ps : List (Cmp × Value)) (B : Nat) (w : World) (h : RowsC8 w B v ps) (hl : ps.length ≤ 1048576) (hbl : ∀ p ∈ ps, p.1.body.length ≤ 1048576) :
    Calls Try.prog 61 #[v] w (NewCmps (ps.map (·.1)) w) := by
  obtain ⟨i0, hi, hz0, hz1, hz2⟩ := info_parts infoCmp
  obtain ⟨i1, hi1, hy0, hy1, hy2⟩ := info_parts infoStm
  have Hi := Lib.hid hi
  have Hz0 := Lib.hid hz0
  have Hz1 := Lib.hid hz1
  have Hz2 := Lib.hid hz2
  have Hi1 := Lib.hid hi1
  have Hy0 := Lib.hid hy0
  have Hy1 := Lib.hid hy1
  have Hy2 := Lib.hid hy2
  have H := Lib.hid h
  have Hbl := Lib.hid hbl
  obtain ⟨aa, ca, rfl⟩ := h.len
  clear h hbl hi hz0 hz1 hz2 hi1 hy0 hy1 hy2
  go_enter Try.func61, Try.ntmps61
  go_wp2_with fail
  go_loopw [3, 4] (fun ov iv wr => ∃ (k : Nat) (qs : List (Cmp × Value)), k ≤ ps.length ∧ iv = .int .i64 k ∧ qs.map (·.1) = (ps.map (·.1)).take k ∧ OwnCmps wr w.heap.size ov qs ∧ Below w.heap.size w wr) (fun _ iv _ => ps.length - (intOf iv).toNat)
  case atStart => exact ⟨0, [], by omega, rfl, rfl, ⟨World.ownsRow_made (base := w.heap.size) (size := 8) (e := 53) _ #[] 0 (Nat.le_refl _) (by unfold maxLen; omega) (by simp), OwnCmpBodies.nil _ _⟩, by (repeat (with_reducible first | exact Below.refl _ _ | assumption | refine ba ?_ _ | refine bd ?_ | refine bdN ?_ _ | refine bs ?_ (by first | exact Nat.le_refl _ | (dsimp only; omega) | (simp; done)) _ | refine bt ?_ (by assumption)))⟩
  case round =>
    obtain ⟨k, qs, hk, rfl, hqs, hown, hbel⟩ := hrel
    obtain ⟨oa, oc, rfl⟩ := hown.len
    have hsz := hbel.size
    have hql : qs.length ≤ 1048576 := by
      have h := congrArg List.length hqs
      simp at h
      omega
    have Hqs := Lib.hid hqs
    have Hown := Lib.hid hown
    have Hbel := Lib.hid hbel
    clear hqs hown
    by_cases hlt : k < ps.length
    · have hrow := (H.out.below hbel).1
      obtain ⟨g, cap, e1, hg, hg2⟩ := hrow.form (by omega)
      simp only [Value.slice.injEq] at e1
      obtain ⟨rfl, _, rfl⟩ := e1
      obtain ⟨⟨c0, c1, c2, c3, c4, c5, c6, c7⟩, _⟩ := own8 hrow k hlt
      have Hbody := Lib.hid ((H.out.below hbel).2.1 _ (List.getElem_mem hlt))
      have Hbk := Lib.hid (Hbl.out _ (List.getElem_mem hlt))
      have Hsn := Lib.hid (show (ps.map (·.1)).take (k + 1) = (ps.map (·.1)).take k ++ [ps[k].1] by rw [set_take _ k (by simpa using hlt)]; simp)
      have hk1 : (k : Int) < (ps.length : Int) := by omega
      have hk0 : (0 : Int) ≤ (k : Int) := by omega
      obtain ⟨p, hp⟩ : ∃ p, p = ps[k] := ⟨_, rfl⟩
      rw [← hp] at c0 c1 c2 c3 c4 c5 c6 c7 Hbody Hbk Hsn
      clear hp hrow hg hg2 hbel
      obtain ⟨⟨x0, x1, x2, x3, x4, x5, x6, fb⟩, bv⟩ := p
      dsimp only at c0 c1 c2 c3 c4 c5 c6 c7 Hbody Hbk Hsn
      have hfb : fb.length ≤ 1048576 := Hbk.out
      obtain ⟨ab, cb, rfl⟩ := owns_shape Hbody.out
      obtain ⟨W5, hW5⟩ : ∃ W, W = (wr.alloc (.cells #[.int .i64 x0, .string (mk x1), .bool x2, .int .i64 x3, .int .i64 x4, .int .i64 x5, .int .i64 x6, .slice ab fb.length cb] 53)).alloc (.cells #[] 124) := ⟨_, rfl⟩
      have HW5 := Lib.hid hW5
      have Hx5 := Lib.hid (show Boxed wr #[.int .i64 x0, .string (mk x1), .bool x2, .int .i64 x3, .int .i64 x4, .int .i64 x5, .int .i64 x6, .slice ab fb.length cb] 53 W5 by rw [hW5]; exact (Boxed.start wr _ _).step (ba (Below.refl _ _) _))
      have Hm5 := Lib.hid (show W5.ownsRow (wr.heap.size + 1) 124 5 (.slice (some ⟨wr.heap.size + 1, 0, none⟩) 0 0) 0 [] by rw [hW5]; exact made_at _ _ _ 5 _ (by simp) (by simp))
      have Hs5 := Lib.hid (owns_below Hbody.out Hx5.out.below)
      have hz5 : wr.heap.size + 1 ≤ W5.heap.size := by rw [hW5]; simp
      obtain ⟨d0, d1, d2, d3, d4, d5, d6, d7⟩ := eight_of Hx5.out
      clear hW5
      go_upto_region 6 with fail
      go_upto_region 7 with (at_builtin; rw [← HW5.out]; refine wpList_append_both rfl _ _ 51 rfl (wr.heap.size + 1) 124 i1 _ 5 56 Try.underlying51 Hi1.out Hy0.out Hy1.out Hy2.out rfl (by decide) _ 0 _ rfl Hm5.out B _ fb.length _ rfl Hs5.out (stm_one fb) (by unfold maxLen; omega) (by omega) hz5 ?_; intro v6 w6 hown6 hgrow6; rw [Nat.zero_add, List.nil_append] at hown6; obtain ⟨a6, c6', hv6⟩ := owns_shape hown6; subst hv6; have Hown6 := Lib.hid hown6; have Hx6 := Lib.hid (show Boxed wr _ _ w6 from Below.grown Hx5.out hgrow6 Hx5.out.size (fun g hg => by have := (Hm5.out.lt g hg).1; simp; omega)); obtain ⟨e0, e1, e2, e3, e4, e5, e6, e7⟩ := eight_of Hx6.out; have z7 := cs_free Hx6.out 7; clear hown6 hgrow6 d0 d1 d2 d3 d4 d5 d6 d7)
      have hl6 := Hx6.out.lt
      have Hb6 := Lib.hid (show Below wr.heap.size wr (w6.setCell ⟨wr.heap.size, 7, none⟩ (.slice a6 fb.length c6')) from bs Hx6.out.below (Nat.le_refl _) _)
      have Hown6f := Lib.hid (show (w6.setCell ⟨wr.heap.size, 7, none⟩ (.slice a6 fb.length c6')).ownsRow w.heap.size 53 8 (.slice oa qs.length oc) qs.length (qs.flatMap cmpCells) from owns_set_other (owns_below Hown.out.1 Hx6.out.below) (fun b hb => by have := (Hown.out.1.lt b hb).2; dsimp only; omega) _)
      go_wp2_with (at_builtin; refine wpList_append_own _ rfl _ _ 28 rfl w.heap.size 53 i0 _ 8 88 Try.underlying28 Hi.out Hz0.out Hz1.out Hz2.out rfl (by decide) _ qs.length _ rfl (Hown6f.out.alloc _) ⟨_, 0, none⟩ 1 1 (cmpCells (⟨x0, x1, x2, x3, x4, x5, x6, fb⟩, .slice a6 fb.length c6')) rfl rfl ?_ (cmp_one _ ⟨_, _, _, rfl⟩) (by unfold maxLen; omega) (by omega) (by simp; omega) ?_; (exact ct_cells _ (cmpCells (⟨x0, x1, x2, x3, x4, x5, x6, fb⟩, .slice a6 fb.length c6')).toArray _ _ (by first | rfl | simp)); intro v7 w7 hown7 hgrow7 hnil7)
      have HbW := Lib.hid (show Below wr.heap.size wr ((w6.setCell ⟨wr.heap.size, 7, none⟩ (.slice a6 fb.length c6')).alloc (.cells (cmpCells (⟨x0, x1, x2, x3, x4, x5, x6, fb⟩, .slice a6 fb.length c6')).toArray 53)) from ba Hb6.out _)
      have Hq7 := Lib.hid (show ((w6.setCell ⟨wr.heap.size, 7, none⟩ (.slice a6 fb.length c6')).alloc (.cells (cmpCells (⟨x0, x1, x2, x3, x4, x5, x6, fb⟩, .slice a6 fb.length c6')).toArray 53)).ownsRow wr.heap.size 124 5 (.slice a6 fb.length c6') fb.length (fb.flatMap stmCells) from (owns_set_other (owns_mono Hown6.out (by omega)) (fun b hb => by have := (Hown6.out.lt b hb).1; dsimp only; omega) _).alloc _)
      have Hx7 := Lib.hid (cs_grown Hbel.out HbW.out hgrow7 (fun g hg => (Hown.out.1.lt g hg).1))
      have Hf7 := Lib.hid (cmps_snoc (q := (⟨x0, x1, x2, x3, x4, x5, x6, fb⟩, .slice a6 fb.length c6')) Hown.out HbW.out hsz Hq7.out hgrow7 hown7)
      have Hmp7 := Lib.hid (show (qs ++ [((⟨x0, x1, x2, x3, x4, x5, x6, fb⟩ : Cmp), Value.slice a6 fb.length c6')]).map (·.1) = (ps.map (·.1)).take (k + 1) by rw [List.map_append, Hqs.out, Hsn.out]; rfl)
      clear hown7 hgrow7 hnil7
      go_roundw
      case rel => exact ⟨k + 1, _, by omega, by go_num, Hmp7.out, Hf7.out, Hx7.out⟩
      case measure => simp [intOf]; omega
    · obtain rfl : k = ps.length := by omega
      have Hf := Lib.hid (show qs.map (·.1) = ps.map (·.1) by rw [Hqs.out, List.take_of_length_le (by simp)])
      go_wp2_with fail
      go_ret
      exact ⟨_, qs, rfl, Hf.out, Hown.out, hbel⟩
end Go.Proofs.Ytomdmkhgkaalnaa
