/- Contracts of the copies of a store, of both sides. -/
import Derived.Test.YtomdmkhgkaalnaaCTree
import Derived.Test.YtomdmkhgkaalnaaWrong
set_option linter.unusedVariables false
set_option linter.unusedSimpArgs false
namespace Go.Proofs.Ytomdmkhgkaalnaa
open Go.RowKit Go.Proofs.Ytomdmkhgkaalnaa.Nm

theorem eight_of {w wr : World} {c0 c1 c2 c3 c4 c5 c6 c7 : Value} {T : TypeId} (h : Boxed w #[c0, c1, c2, c3, c4, c5, c6, c7] T wr) :
    wr.cell? ⟨w.heap.size, 0, none⟩ = some c0 ∧ wr.cell? ⟨w.heap.size, 1, none⟩ = some c1 ∧ wr.cell? ⟨w.heap.size, 2, none⟩ = some c2 ∧ wr.cell? ⟨w.heap.size, 3, none⟩ = some c3 ∧ wr.cell? ⟨w.heap.size, 4, none⟩ = some c4 ∧ wr.cell? ⟨w.heap.size, 5, none⟩ = some c5 ∧ wr.cell? ⟨w.heap.size, 6, none⟩ = some c6 ∧ wr.cell? ⟨w.heap.size, 7, none⟩ = some c7 :=
  ⟨h.cell 0, h.cell 1, h.cell 2, h.cell 3, h.cell 4, h.cell 5, h.cell 6, h.cell 7⟩
theorem cs_free {w wr : World} {cs : Array Value} {T : TypeId} (h : Boxed w cs T wr) (i : Nat) : wr.frozen? ⟨w.heap.size, i, none⟩ = false := by
  have := h.frozen (p := ⟨w.heap.size, i, none⟩) (by simp)
  rw [this]; simp [go_sem]
theorem cs_grown {w wr W w7 : World} {row : Option Nat} (h : Below w.heap.size w wr) (hb : Below wr.heap.size wr W) (hg : W.grownBy w7 row) (hr : ∀ g, row = some g → w.heap.size ≤ g) : Below w.heap.size w w7 :=
  (bt h hb).grown hg (bt h hb).size (fun g e => hr g e)
theorem set_take {α : Type} (cs : List α) (k : Nat) (h : k < cs.length) : cs.take (k + 1) = cs.take k ++ [cs[k]] := by rw [List.take_succ_eq_append_getElem h]

set_option maxRecDepth 100000 in
set_option maxHeartbeats 4000000 in
theorem impl_copyStore (v : Value) (ps : List (Cmp × Value)) (B : Nat) (w : World) (h : RowsC8 w B v ps) (hl : ps.length ≤ 1048576) (hbl : ∀ p ∈ ps, p.1.body.length ≤ 1048576) :
    Calls Try.prog 66 #[v] w (NewCmps (ps.map (·.1)) w) := by
  obtain ⟨i0, hi, hz0, hz1, hz2⟩ := info_parts infoCmp
  have Hi := Lib.hid hi
  have Hz0 := Lib.hid hz0
  have Hz1 := Lib.hid hz1
  have Hz2 := Lib.hid hz2
  have H := Lib.hid h
  have Hbl := Lib.hid hbl
  obtain ⟨aa, ca, rfl⟩ := h.len
  clear h hbl hi hz0 hz1 hz2
  go_enter Try.func66, Try.ntmps66
  go_wp2_with fail
  go_loopw [3, 8] (fun ov iv wr => ∃ (k : Nat) (qs : List (Cmp × Value)), k ≤ ps.length ∧ iv = .int .i64 k ∧ qs.map (·.1) = (ps.map (·.1)).take k ∧ OwnCmps wr w.heap.size ov qs ∧ Below w.heap.size w wr) (fun _ iv _ => ps.length - (intOf iv).toNat)
  case atStart => exact ⟨0, [], by omega, rfl, rfl, ⟨World.ownsRow_nil _ _ _ _, OwnCmpBodies.nil _ _⟩, Below.refl _ _⟩
  case round =>
    obtain ⟨k, qs, hk, rfl, hqs, hown, hbel⟩ := hrel
    obtain ⟨oa, oc, rfl⟩ := hown.len
    have hsz := hbel.size
    have hql : qs.length ≤ 1048576 := by
      have h := congrArg List.length hqs
      simp at h
      omega
    have Hqs := Lib.hid hqs
    have Hown := Lib.hid hown
    have Hbel := Lib.hid hbel
    clear hqs hown
    by_cases hlt : k < ps.length
    · have hrow := (H.out.below hbel).1
      obtain ⟨g, cap, e1, hg, hg2⟩ := hrow.form (by omega)
      simp only [Value.slice.injEq] at e1
      obtain ⟨rfl, _, rfl⟩ := e1
      obtain ⟨⟨c0, c1, c2, c3, c4, c5, c6, c7⟩, _⟩ := own8 hrow k hlt
      have Hbody := Lib.hid ((H.out.below hbel).2.1 _ (List.getElem_mem hlt))
      have Hbk := Lib.hid (Hbl.out _ (List.getElem_mem hlt))
      have Hsn := Lib.hid (show (ps.map (·.1)).take (k + 1) = (ps.map (·.1)).take k ++ [ps[k].1] by rw [set_take _ k (by simpa using hlt)]; simp)
      have hk1 : (k : Int) < (ps.length : Int) := by omega
      have hk0 : (0 : Int) ≤ (k : Int) := by omega
      obtain ⟨p, hp⟩ : ∃ p, p = ps[k] := ⟨_, rfl⟩
      rw [← hp] at c0 c1 c2 c3 c4 c5 c6 c7 Hbody Hbk Hsn
      clear hp hrow hg hg2 hbel
      obtain ⟨⟨x0, x1, x2, x3, x4, x5, x6, fb⟩, bv⟩ := p
      dsimp only at c0 c1 c2 c3 c4 c5 c6 c7 Hbody Hbk Hsn
      obtain ⟨ab, cb, rfl⟩ := owns_shape Hbody.out
      have Hb5 := Lib.hid (Boxed.start wr #[.int .i64 x0, .string (mk x1), .bool x2, .int .i64 x3, .int .i64 x4, .int .i64 x5, .int .i64 x6, .slice ab fb.length cb] 53)
      go_wp2_with fail
      refine (impl_copyBody fb _ B _ (owns_below Hbody.out (show Below wr.heap.size wr _ by (repeat (with_reducible first | exact Below.refl _ _ | assumption | refine ba ?_ _ | refine bd ?_ | refine bdN ?_ _ | refine bs ?_ (by first | exact Nat.le_refl _ | (dsimp only; omega) | (simp; done)) _ | refine bt ?_ (by assumption))))) Hbk.out).mono ?_
      rintro _ w6 ⟨a6, c6', rfl, hown6, hb6⟩
      have Hown6 := Lib.hid hown6
      have Hx6 := Lib.hid (Hb5.out.step hb6)
      obtain ⟨d0, d1, d2, d3, d4, d5, d6, d7⟩ := eight_of Hx6.out
      have z7 := cs_free Hx6.out 7
      have hl6 := Hx6.out.lt
      have Hb6 := Lib.hid (show Below wr.heap.size wr (w6.setCell ⟨wr.heap.size, 7, none⟩ (.slice a6 fb.length c6')) from bs Hx6.out.below (Nat.le_refl _) _)
      have Hown6f := Lib.hid (show (w6.setCell ⟨wr.heap.size, 7, none⟩ (.slice a6 fb.length c6')).ownsRow w.heap.size 53 8 (.slice oa qs.length oc) qs.length (qs.flatMap cmpCells) from owns_set_other (owns_below Hown.out.1 Hx6.out.below) (fun b hb => by have := (Hown.out.1.lt b hb).2; dsimp only; omega) _)
      clear c0 c1 c2 c3 c4 c5 c6 c7 hown6 hb6
      go_wp2_with (at_builtin; refine wpList_append_own _ rfl _ _ 28 rfl w.heap.size 53 i0 _ 8 88 Try.underlying28 Hi.out Hz0.out Hz1.out Hz2.out rfl (by decide) _ qs.length _ rfl (Hown6f.out.alloc _) ⟨_, 0, none⟩ 1 1 (cmpCells (⟨x0, x1, x2, x3, x4, x5, x6, fb⟩, .slice a6 fb.length c6')) rfl rfl ?_ (cmp_one _ ⟨_, _, _, rfl⟩) (by unfold maxLen; omega) (by omega) (by simp; omega) ?_; (exact ct_cells _ (cmpCells (⟨x0, x1, x2, x3, x4, x5, x6, fb⟩, .slice a6 fb.length c6')).toArray _ _ (by first | rfl | simp)); intro v7 w7 hown7 hgrow7 hnil7)
      have HbW := Lib.hid (show Below wr.heap.size wr ((w6.setCell ⟨wr.heap.size, 7, none⟩ (.slice a6 fb.length c6')).alloc (.cells (cmpCells (⟨x0, x1, x2, x3, x4, x5, x6, fb⟩, .slice a6 fb.length c6')).toArray 53)) from ba Hb6.out _)
      have Hq7 := Lib.hid (show ((w6.setCell ⟨wr.heap.size, 7, none⟩ (.slice a6 fb.length c6')).alloc (.cells (cmpCells (⟨x0, x1, x2, x3, x4, x5, x6, fb⟩, .slice a6 fb.length c6')).toArray 53)).ownsRow wr.heap.size 124 5 (.slice a6 fb.length c6') fb.length (fb.flatMap stmCells) from (owns_set_other (owns_mono Hown6.out (by simp)) (fun b hb => by have := (Hown6.out.lt b hb).1; simp at this; dsimp only; omega) _).alloc _)
      have Hx7 := Lib.hid (cs_grown Hbel.out HbW.out hgrow7 (fun g hg => (Hown.out.1.lt g hg).1))
      have Hf7 := Lib.hid (cmps_snoc (q := (⟨x0, x1, x2, x3, x4, x5, x6, fb⟩, .slice a6 fb.length c6')) Hown.out HbW.out hsz Hq7.out hgrow7 hown7)
      have Hmp7 := Lib.hid (show (qs ++ [((⟨x0, x1, x2, x3, x4, x5, x6, fb⟩ : Cmp), Value.slice a6 fb.length c6')]).map (·.1) = (ps.map (·.1)).take (k + 1) by rw [List.map_append, Hqs.out, Hsn.out]; rfl)
      clear hown7 hgrow7 hnil7
      go_roundw
      case rel => exact ⟨k + 1, _, by omega, by go_num, Hmp7.out, Hf7.out, Hx7.out⟩
      case measure => simp [intOf]; omega
    · obtain rfl : k = ps.length := by omega
      have Hf := Lib.hid (show qs.map (·.1) = ps.map (·.1) by rw [Hqs.out, List.take_of_length_le (by simp)])
      go_wp2_with fail
      go_ret
      exact ⟨_, qs, rfl, Hf.out, Hown.out, hbel⟩
set_option maxRecDepth 100000 in
set_option maxHeartbeats 4000000 in
theorem spec_copyStore (v : Value) (ps : List (Cmp × Value)) (B : Nat) (w : World) (h : RowsC8 w B v ps) (hl : ps.length ≤ 1048576) (hbl : ∀ p ∈ ps, p.1.body.length ≤ 1048576) :
    Calls Try.prog 61 #[v] w (NewCmps (ps.map (·.1)) w) := by
  obtain ⟨i0, hi, hz0, hz1, hz2⟩ := info_parts infoCmp
  obtain ⟨i1, hi1, hy0, hy1, hy2⟩ := info_parts infoStm
  have Hi := Lib.hid hi
  have Hz0 := Lib.hid hz0
  have Hz1 := Lib.hid hz1
  have Hz2 := Lib.hid hz2
  have Hi1 := Lib.hid hi1
  have Hy0 := Lib.hid hy0
  have Hy1 := Lib.hid hy1
  have Hy2 := Lib.hid hy2
  have H := Lib.hid h
  have Hbl := Lib.hid hbl
  obtain ⟨aa, ca, rfl⟩ := h.len
  clear h hbl hi hz0 hz1 hz2 hi1 hy0 hy1 hy2
  go_enter Try.func61, Try.ntmps61
  go_wp2_with fail
  go_loopw [3, 4] (fun ov iv wr => ∃ (k : Nat) (qs : List (Cmp × Value)), k ≤ ps.length ∧ iv = .int .i64 k ∧ qs.map (·.1) = (ps.map (·.1)).take k ∧ OwnCmps wr w.heap.size ov qs ∧ Below w.heap.size w wr) (fun _ iv _ => ps.length - (intOf iv).toNat)
  case atStart => exact ⟨0, [], by omega, rfl, rfl, ⟨World.ownsRow_made (base := w.heap.size) (size := 8) (e := 53) _ #[] 0 (Nat.le_refl _) (by unfold maxLen; omega) (by simp), OwnCmpBodies.nil _ _⟩, by (repeat (with_reducible first | exact Below.refl _ _ | assumption | refine ba ?_ _ | refine bd ?_ | refine bdN ?_ _ | refine bs ?_ (by first | exact Nat.le_refl _ | (dsimp only; omega) | (simp; done)) _ | refine bt ?_ (by assumption)))⟩
  case round =>
    obtain ⟨k, qs, hk, rfl, hqs, hown, hbel⟩ := hrel
    obtain ⟨oa, oc, rfl⟩ := hown.len
    have hsz := hbel.size
    have hql : qs.length ≤ 1048576 := by
      have h := congrArg List.length hqs
      simp at h
      omega
    have Hqs := Lib.hid hqs
    have Hown := Lib.hid hown
    have Hbel := Lib.hid hbel
    clear hqs hown
    by_cases hlt : k < ps.length
    · have hrow := (H.out.below hbel).1
      obtain ⟨g, cap, e1, hg, hg2⟩ := hrow.form (by omega)
      simp only [Value.slice.injEq] at e1
      obtain ⟨rfl, _, rfl⟩ := e1
      obtain ⟨⟨c0, c1, c2, c3, c4, c5, c6, c7⟩, _⟩ := own8 hrow k hlt
      have Hbody := Lib.hid ((H.out.below hbel).2.1 _ (List.getElem_mem hlt))
      have Hbk := Lib.hid (Hbl.out _ (List.getElem_mem hlt))
      have Hsn := Lib.hid (show (ps.map (·.1)).take (k + 1) = (ps.map (·.1)).take k ++ [ps[k].1] by rw [set_take _ k (by simpa using hlt)]; simp)
      have hk1 : (k : Int) < (ps.length : Int) := by omega
      have hk0 : (0 : Int) ≤ (k : Int) := by omega
      obtain ⟨p, hp⟩ : ∃ p, p = ps[k] := ⟨_, rfl⟩
      rw [← hp] at c0 c1 c2 c3 c4 c5 c6 c7 Hbody Hbk Hsn
      clear hp hrow hg hg2 hbel
      obtain ⟨⟨x0, x1, x2, x3, x4, x5, x6, fb⟩, bv⟩ := p
      dsimp only at c0 c1 c2 c3 c4 c5 c6 c7 Hbody Hbk Hsn
      have hfb : fb.length ≤ 1048576 := Hbk.out
      obtain ⟨ab, cb, rfl⟩ := owns_shape Hbody.out
      obtain ⟨W5, hW5⟩ : ∃ W, W = (wr.alloc (.cells #[.int .i64 x0, .string (mk x1), .bool x2, .int .i64 x3, .int .i64 x4, .int .i64 x5, .int .i64 x6, .slice ab fb.length cb] 53)).alloc (.cells #[] 124) := ⟨_, rfl⟩
      have HW5 := Lib.hid hW5
      have Hx5 := Lib.hid (show Boxed wr #[.int .i64 x0, .string (mk x1), .bool x2, .int .i64 x3, .int .i64 x4, .int .i64 x5, .int .i64 x6, .slice ab fb.length cb] 53 W5 by rw [hW5]; exact (Boxed.start wr _ _).step (ba (Below.refl _ _) _))
      have Hm5 := Lib.hid (show W5.ownsRow (wr.heap.size + 1) 124 5 (.slice (some ⟨wr.heap.size + 1, 0, none⟩) 0 0) 0 [] by rw [hW5]; exact made_at _ _ _ 5 _ (by simp) (by simp))
      have Hs5 := Lib.hid (owns_below Hbody.out Hx5.out.below)
      have hz5 : wr.heap.size + 1 ≤ W5.heap.size := by rw [hW5]; simp
      obtain ⟨d0, d1, d2, d3, d4, d5, d6, d7⟩ := eight_of Hx5.out
      clear hW5
      go_upto_region 6 with fail
      go_upto_region 7 with (at_builtin; rw [← HW5.out]; refine wpList_append_both rfl _ _ 51 rfl (wr.heap.size + 1) 124 i1 _ 5 56 Try.underlying51 Hi1.out Hy0.out Hy1.out Hy2.out rfl (by decide) _ 0 _ rfl Hm5.out B _ fb.length _ rfl Hs5.out (stm_one fb) (by unfold maxLen; omega) (by omega) hz5 ?_; intro v6 w6 hown6 hgrow6; rw [Nat.zero_add, List.nil_append] at hown6; obtain ⟨a6, c6', hv6⟩ := owns_shape hown6; subst hv6; have Hown6 := Lib.hid hown6; have Hx6 := Lib.hid (show Boxed wr _ _ w6 from Below.grown Hx5.out hgrow6 Hx5.out.size (fun g hg => by have := (Hm5.out.lt g hg).1; simp; omega)); obtain ⟨e0, e1, e2, e3, e4, e5, e6, e7⟩ := eight_of Hx6.out; have z7 := cs_free Hx6.out 7; clear hown6 hgrow6 d0 d1 d2 d3 d4 d5 d6 d7)
      have hl6 := Hx6.out.lt
      have Hb6 := Lib.hid (show Below wr.heap.size wr (w6.setCell ⟨wr.heap.size, 7, none⟩ (.slice a6 fb.length c6')) from bs Hx6.out.below (Nat.le_refl _) _)
      have Hown6f := Lib.hid (show (w6.setCell ⟨wr.heap.size, 7, none⟩ (.slice a6 fb.length c6')).ownsRow w.heap.size 53 8 (.slice oa qs.length oc) qs.length (qs.flatMap cmpCells) from owns_set_other (owns_below Hown.out.1 Hx6.out.below) (fun b hb => by have := (Hown.out.1.lt b hb).2; dsimp only; omega) _)
      go_wp2_with (at_builtin; refine wpList_append_own _ rfl _ _ 28 rfl w.heap.size 53 i0 _ 8 88 Try.underlying28 Hi.out Hz0.out Hz1.out Hz2.out rfl (by decide) _ qs.length _ rfl (Hown6f.out.alloc _) ⟨_, 0, none⟩ 1 1 (cmpCells (⟨x0, x1, x2, x3, x4, x5, x6, fb⟩, .slice a6 fb.length c6')) rfl rfl ?_ (cmp_one _ ⟨_, _, _, rfl⟩) (by unfold maxLen; omega) (by omega) (by simp; omega) ?_; (exact ct_cells _ (cmpCells (⟨x0, x1, x2, x3, x4, x5, x6, fb⟩, .slice a6 fb.length c6')).toArray _ _ (by first | rfl | simp)); intro v7 w7 hown7 hgrow7 hnil7)
      have HbW := Lib.hid (show Below wr.heap.size wr ((w6.setCell ⟨wr.heap.size, 7, none⟩ (.slice a6 fb.length c6')).alloc (.cells (cmpCells (⟨x0, x1, x2, x3, x4, x5, x6, fb⟩, .slice a6 fb.length c6')).toArray 53)) from ba Hb6.out _)
      have Hq7 := Lib.hid (show ((w6.setCell ⟨wr.heap.size, 7, none⟩ (.slice a6 fb.length c6')).alloc (.cells (cmpCells (⟨x0, x1, x2, x3, x4, x5, x6, fb⟩, .slice a6 fb.length c6')).toArray 53)).ownsRow wr.heap.size 124 5 (.slice a6 fb.length c6') fb.length (fb.flatMap stmCells) from (owns_set_other (owns_mono Hown6.out (by omega)) (fun b hb => by have := (Hown6.out.lt b hb).1; dsimp only; omega) _).alloc _)
      have Hx7 := Lib.hid (cs_grown Hbel.out HbW.out hgrow7 (fun g hg => (Hown.out.1.lt g hg).1))
      have Hf7 := Lib.hid (cmps_snoc (q := (⟨x0, x1, x2, x3, x4, x5, x6, fb⟩, .slice a6 fb.length c6')) Hown.out HbW.out hsz Hq7.out hgrow7 hown7)
      have Hmp7 := Lib.hid (show (qs ++ [((⟨x0, x1, x2, x3, x4, x5, x6, fb⟩ : Cmp), Value.slice a6 fb.length c6')]).map (·.1) = (ps.map (·.1)).take (k + 1) by rw [List.map_append, Hqs.out, Hsn.out]; rfl)
      clear hown7 hgrow7 hnil7
      go_roundw
      case rel => exact ⟨k + 1, _, by omega, by go_num, Hmp7.out, Hf7.out, Hx7.out⟩
      case measure => simp [intOf]; omega
    · obtain rfl : k = ps.length := by omega
      have Hf := Lib.hid (show qs.map (·.1) = ps.map (·.1) by rw [Hqs.out, List.take_of_length_le (by simp)])
      go_wp2_with fail
      go_ret
      exact ⟨_, qs, rfl, Hf.out, Hown.out, hbel⟩

/-! ### A store with what is compiled in its place: the plain answer, and the contract of the program's function that puts it there. -/
def putC (cs : List Cmp) (c : Cmp) : List Cmp :=
  if 0 ≤ keyAt cplace cs (cplace c) then cs.set (keyAt cplace cs (cplace c)).toNat c else if cs.length = 12 then cs else cs ++ [c]
theorem putC_at {cs : List Cmp} {c : Cmp} {k : Nat} (h : keyAt cplace cs (cplace c) = (k : Int)) : putC cs c = cs.set k c := by unfold putC; rw [h]; simp
theorem putC_full {cs : List Cmp} {c : Cmp} (h : keyAt cplace cs (cplace c) = -1) (hl : cs.length = 12) : putC cs c = cs := by unfold putC; rw [h]; simp [hl]
theorem putC_new {cs : List Cmp} {c : Cmp} (h : keyAt cplace cs (cplace c) = -1) (hl : cs.length ≠ 12) : putC cs c = cs ++ [c] := by unfold putC; rw [h]; simp [hl]
theorem sourceOf_cmp {cs : List Cmp} {c : Cmp} (hv : ∀ x ∈ cs, vn x.module = true) (hc : vn c.module = true) : keyAt sourceOf cs (srcPlace (cplace c)) = keyAt cplace cs (cplace c) :=
  keyAt_map (key := cplace) (f := srcPlace) (fun x hx => srcPlace_iff (hv x hx) hc)
/-- Two rows of bodies share no block. -/
def Apart (nv : Value) (ps : List (Cmp × Value)) : Prop := ∀ p ∈ ps, ∀ b, p.2.ownBlock = some b → nv.ownBlock ≠ some b
theorem bodies_set {w w' : World} {B : Nat} {ps : List (Cmp × Value)} {c : Cmp} {nv : Value} {row : Option Nat} (h : OwnCmpBodies w B ps) (hg : w.grownBy w' row) (hr : ∀ b, row = some b → ∀ p ∈ ps, p.2.ownBlock ≠ some b)
    (hc : w'.ownsRow B 124 5 nv c.body.length (c.body.flatMap stmCells)) (ha : Apart nv ps) (k : Nat) : OwnCmpBodies w' B (ps.set k (c, nv)) := by
  have h1 := cbods_grown h hg hr
  refine ⟨fun p hp => ?_, ?_⟩
  · rcases List.mem_or_eq_of_mem_set hp with hp | rfl
    · exact h1.1 p hp
    · exact hc
  · rw [List.pairwise_iff_getElem]
    intro i j hi hj hij b hb hb'
    rw [List.length_set] at hi hj
    have h2 := List.pairwise_iff_getElem.1 h.2 i j hi hj hij b
    rw [List.getElem_set] at hb hb'
    split at hb <;> split at hb'
    · omega
    · exact ha _ (List.getElem_mem hj) b hb' hb
    · exact ha _ (List.getElem_mem hi) b hb hb'
    · exact h2 hb hb'
theorem bodies_app {w : World} {B : Nat} {ps : List (Cmp × Value)} {c : Cmp} {nv : Value} (h : OwnCmpBodies w B ps)
    (hc : w.ownsRow B 124 5 nv c.body.length (c.body.flatMap stmCells)) (ha : Apart nv ps) : OwnCmpBodies w B (ps ++ [(c, nv)]) := by
  refine ⟨fun p hp => ?_, ?_⟩
  · rcases List.mem_append.1 hp with hp | hp
    · exact h.1 p hp
    · simp at hp; subst hp; exact hc
  · rw [List.pairwise_append]
    refine ⟨h.2, by simp, fun p hp x hx b hpb => ?_⟩
    simp at hx; subst hx
    exact ha p hp b hpb
/-- A store, its row and bodies from block B on, with c in its place. -/
def PutCmp (B : Nat) (v nv : Value) (ps : List (Cmp × Value)) (cs : List Cmp) (w : World) (e : Ending) (w' : World) : Prop :=
  ∃ v' ps', e = .returned v' ∧ ps'.map (·.1) = cs ∧ OwnCmps w' B v' ps' ∧ w.grownBy w' v.ownBlock ∧ ∀ p ∈ ps', p ∈ ps ∨ p.2 = nv
theorem grown_set8 {w W : World} {g : Nat} (h : w.grownBy W (some g)) (i : Nat) (x : Value) : w.grownBy (W.setCell ⟨g, i, none⟩ x) (some g) :=
  ⟨h.os, h.tape, h.output, by simpa using h.size, fun j hj hne => (Below.heap_setCell W ⟨g, i, none⟩ x j (fun e => hne (by rw [e]))).trans (h.block j hj hne)⟩
theorem pb_refl (w : World) (r : Option Nat) : w.grownBy w r := ⟨rfl, rfl, rfl, Nat.le_refl _, fun _ _ _ => rfl⟩
theorem pb_trans {a b c : World} {r : Option Nat} (h : a.grownBy b r) (k : b.grownBy c r) : a.grownBy c r :=
  ⟨k.os.trans h.os, k.tape.trans h.tape, k.output.trans h.output, Nat.le_trans h.size k.size, fun i hi hne => (k.block i (Nat.lt_of_lt_of_le hi h.size) hne).trans (h.block i hi hne)⟩
theorem pb_below {a b : World} (h : Below a.heap.size a b) (r : Option Nat) : a.grownBy b r := ⟨h.os, h.tape, h.output, h.size, fun i hi _ => h.block i hi⟩
theorem row_keptC {w w' : World} {B n m : Nat} {v nv : Value} {xs ys : List Value} (hc : w.ownsRow B 124 5 nv n xs) (hr : w.ownsRow B 53 8 v m ys) (hg : w.grownBy w' v.ownBlock) : w'.ownsRow B 124 5 nv n xs :=
  owns_heap hc (fun b hb => hg.block b (owns_block hc hb).2 (fun e => own_types (by decide) hr hc e.symm hb))

set_option maxRecDepth 100000 in
set_option maxHeartbeats 4000000 in
theorem impl_putCompiled (v : Value) (ps : List (Cmp × Value)) (x0 : Int) (x1 : Bs) (x2 : Bool) (x3 x4 x5 x6 : Int) (fb : List Stm) (nv : Value) (B : Nat) (w : World) (h : OwnCmps w B v ps) (hB : B ≤ w.heap.size)
    (hc : w.ownsRow B 124 5 nv fb.length (fb.flatMap stmCells)) (ha : Apart nv ps) (hz : ShortCs 8000000 (ps.map (·.1))) (hs : okStore (ps.map (·.1)) = true) (hv : vn x1 = true) (hl1 : x1.length ≤ 8000000) :
    Calls Try.prog 103 #[v, .agg #[.int .i64 x0, .string (mk x1), .bool x2, .int .i64 x3, .int .i64 x4, .int .i64 x5, .int .i64 x6, nv]] w (PutCmp B v nv ps (putC (ps.map (·.1)) ⟨x0, x1, x2, x3, x4, x5, x6, fb⟩) w) := by
  obtain ⟨i0, hi, hz0, hz1, hz2⟩ := info_parts infoCmp
  have Hi := Lib.hid hi
  have Hz0 := Lib.hid hz0
  have Hz1 := Lib.hid hz1
  have Hz2 := Lib.hid hz2
  have H := Lib.hid h
  have Hc := Lib.hid hc
  have Ha := Lib.hid ha
  have Hr := Lib.hid (h.fils (D := fun _ => True) (fun _ _ => trivial))
  have Hz := Lib.hid hz
  have Hkey := Lib.hid (show keyAt sourceOf (ps.map (·.1)) (srcPlace (x0, x1, x2)) = keyAt cplace (ps.map (·.1)) (x0, x1, x2) from sourceOf_cmp (c := ⟨x0, x1, x2, x3, x4, x5, x6, fb⟩) (fun c hc => okCmp_vn ((okStore_facts hs).1 c hc)) hv)
  have h12 : ps.length ≤ 12 := by simpa using (okStore_facts hs).2.2
  obtain ⟨aa, ca, rfl⟩ := h.len
  obtain ⟨ab, cb, rfl⟩ := owns_shape hc
  clear h hc ha hz hi hz0 hz1 hz2 hs
  have Hb0 := Lib.hid (Boxed.start w #[.int .i64 x0, .string (mk x1), .bool x2, .int .i64 x3, .int .i64 x4, .int .i64 x5, .int .i64 x6, .slice ab fb.length cb] 53)
  have hrg := keyAt_is (key := cplace) (ps.map (·.1)) (x0, x1, x2)
  have Hat := Lib.hid (fun (k : Nat) (h : keyAt cplace (ps.map (·.1)) (x0, x1, x2) = (k : Int)) => putC_at (cs := ps.map (·.1)) (c := ⟨x0, x1, x2, x3, x4, x5, x6, fb⟩) h)
  have Hfull := Lib.hid (fun (h : keyAt cplace (ps.map (·.1)) (x0, x1, x2) = -1) => putC_full (cs := ps.map (·.1)) (c := ⟨x0, x1, x2, x3, x4, x5, x6, fb⟩) h)
  have Hnew := Lib.hid (fun (h : keyAt cplace (ps.map (·.1)) (x0, x1, x2) = -1) => putC_new (cs := ps.map (·.1)) (c := ⟨x0, x1, x2, x3, x4, x5, x6, fb⟩) h)
  obtain ⟨ans, hans⟩ : ∃ a, a = putC (ps.map (·.1)) ⟨x0, x1, x2, x3, x4, x5, x6, fb⟩ := ⟨_, rfl⟩
  rw [← hans]
  have Hans := Lib.hid hans
  clear hans
  obtain ⟨kk, hkk⟩ : ∃ q, q = keyAt cplace (ps.map (·.1)) (x0, x1, x2) := ⟨_, rfl⟩
  rw [← hkk] at hrg Hkey Hfull Hnew
  have Hkk := Lib.hid hkk
  clear hkk
  obtain ⟨sp, hsp⟩ : ∃ s, s = srcPlace (x0, x1, x2) := ⟨_, rfl⟩
  have Hsp := Lib.hid hsp
  rw [← hsp] at Hkey
  clear hsp
  rcases hrg with ⟨rfl, _⟩ | ⟨k, hk, rfl, _, _⟩
  · by_cases hl : ps.length = 12
    · have Hv := Lib.hid (show ans = ps.map (·.1) by rw [Hans.out]; exact Hfull.out rfl (by simpa using hl))
      have Hr12 := Lib.hid (show CmpsIn w (fun _ => True) (.slice aa 12 ca) (ps.map (·.1)) by have h := Hr.out; rwa [hl] at h)
      have H12 := Lib.hid (show OwnCmps w B (.slice aa 12 ca) ps by have h := H.out; rwa [hl] at h)
      rw [hl]
      clear hl h12
      go_enter Try.func103, Try.ntmps103
      go_wp2_with (first
        | (go_at_call 68; refine (impl_placeOfSource _ _ _ _ _ _ _ _ _ hl1).mono ?_; rintro _ w5 ⟨rfl, hb5⟩; rw [← Hsp.out]; have Hx5 := Lib.hid (Hb0.out.step hb5))
        | (go_at_call 83; refine (impl_compiledAt _ (ps.map (·.1)) (fun _ => True) _ sp _ rfl (Hr12.out.below Hx5.out.below) Hz.out).mono ?_; rintro _ w6 ⟨rfl, hb6⟩; rw [Hkey.out]; have Hx6 := Lib.hid (Hx5.out.step hb6)))
      go_ret
      exact ⟨_, ps, rfl, Hv.out.symm, H12.out.below Hx6.out.below, pb_below Hx6.out.below _, fun p hp => .inl hp⟩
    · have Hv := Lib.hid (show ans = ps.map (·.1) ++ [⟨x0, x1, x2, x3, x4, x5, x6, fb⟩] by rw [Hans.out]; exact Hnew.out rfl (by simpa using hl))
      have hli : ((ps.length : Int) == 12) = false := by rw [beq_eq_false_iff_ne]; omega
      have hli2 : ¬ (ps.length : Int) = 12 := by omega
      go_enter Try.func103, Try.ntmps103
      go_wp2_with (first
        | (go_at_call 68; refine (impl_placeOfSource _ _ _ _ _ _ _ _ _ hl1).mono ?_; rintro _ w5 ⟨rfl, hb5⟩; rw [← Hsp.out]; have Hx5 := Lib.hid (Hb0.out.step hb5))
        | (go_at_call 83; refine (impl_compiledAt _ (ps.map (·.1)) (fun _ => True) _ sp _ rfl (Hr.out.below Hx5.out.below) Hz.out).mono ?_; rintro _ w6 ⟨rfl, hb6⟩; rw [Hkey.out]; have Hx6 := Lib.hid (Hx5.out.step hb6); obtain ⟨d0, d1, d2, d3, d4, d5, d6, d7⟩ := eight_of Hx6.out)
        | (at_builtin; refine wpList_append_own _ rfl _ _ 28 rfl B 53 i0 _ 8 88 Try.underlying28 Hi.out Hz0.out Hz1.out Hz2.out rfl (by decide) _ ps.length _ rfl (owns_below H.out.1 (ba Hx6.out.below _)) ⟨_, 0, none⟩ 1 1 (cmpCells (⟨x0, x1, x2, x3, x4, x5, x6, fb⟩, .slice ab fb.length cb)) rfl rfl ?_ (cmp_one _ ⟨_, _, _, rfl⟩) (by unfold maxLen; omega) (by omega) (by have := Hx6.out.lt; simp; omega) ?_; (exact ct_cells _ (cmpCells (⟨x0, x1, x2, x3, x4, x5, x6, fb⟩, .slice ab fb.length cb)).toArray _ _ (by first | rfl | simp)); intro v7 w7 hown7 hgrow7 hnil7; have Hown7 := Lib.hid hown7; have Hgrow7 := Lib.hid hgrow7; clear hown7 hgrow7 hnil7))
      have HbW := Lib.hid (show Below w.heap.size w (w6.alloc (.cells (cmpCells (⟨x0, x1, x2, x3, x4, x5, x6, fb⟩, .slice ab fb.length cb)).toArray 53)) from ba Hx6.out.below _)
      have HrW := Lib.hid (owns_below H.out.1 HbW.out)
      go_ret
      refine ⟨v7, ps ++ [(⟨x0, x1, x2, x3, x4, x5, x6, fb⟩, .slice ab fb.length cb)], rfl, by rw [Hv.out]; simp, ⟨by have h := Hown7.out; simpa using h, bodies_app (cbods_grown (H.out.2.below HbW.out) Hgrow7.out (fun b hb p hp => own_types (by decide) HrW.out ((H.out.2.below HbW.out).1 p hp) hb)) (row_keptC (owns_below Hc.out HbW.out) HrW.out Hgrow7.out) Ha.out⟩, pb_trans (pb_below HbW.out _) Hgrow7.out, fun p hp => by rcases List.mem_append.1 hp with hp | hp; exact .inl hp; simp at hp; subst hp; exact .inr rfl⟩
  · have hk' : k < ps.length := by simpa using hk
    have Hv := Lib.hid (show ans = (ps.map (·.1)).set k ⟨x0, x1, x2, x3, x4, x5, x6, fb⟩ by rw [Hans.out]; exact Hat.out k Hkk.out.symm)
    obtain ⟨g, cap, e1, hg, hg2⟩ := H.out.1.form (by omega)
    simp only [Value.slice.injEq] at e1
    obtain ⟨rfl, _, rfl⟩ := e1
    have hk1 : (k : Int) < (ps.length : Int) := by omega
    have hk0 : (0 : Int) ≤ (k : Int) := by omega
    have hkn : ((k : Int) == -1) = false := by rw [beq_eq_false_iff_ne]; omega
    have hkm : ((k : Int) = -1) = False := eq_false (by omega)
    go_enter Try.func103, Try.ntmps103
    go_wp2_with (first
      | (go_at_call 68; refine (impl_placeOfSource _ _ _ _ _ _ _ _ _ hl1).mono ?_; rintro _ w5 ⟨rfl, hb5⟩; rw [← Hsp.out]; have Hx5 := Lib.hid (Hb0.out.step hb5))
      | (go_at_call 83; refine (impl_compiledAt _ (ps.map (·.1)) (fun _ => True) _ sp _ rfl (Hr.out.below Hx5.out.below) Hz.out).mono ?_; rintro _ w6 ⟨rfl, hb6⟩; rw [Hkey.out]; have Hx6 := Lib.hid (Hx5.out.step hb6); obtain ⟨d0, d1, d2, d3, d4, d5, d6, d7⟩ := eight_of Hx6.out; obtain ⟨⟨c0, c1, c2, c3, c4, c5, c6, c7⟩, z0, z1, z2, z3, z4, z5, z6, z7⟩ := own8 (owns_below H.out.1 Hx6.out.below) k hk'))
    have Hr6 := Lib.hid (owns_below H.out.1 Hx6.out.below)
    have Hput := Lib.hid (own8_put Hr6.out k hk' (⟨x0, x1, x2, x3, x4, x5, x6, fb⟩, .slice ab fb.length cb))
    have Hg8 := Lib.hid (grown_set8 (grown_set8 (grown_set8 (grown_set8 (grown_set8 (grown_set8 (grown_set8 (grown_set8 (pb_refl w6 (some g)) (k * 8) (.int .i64 x0)) (k * 8 + 1) (.string (mk x1))) (k * 8 + 2) (.bool x2)) (k * 8 + 3) (.int .i64 x3)) (k * 8 + 4) (.int .i64 x4)) (k * 8 + 5) (.int .i64 x5)) (k * 8 + 6) (.int .i64 x6)) (k * 8 + 7) (.slice ab fb.length cb))
    go_ret
    refine ⟨_, ps.set k (⟨x0, x1, x2, x3, x4, x5, x6, fb⟩, .slice ab fb.length cb), rfl, by rw [Hv.out, List.map_set], ⟨by rw [List.length_set]; exact Hput.out, bodies_set (H.out.2.below Hx6.out.below) Hg8.out (fun b hb p hp => own_types (by decide) Hr6.out ((H.out.2.below Hx6.out.below).1 p hp) hb) (row_keptC (owns_below Hc.out Hx6.out.below) Hr6.out Hg8.out) Ha.out k⟩, pb_trans (pb_below Hx6.out.below _) Hg8.out, fun p hp => by rcases List.mem_or_eq_of_mem_set hp with hp | rfl; exact .inl hp; exact .inr rfl⟩
end Go.Proofs.Ytomdmkhgkaalnaa
