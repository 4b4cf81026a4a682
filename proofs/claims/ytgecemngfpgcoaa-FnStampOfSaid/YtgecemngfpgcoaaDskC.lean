/- Contracts of the copies of directories, of both sides. -/
import Derived.Test.YtgecemngfpgcoaaDskMem
import Derived.Test.YtgecemngfpgcoaaBoth
import Derived.Laws.AppendOwnNone
import Derived.Deep.DeepCutAuto
set_option linter.unusedVariables false
set_option linter.unusedSimpArgs false
namespace Go.Proofs.Ytgecemngfpgcoaa
open Go.RowKit Go.Proofs.Ytgecemngfpgcoaa.Nm

theorem four_of {w wr : World} {c0 c1 c2 c3 : Value} {T : TypeId} (h : Boxed w #[c0, c1, c2, c3] T wr) :
    wr.cell? ⟨w.heap.size, 0, none⟩ = some c0 ∧ wr.cell? ⟨w.heap.size, 1, none⟩ = some c1 ∧ wr.cell? ⟨w.heap.size, 2, none⟩ = some c2 ∧ wr.cell? ⟨w.heap.size, 3, none⟩ = some c3 :=
  ⟨h.cell 0, h.cell 1, h.cell 2, h.cell 3⟩
theorem fourfree {w wr : World} {cs : Array Value} {T : TypeId} (h : Boxed w cs T wr) (i : Nat) : wr.frozen? ⟨w.heap.size, i, none⟩ = false := by
  have := h.frozen (p := ⟨w.heap.size, i, none⟩) (by simp)
  rw [this]; simp [go_sem]
theorem dir_one (p : Dr × Value) (h : ∃ a n c, p.2 = .slice a n c) : ∀ x ∈ drCells p, x.oneCell' = true := fun x hx => by
  obtain ⟨a, n, c, e⟩ := h
  simp only [drCells, List.mem_cons, List.not_mem_nil, or_false] at hx
  rcases hx with rfl | rfl | rfl | rfl
  all_goals first | rfl | (rw [e]; rfl)
theorem dk_cells (w : World) (cs : Array Value) (T : TypeId) (b : Nat) (hb : b = w.heap.size) : ∀ (j : Nat) (u : Value), cs.toList[j]? = some u → (w.alloc (.cells cs T)).cell? ((⟨b, 0, none⟩ : Addr).add j) = some u := by
  subst hb
  intro j u hu
  have e : (w.alloc (.cells cs T)).heap[w.heap.size]? = some (.cells cs T (0, 0)) := by
    show (w.heap.push (Obj.cells cs T (0, 0)))[w.heap.size]? = _
    simp
  have ha : (⟨w.heap.size, 0, none⟩ : Addr).add j = ⟨w.heap.size, j, none⟩ := by unfold Addr.add; split <;> simp_all
  rw [ha]
  simp only [World.cell?, e]
  simpa using hu
theorem dk_set_other {w : World} {B e size n : Nat} {v : Value} {xs : List Value} (h : w.ownsRow B e size v n xs) {p : Addr} (hp : ∀ b, v.ownBlock = some b → b ≠ p.block) (u : Value) : (w.setCell p u).ownsRow B e size v n xs :=
  owns_heap h (fun b hb => Below.heap_setCell w p u b (hp b hb))
theorem dk_made_at (W : World) (g base size : Nat) (e : TypeId) (hg : g = W.heap.size) (hb : base ≤ g) : (W.alloc (.cells #[] e)).ownsRow base e size (.slice (some ⟨g, 0, none⟩) 0 0) 0 [] := by
  subst hg
  exact World.ownsRow_made (base := base) (size := size) (e := e) W #[] 0 hb (by unfold maxLen; omega) (by simp)
set_option maxRecDepth 100000 in
set_option maxHeartbeats 2000000 in
theorem dir_take {α : Type} (cs : List α) (k : Nat) (h : k < cs.length) : cs.take (k + 1) = cs.take k ++ [cs[k]] := by rw [List.take_succ_eq_append_getElem h]
/-- One more directory with names of its own behind others. -/
theorem dirs_snoc {wr W w7 : World} {B : Nat} {ov v7 : Value} {qs : List (Dr × Value)} {q : Dr × Value} (h : OwnDirs wr B ov qs) (hb : Below wr.heap.size wr W) (hB : B ≤ wr.heap.size)
    (hq : W.ownsRow wr.heap.size 9 1 q.2 q.1.names.length (q.1.names.map sv)) (hg : W.grownBy w7 ov.ownBlock)
    (h7 : w7.ownsRow B 72 4 v7 (qs.length + 1) (qs.flatMap drCells ++ drCells q)) : OwnDirs w7 B v7 (qs ++ [q]) := by
  refine ⟨by simpa using h7, ?_⟩
  have h1 := h.2.snoc hb hB hq
  exact h1.heap (fun b _ hlt ⟨p, hp, hpb⟩ => hg.block b hlt (fun e => own_types (T := 72) (T' := 9) (by decide) (owns_below h.1 hb) (h1.1 p hp) e.symm hpb))
theorem infoSD : (Try.prog.info? 9).map (fun i => (i.zero, i.size, i.bytes)) = some (some (.string ByteArray.empty), 1, 16) := by kernel_rfl
set_option maxRecDepth 100000 in
set_option maxHeartbeats 4000000 in
theorem impl_copyDirs (v : Value) (ps : List (Dr × Value)) (B : Nat) (w : World) (h : OwnDirs w B v ps) (hl : ps.length ≤ 1048576) (hbl : ∀ p ∈ ps, p.1.names.length ≤ 1048576) :
    Calls Try.prog 82 #[v] w (NewDirs (ps.map (·.1)) w) := by
  obtain ⟨i0, hi, hz0, hz1, hz2⟩ := info_parts infoDir
  obtain ⟨i1, hi1, hy0, hy1, hy2⟩ := info_parts infoSD
  have Hi := Lib.hid hi
  have Hz0 := Lib.hid hz0
  have Hz1 := Lib.hid hz1
  have Hz2 := Lib.hid hz2
  have Hi1 := Lib.hid hi1
  have Hy0 := Lib.hid hy0
  have Hy1 := Lib.hid hy1
  have Hy2 := Lib.hid hy2
  have H := Lib.hid h
  have Hbl := Lib.hid hbl
  obtain ⟨aa, ca, rfl⟩ := h.len
  clear h hbl hi hz0 hz1 hz2 hi1 hy0 hy1 hy2
  go_enter Try.func82, Try.ntmps82
  go_wp2_with fail
  go_loopw [3, 8] (fun ov iv wr => ∃ (k : Nat) (qs : List (Dr × Value)), k ≤ ps.length ∧ iv = .int .i64 k ∧ qs.map (·.1) = (ps.map (·.1)).take k ∧ OwnDirs wr w.heap.size ov qs ∧ Below w.heap.size w wr) (fun _ iv _ => ps.length - (intOf iv).toNat)
  case atStart => exact ⟨0, [], by omega, rfl, rfl, ⟨World.ownsRow_nil _ _ _ _, OwnNames.nil _ _⟩, Below.refl _ _⟩
  case round =>
    obtain ⟨k, qs, hk, rfl, hqs, hown, hbel⟩ := hrel
    obtain ⟨oa, oc, rfl⟩ := hown.len
    have hsz := hbel.size
    have hql : qs.length ≤ 1048576 := by
      have h := congrArg List.length hqs
      simp at h
      omega
    have Hqs := Lib.hid hqs
    have Hown := Lib.hid hown
    have Hbel := Lib.hid hbel
    clear hqs hown
    by_cases hlt : k < ps.length
    · have hrow := (H.out.below hbel).1
      obtain ⟨g, cap, e1, hg, hg2⟩ := hrow.form (by omega)
      simp only [Value.slice.injEq] at e1
      obtain ⟨rfl, hnn, rfl⟩ := e1
      clear hnn
      obtain ⟨⟨c0, c1, c2, c3⟩, _⟩ := own4 hrow k hlt
      have Hnam := Lib.hid ((H.out.below hbel).2.1 _ (List.getElem_mem hlt))
      have hbk := Hbl.out _ (List.getElem_mem hlt)
      have Hsn := Lib.hid (show (ps.map (·.1)).take (k + 1) = (ps.map (·.1)).take k ++ [ps[k].1] by rw [dir_take _ k (by simpa using hlt)]; simp)
      have hk1 : (k : Int) < (ps.length : Int) := by omega
      have hk0 : (0 : Int) ≤ (k : Int) := by omega
      obtain ⟨p, hp⟩ : ∃ p, p = ps[k] := ⟨_, rfl⟩
      rw [← hp] at c0 c1 c2 c3 Hnam hbk Hsn
      clear hp hrow hg hg2 hbel
      obtain ⟨⟨dr, dp, ds, dn⟩, nv⟩ := p
      dsimp only at c0 c1 c2 c3 Hnam hbk Hsn
      obtain ⟨ab, cb, rfl⟩ := owns_shape Hnam.out
      have Hb5 := Lib.hid (Boxed.start wr #[.int .i64 dr, .string (mk dp), .int .i64 ds, .slice ab dn.length cb] 72)
      have hsv : ∀ u ∈ dn.map sv, u.oneCell' = true := fun u hu => by obtain ⟨s, _, rfl⟩ := List.mem_map.1 hu; rfl
      have Hsv := Lib.hid hsv
      clear hsv
      go_upto_region 6 with (at_builtin; go_loud (refine wpList_append_both rfl _ _ 70 rfl (wr.heap.size + 1) 9 i1 _ 1 16 Try.underlying70 Hi1.out Hy0.out Hy1.out Hy2.out rfl (by decide) (.slice none 0 0) 0 [] rfl (World.ownsRow_nil _ _ _ _) B _ dn.length _ rfl (Hnam.out.alloc _) Hsv.out (by unfold maxLen; omega) (by omega) (by simp) ?_; intro v6 w6 hown6 hgrow6; rw [Nat.zero_add, List.nil_append] at hown6; obtain ⟨a6, c6, hv6⟩ := owns_shape hown6; subst hv6; have Hown6 := Lib.hid hown6; have Hx6 := Lib.hid (Hb5.out.step ((Below.refl _ _).grown hgrow6 (Nat.le_refl _) (fun g hg => by cases hg))); clear hown6 hgrow6; obtain ⟨d0, d1, d2, d3⟩ := four_of Hx6.out; have z3 := fourfree Hx6.out 3))
      clear c0 c1 c2 c3
      have hl6 := Hx6.out.lt
      have Hb6 := Lib.hid (show Below wr.heap.size wr (w6.setCell ⟨wr.heap.size, 3, none⟩ (.slice a6 dn.length c6)) from bs Hx6.out.below (Nat.le_refl _) _)
      have Hown6f := Lib.hid (show (w6.setCell ⟨wr.heap.size, 3, none⟩ (.slice a6 dn.length c6)).ownsRow w.heap.size 72 4 (.slice oa qs.length oc) qs.length (qs.flatMap drCells) from dk_set_other (owns_below Hown.out.1 Hx6.out.below) (fun b hb => by have := (Hown.out.1.lt b hb).2; dsimp only; omega) _)
      go_wp2_with (at_builtin; refine wpList_append_own _ rfl _ _ 26 rfl w.heap.size 72 i0 _ 4 56 Try.underlying26 Hi.out Hz0.out Hz1.out Hz2.out rfl (by decide) _ qs.length _ rfl (Hown6f.out.alloc _) ⟨_, 0, none⟩ 1 1 (drCells ((⟨dr, dp, ds, dn⟩ : Dr), Value.slice a6 dn.length c6)) rfl rfl ?_ (dir_one _ ⟨_, _, _, rfl⟩) (by unfold maxLen; omega) (by omega) (by simp; omega) ?_; (exact dk_cells _ (drCells ((⟨dr, dp, ds, dn⟩ : Dr), Value.slice a6 dn.length c6)).toArray _ _ (by first | rfl | simp)); intro v7 w7 hown7 hgrow7 hnil7)
      have HbW := Lib.hid (show Below wr.heap.size wr ((w6.setCell ⟨wr.heap.size, 3, none⟩ (.slice a6 dn.length c6)).alloc (.cells (drCells ((⟨dr, dp, ds, dn⟩ : Dr), Value.slice a6 dn.length c6)).toArray 72)) from ba Hb6.out _)
      have Hq7 := Lib.hid (show ((w6.setCell ⟨wr.heap.size, 3, none⟩ (.slice a6 dn.length c6)).alloc (.cells (drCells ((⟨dr, dp, ds, dn⟩ : Dr), Value.slice a6 dn.length c6)).toArray 72)).ownsRow wr.heap.size 9 1 (.slice a6 dn.length c6) dn.length (dn.map sv) from (dk_set_other (owns_mono Hown6.out (by simp)) (fun b hb => by have := (Hown6.out.lt b hb).1; dsimp only; omega) _).alloc _)
      have Hx7 := Lib.hid ((bt Hbel.out HbW.out).grown hgrow7 (bt Hbel.out HbW.out).size (fun g hg => (Hown.out.1.lt g hg).1))
      have Hf7 := Lib.hid (dirs_snoc (q := ((⟨dr, dp, ds, dn⟩ : Dr), Value.slice a6 dn.length c6)) Hown.out HbW.out hsz Hq7.out hgrow7 hown7)
      have Hmp7 := Lib.hid (show (qs ++ [((⟨dr, dp, ds, dn⟩ : Dr), Value.slice a6 dn.length c6)]).map (·.1) = (ps.map (·.1)).take (k + 1) by rw [List.map_append, Hqs.out, Hsn.out]; rfl)
      clear hown7 hgrow7 hnil7
      go_roundw
      case rel => exact ⟨k + 1, _, by omega, by go_num, Hmp7.out, Hf7.out, Hx7.out⟩
      case measure => simp [intOf]; omega
    · obtain rfl : k = ps.length := by omega
      have Hf := Lib.hid (show qs.map (·.1) = ps.map (·.1) by rw [Hqs.out, List.take_of_length_le (by simp)])
      go_wp2_with fail
      go_ret
      exact ⟨_, qs, rfl, Hf.out, Hown.out, hbel⟩
set_option maxRecDepth 100000 in
set_option maxHeartbeats 4000000 in
theorem spec_copyDirs (v : Value) (ps : List (Dr × Value)) (B : Nat) (w : World) (h : OwnDirs w B v ps) (hl : ps.length ≤ 1048576) (hbl : ∀ p ∈ ps, p.1.names.length ≤ 1048576) :
    Calls Try.prog 88 #[v] w (NewDirs (ps.map (·.1)) w) := by
  obtain ⟨i0, hi, hz0, hz1, hz2⟩ := info_parts infoDir
  obtain ⟨i1, hi1, hy0, hy1, hy2⟩ := info_parts infoSD
  have Hi := Lib.hid hi
  have Hz0 := Lib.hid hz0
  have Hz1 := Lib.hid hz1
  have Hz2 := Lib.hid hz2
  have Hi1 := Lib.hid hi1
  have Hy0 := Lib.hid hy0
  have Hy1 := Lib.hid hy1
  have Hy2 := Lib.hid hy2
  have H := Lib.hid h
  have Hbl := Lib.hid hbl
  obtain ⟨aa, ca, rfl⟩ := h.len
  clear h hbl hi hz0 hz1 hz2 hi1 hy0 hy1 hy2
  go_enter Try.func88, Try.ntmps88
  go_wp2_with fail
  go_loopw [3, 4] (fun ov iv wr => ∃ (k : Nat) (qs : List (Dr × Value)), k ≤ ps.length ∧ iv = .int .i64 k ∧ qs.map (·.1) = (ps.map (·.1)).take k ∧ OwnDirs wr w.heap.size ov qs ∧ Below w.heap.size w wr) (fun _ iv _ => ps.length - (intOf iv).toNat)
  case atStart => exact ⟨0, [], by omega, rfl, rfl, ⟨World.ownsRow_made (base := w.heap.size) (size := 4) (e := 72) _ #[] 0 (Nat.le_refl _) (by unfold maxLen; omega) (by simp), OwnNames.nil _ _⟩, by (repeat (with_reducible first | exact Below.refl _ _ | assumption | refine ba ?_ _ | refine bd ?_ | refine bdN ?_ _ | refine bs ?_ (by first | exact Nat.le_refl _ | (dsimp only; omega) | (simp; done)) _ | refine bt ?_ (by assumption)))⟩
  case round =>
    obtain ⟨k, qs, hk, rfl, hqs, hown, hbel⟩ := hrel
    obtain ⟨oa, oc, rfl⟩ := hown.len
    have hsz := hbel.size
    have hql : qs.length ≤ 1048576 := by
      have h := congrArg List.length hqs
      simp at h
      omega
    have Hqs := Lib.hid hqs
    have Hown := Lib.hid hown
    have Hbel := Lib.hid hbel
    clear hqs hown
    by_cases hlt : k < ps.length
    · have hrow := (H.out.below hbel).1
      obtain ⟨g, cap, e1, hg, hg2⟩ := hrow.form (by omega)
      simp only [Value.slice.injEq] at e1
      obtain ⟨rfl, _, rfl⟩ := e1
      obtain ⟨⟨c0, c1, c2, c3⟩, _⟩ := own4 hrow k hlt
      have Hnam := Lib.hid ((H.out.below hbel).2.1 _ (List.getElem_mem hlt))
      have Hbk := Lib.hid (Hbl.out _ (List.getElem_mem hlt))
      have Hsn := Lib.hid (show (ps.map (·.1)).take (k + 1) = (ps.map (·.1)).take k ++ [ps[k].1] by rw [dir_take _ k (by simpa using hlt)]; simp)
      have hk1 : (k : Int) < (ps.length : Int) := by omega
      have hk0 : (0 : Int) ≤ (k : Int) := by omega
      obtain ⟨p, hp⟩ : ∃ p, p = ps[k] := ⟨_, rfl⟩
      rw [← hp] at c0 c1 c2 c3 Hnam Hbk Hsn
      clear hp hrow hg hg2 hbel
      obtain ⟨⟨dr, dp, ds, dn⟩, nv⟩ := p
      dsimp only at c0 c1 c2 c3 Hnam Hbk Hsn
      have hfb : dn.length ≤ 1048576 := Hbk.out
      have Hsv := Lib.hid (show ∀ u ∈ dn.map sv, u.oneCell' = true from fun u hu => by obtain ⟨s, _, rfl⟩ := List.mem_map.1 hu; rfl)
      obtain ⟨ab, cb, rfl⟩ := owns_shape Hnam.out
      obtain ⟨W5, hW5⟩ : ∃ W, W = (wr.alloc (.cells #[.int .i64 dr, .string (mk dp), .int .i64 ds, .slice ab dn.length cb] 72)).alloc (.cells #[] 9) := ⟨_, rfl⟩
      have HW5 := Lib.hid hW5
      have Hx5 := Lib.hid (show Boxed wr #[.int .i64 dr, .string (mk dp), .int .i64 ds, .slice ab dn.length cb] 72 W5 by rw [hW5]; exact (Boxed.start wr _ _).step (ba (Below.refl _ _) _))
      have Hm5 := Lib.hid (show W5.ownsRow (wr.heap.size + 1) 9 1 (.slice (some ⟨wr.heap.size + 1, 0, none⟩) 0 0) 0 [] by rw [hW5]; exact dk_made_at _ _ _ 1 _ (by simp) (by simp))
      have Hs5 := Lib.hid (owns_below Hnam.out Hx5.out.below)
      have hz5 : wr.heap.size + 1 ≤ W5.heap.size := by rw [hW5]; simp
      obtain ⟨d0, d1, d2, d3⟩ := four_of Hx5.out
      clear hW5
      go_upto_region 6 with fail
      go_upto_region 7 with (at_builtin; rw [← HW5.out]; refine wpList_append_both rfl _ _ 70 rfl (wr.heap.size + 1) 9 i1 _ 1 16 Try.underlying70 Hi1.out Hy0.out Hy1.out Hy2.out rfl (by decide) _ 0 _ rfl Hm5.out B _ dn.length _ rfl Hs5.out Hsv.out (by unfold maxLen; omega) (by omega) hz5 ?_; intro v6 w6 hown6 hgrow6; rw [Nat.zero_add, List.nil_append] at hown6; obtain ⟨a6, c6', hv6⟩ := owns_shape hown6; subst hv6; have Hown6 := Lib.hid hown6; have Hx6 := Lib.hid (show Boxed wr _ _ w6 from Below.grown Hx5.out hgrow6 Hx5.out.size (fun g hg => by have := (Hm5.out.lt g hg).1; simp; omega)); obtain ⟨e0, e1, e2, e3⟩ := four_of Hx6.out; have z3 := fourfree Hx6.out 3; clear hown6 hgrow6 d0 d1 d2 d3)
      have hl6 := Hx6.out.lt
      have Hb6 := Lib.hid (show Below wr.heap.size wr (w6.setCell ⟨wr.heap.size, 3, none⟩ (.slice a6 dn.length c6')) from bs Hx6.out.below (Nat.le_refl _) _)
      have Hown6f := Lib.hid (show (w6.setCell ⟨wr.heap.size, 3, none⟩ (.slice a6 dn.length c6')).ownsRow w.heap.size 72 4 (.slice oa qs.length oc) qs.length (qs.flatMap drCells) from dk_set_other (owns_below Hown.out.1 Hx6.out.below) (fun b hb => by have := (Hown.out.1.lt b hb).2; dsimp only; omega) _)
      go_wp2_with (at_builtin; refine wpList_append_own _ rfl _ _ 26 rfl w.heap.size 72 i0 _ 4 56 Try.underlying26 Hi.out Hz0.out Hz1.out Hz2.out rfl (by decide) _ qs.length _ rfl (Hown6f.out.alloc _) ⟨_, 0, none⟩ 1 1 (drCells ((⟨dr, dp, ds, dn⟩ : Dr), Value.slice a6 dn.length c6')) rfl rfl ?_ (dir_one _ ⟨_, _, _, rfl⟩) (by unfold maxLen; omega) (by omega) (by simp; omega) ?_; (exact dk_cells _ (drCells ((⟨dr, dp, ds, dn⟩ : Dr), Value.slice a6 dn.length c6')).toArray _ _ (by first | rfl | simp)); intro v7 w7 hown7 hgrow7 hnil7)
      have HbW := Lib.hid (show Below wr.heap.size wr ((w6.setCell ⟨wr.heap.size, 3, none⟩ (.slice a6 dn.length c6')).alloc (.cells (drCells ((⟨dr, dp, ds, dn⟩ : Dr), Value.slice a6 dn.length c6')).toArray 72)) from ba Hb6.out _)
      have Hq7 := Lib.hid (show ((w6.setCell ⟨wr.heap.size, 3, none⟩ (.slice a6 dn.length c6')).alloc (.cells (drCells ((⟨dr, dp, ds, dn⟩ : Dr), Value.slice a6 dn.length c6')).toArray 72)).ownsRow wr.heap.size 9 1 (.slice a6 dn.length c6') dn.length (dn.map sv) from (dk_set_other (owns_mono Hown6.out (by omega)) (fun b hb => by have := (Hown6.out.lt b hb).1; dsimp only; omega) _).alloc _)
      have Hx7 := Lib.hid ((bt Hbel.out HbW.out).grown hgrow7 (bt Hbel.out HbW.out).size (fun g hg => (Hown.out.1.lt g hg).1))
      have Hf7 := Lib.hid (dirs_snoc (q := ((⟨dr, dp, ds, dn⟩ : Dr), Value.slice a6 dn.length c6')) Hown.out HbW.out hsz Hq7.out hgrow7 hown7)
      have Hmp7 := Lib.hid (show (qs ++ [((⟨dr, dp, ds, dn⟩ : Dr), Value.slice a6 dn.length c6')]).map (·.1) = (ps.map (·.1)).take (k + 1) by rw [List.map_append, Hqs.out, Hsn.out]; rfl)
      clear hown7 hgrow7 hnil7
      go_roundw
      case rel => exact ⟨k + 1, _, by omega, by go_num, Hmp7.out, Hf7.out, Hx7.out⟩
      case measure => simp [intOf]; omega
    · obtain rfl : k = ps.length := by omega
      have Hf := Lib.hid (show qs.map (·.1) = ps.map (·.1) by rw [Hqs.out, List.take_of_length_le (by simp)])
      go_wp2_with fail
      go_ret
      exact ⟨_, qs, rfl, Hf.out, Hown.out, hbel⟩
/-! ### Directories with one in the place of what was known of it. -/
def putDr (ds : List Dr) (d : Dr) : List Dr := if 0 ≤ dirAt ds (dplace d) then ds.set (dirAt ds (dplace d)).toNat d else ds ++ [d]
theorem putDr_at {ds : List Dr} {d : Dr} {k : Nat} (h : dirAt ds (dplace d) = (k : Int)) : putDr ds d = ds.set k d := by unfold putDr; rw [h]; simp
theorem putDr_new {ds : List Dr} {d : Dr} (h : dirAt ds (dplace d) = -1) : putDr ds d = ds ++ [d] := by unfold putDr; rw [h]; simp
/-- A row of names shares no block with others. -/
def ApartD (nv : Value) (ps : List (Dr × Value)) : Prop := ∀ p ∈ ps, ∀ b, p.2.ownBlock = some b → nv.ownBlock ≠ some b
theorem dk_names_grown {w w' : World} {B : Nat} {ps : List (Dr × Value)} {row : Option Nat} (h : OwnNames w B ps) (hg : w.grownBy w' row) (hr : ∀ b, row = some b → ∀ p ∈ ps, p.2.ownBlock ≠ some b) : OwnNames w' B ps :=
  h.heap (fun b _ hlt ⟨p, hp, hb⟩ => hg.block b hlt (fun e => hr b e.symm p hp hb))
theorem dk_names_set {w w' : World} {B : Nat} {ps : List (Dr × Value)} {c : Dr} {nv : Value} {row : Option Nat} (h : OwnNames w B ps) (hg : w.grownBy w' row) (hr : ∀ b, row = some b → ∀ p ∈ ps, p.2.ownBlock ≠ some b)
    (hc : w'.ownsRow B 9 1 nv c.names.length (c.names.map sv)) (ha : ApartD nv ps) (k : Nat) : OwnNames w' B (ps.set k (c, nv)) := by
  have h1 := dk_names_grown h hg hr
  refine ⟨fun p hp => ?_, ?_⟩
  · rcases List.mem_or_eq_of_mem_set hp with hp | rfl
    · exact h1.1 p hp
    · exact hc
  · rw [List.pairwise_iff_getElem]
    intro i j hi hj hij b hb hb'
    rw [List.length_set] at hi hj
    have h2 := List.pairwise_iff_getElem.1 h.2 i j hi hj hij b
    rw [List.getElem_set] at hb hb'
    split at hb <;> split at hb'
    · omega
    · exact ha _ (List.getElem_mem hj) b hb' hb
    · exact ha _ (List.getElem_mem hi) b hb hb'
    · exact h2 hb hb'
theorem dk_names_app {w : World} {B : Nat} {ps : List (Dr × Value)} {c : Dr} {nv : Value} (h : OwnNames w B ps)
    (hc : w.ownsRow B 9 1 nv c.names.length (c.names.map sv)) (ha : ApartD nv ps) : OwnNames w B (ps ++ [(c, nv)]) := by
  refine ⟨fun p hp => ?_, ?_⟩
  · rcases List.mem_append.1 hp with hp | hp
    · exact h.1 p hp
    · simp at hp; subst hp; exact hc
  · rw [List.pairwise_append]
    refine ⟨h.2, by simp, fun p hp x hx b hpb => ?_⟩
    simp at hx; subst hx
    exact ha p hp b hpb
/-- Directories, their row and names from block B on, with others for those that came. -/
def PutDirs (B : Nat) (v nv : Value) (ps : List (Dr × Value)) (ds : List Dr) (w : World) (e : Ending) (w' : World) : Prop :=
  ∃ v' ps', e = .returned v' ∧ ps'.map (·.1) = ds ∧ OwnDirs w' B v' ps' ∧ w.grownBy w' v.ownBlock ∧ ∀ p ∈ ps', p ∈ ps ∨ p.2 = nv
theorem dk_set4 {w W : World} {g : Nat} (h : w.grownBy W (some g)) (i : Nat) (x : Value) : w.grownBy (W.setCell ⟨g, i, none⟩ x) (some g) :=
  ⟨h.os, h.tape, h.output, by simpa using h.size, fun j hj hne => (Below.heap_setCell W ⟨g, i, none⟩ x j (fun e => hne (by rw [e]))).trans (h.block j hj hne)⟩
theorem dk_refl (w : World) (r : Option Nat) : w.grownBy w r := ⟨rfl, rfl, rfl, Nat.le_refl _, fun _ _ _ => rfl⟩
theorem dk_trans {a b c : World} {r : Option Nat} (h : a.grownBy b r) (k : b.grownBy c r) : a.grownBy c r :=
  ⟨k.os.trans h.os, k.tape.trans h.tape, k.output.trans h.output, Nat.le_trans h.size k.size, fun i hi hne => (k.block i (Nat.lt_of_lt_of_le hi h.size) hne).trans (h.block i hi hne)⟩
theorem dk_below {a b : World} (h : Below a.heap.size a b) (r : Option Nat) : a.grownBy b r := ⟨h.os, h.tape, h.output, h.size, fun i hi _ => h.block i hi⟩
theorem dk_kept {w w' : World} {B n m : Nat} {v nv : Value} {xs ys : List Value} (hc : w.ownsRow B 9 1 nv n xs) (hr : w.ownsRow B 72 4 v m ys) (hg : w.grownBy w' v.ownBlock) : w'.ownsRow B 9 1 nv n xs :=
  owns_heap hc (fun b hb => hg.block b (owns_block hc hb).2 (fun e => own_types (by decide) hr hc e.symm hb))

set_option maxRecDepth 100000 in
set_option maxHeartbeats 4000000 in
theorem impl_putDir (v : Value) (ps : List (Dr × Value)) (dr : Int) (dp : Bs) (ds : Int) (dn : List Bs) (nv : Value) (B : Nat) (w : World) (h : OwnDirs w B v ps) (hB : B ≤ w.heap.size) (hl : ps.length ≤ 1048576)
    (hc : w.ownsRow B 9 1 nv dn.length (dn.map sv)) (ha : ApartD nv ps) :
    Calls Try.prog 84 #[v, .agg #[.int .i64 dr, .string (mk dp), .int .i64 ds, nv]] w (PutDirs B v nv ps (putDr (ps.map (·.1)) ⟨dr, dp, ds, dn⟩) w) := by
  obtain ⟨i0, hi, hz0, hz1, hz2⟩ := info_parts infoDir
  have Hi := Lib.hid hi
  have Hz0 := Lib.hid hz0
  have Hz1 := Lib.hid hz1
  have Hz2 := Lib.hid hz2
  have H := Lib.hid h
  have Hc := Lib.hid hc
  have Ha := Lib.hid ha
  have Hr := Lib.hid (h.dirs (D := fun _ => True) (fun _ _ => trivial))
  obtain ⟨aa, ca, rfl⟩ := h.len
  obtain ⟨ab, cb, rfl⟩ := owns_shape hc
  clear h hc ha hi hz0 hz1 hz2
  have Hb0 := Lib.hid (Boxed.start w #[.int .i64 dr, .string (mk dp), .int .i64 ds, .slice ab dn.length cb] 72)
  have hrg := keyAt_is (key := dplace) (ps.map (·.1)) (dr, dp)
  rcases hrg with ⟨hno, _⟩ | ⟨k, hk, hyes, _, _⟩
  · have Hv := Lib.hid (show putDr (ps.map (·.1)) ⟨dr, dp, ds, dn⟩ = ps.map (·.1) ++ [⟨dr, dp, ds, dn⟩] from putDr_new hno)
    have H1 := Lib.hid (show dirPtr aa (dirAt (ps.map (·.1)) (dr, dp)) = .pointer none by rw [show dirAt (ps.map (·.1)) (dr, dp) = -1 from hno]; rfl)
    rw [Hv.out]
    clear hno
    go_enter Try.func84, Try.ntmps84
    go_wp2_with (first
      | (go_at_call 95; refine (impl_placeOfDir _ _ _ _ _).mono ?_; rintro _ w5 ⟨rfl, hb5⟩; have Hx5 := Lib.hid (Hb0.out.step hb5))
      | (go_at_call 94; refine (impl_dirAt aa ps.length ca (ps.map (·.1)) (fun _ => True) (dr, dp) _ (Hr.out.below Hx5.out.below)).mono ?_; rintro _ w6 ⟨rfl, hb6⟩; rw [H1.out]; have Hx6 := Lib.hid (Hx5.out.step hb6); obtain ⟨d0, d1, d2, d3⟩ := four_of Hx6.out)
      | (at_builtin; refine wpList_append_own _ rfl _ _ 26 rfl B 72 i0 _ 4 56 Try.underlying26 Hi.out Hz0.out Hz1.out Hz2.out rfl (by decide) _ ps.length _ rfl (owns_below H.out.1 (ba Hx6.out.below _)) ⟨_, 0, none⟩ 1 1 (drCells ((⟨dr, dp, ds, dn⟩ : Dr), Value.slice ab dn.length cb)) rfl rfl ?_ (dir_one _ ⟨_, _, _, rfl⟩) (by unfold maxLen; omega) (by omega) (by have := Hx6.out.lt; simp; omega) ?_; (exact dk_cells _ (drCells ((⟨dr, dp, ds, dn⟩ : Dr), Value.slice ab dn.length cb)).toArray _ _ (by first | rfl | simp)); intro v7 w7 hown7 hgrow7 hnil7; have Hown7 := Lib.hid hown7; have Hgrow7 := Lib.hid hgrow7; clear hown7 hgrow7 hnil7))
    have HbW := Lib.hid (show Below w.heap.size w (w6.alloc (.cells (drCells ((⟨dr, dp, ds, dn⟩ : Dr), Value.slice ab dn.length cb)).toArray 72)) from ba Hx6.out.below _)
    have HrW := Lib.hid (owns_below H.out.1 HbW.out)
    go_ret
    refine ⟨v7, ps ++ [((⟨dr, dp, ds, dn⟩ : Dr), Value.slice ab dn.length cb)], rfl, by simp, ⟨by have h := Hown7.out; simpa using h, dk_names_app (dk_names_grown (H.out.2.below HbW.out) Hgrow7.out (fun b hb p hp => own_types (by decide) HrW.out ((H.out.2.below HbW.out).1 p hp) hb)) (dk_kept (owns_below Hc.out HbW.out) HrW.out Hgrow7.out) Ha.out⟩, dk_trans (dk_below HbW.out _) Hgrow7.out, fun p hp => by rcases List.mem_append.1 hp with hp | hp; exact .inl hp; simp at hp; subst hp; exact .inr rfl⟩
  · have hk' : k < ps.length := by simpa using hk
    have Hv := Lib.hid (show putDr (ps.map (·.1)) ⟨dr, dp, ds, dn⟩ = (ps.map (·.1)).set k ⟨dr, dp, ds, dn⟩ from putDr_at hyes)
    obtain ⟨g, cap, e1, hg, hg2⟩ := H.out.1.form (by omega)
    simp only [Value.slice.injEq] at e1
    obtain ⟨rfl, _, rfl⟩ := e1
    have H1 := Lib.hid (show dirPtr (some ⟨g, 0, none⟩) (dirAt (ps.map (·.1)) (dr, dp)) = .pointer (some ⟨g, k * 4, none⟩) by rw [show dirAt (ps.map (·.1)) (dr, dp) = (k : Int) from hyes, dirPtr_yes, Nat.zero_add])
    rw [Hv.out]
    clear hyes
    go_enter Try.func84, Try.ntmps84
    go_wp2_with (first
      | (go_at_call 95; refine (impl_placeOfDir _ _ _ _ _).mono ?_; rintro _ w5 ⟨rfl, hb5⟩; have Hx5 := Lib.hid (Hb0.out.step hb5))
      | (go_at_call 94; refine (impl_dirAt (some ⟨g, 0, none⟩) ps.length ca (ps.map (·.1)) (fun _ => True) (dr, dp) _ (Hr.out.below Hx5.out.below)).mono ?_; rintro _ w6 ⟨rfl, hb6⟩; rw [H1.out]; have Hx6 := Lib.hid (Hx5.out.step hb6); obtain ⟨d0, d1, d2, d3⟩ := four_of Hx6.out; obtain ⟨⟨c0, c1, c2, c3⟩, z0, z1, z2, z3⟩ := own4 (owns_below H.out.1 Hx6.out.below) k hk'))
    have Hr6 := Lib.hid (owns_below H.out.1 Hx6.out.below)
    have Hput := Lib.hid (own4_put Hr6.out k hk' ((⟨dr, dp, ds, dn⟩ : Dr), Value.slice ab dn.length cb))
    have Hg8 := Lib.hid (dk_set4 (dk_set4 (dk_set4 (dk_set4 (dk_refl w6 (some g)) (k * 4) (.int .i64 dr)) (k * 4 + 1) (.string (mk dp))) (k * 4 + 2) (.int .i64 ds)) (k * 4 + 3) (.slice ab dn.length cb))
    go_ret
    refine ⟨_, ps.set k ((⟨dr, dp, ds, dn⟩ : Dr), Value.slice ab dn.length cb), rfl, by rw [List.map_set], ⟨by rw [List.length_set]; exact Hput.out, dk_names_set (H.out.2.below Hx6.out.below) Hg8.out (fun b hb p hp => own_types (by decide) Hr6.out ((H.out.2.below Hx6.out.below).1 p hp) hb) (dk_kept (owns_below Hc.out Hx6.out.below) Hr6.out Hg8.out) Ha.out k⟩, dk_trans (dk_below Hx6.out.below _) Hg8.out, fun p hp => by rcases List.mem_or_eq_of_mem_set hp with hp | rfl; exact .inl hp; exact .inr rfl⟩
end Go.Proofs.Ytgecemngfpgcoaa
