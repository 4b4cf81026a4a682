/- Contracts of the copies of directories, of both sides. -/
import Derived.Test.YtgecemngfpgcoaaDskMem
import Derived.Test.YtgecemngfpgcoaaBoth
import Derived.Laws.AppendOwnNone
import Derived.Deep.DeepCutAuto
import Derived.Test.YtgecemngfpgcoaaDisks
import Derived.Test.YtgecemngfpgcoaaHBox
import Derived.Test.YtgecemngfpgcoaaHasF
import Derived.Deep.RegionHeld3
import Derived.Deep.RegionLaw
import Derived.RegionCalls
import Derived.Test.YtgecemngfpgcoaaExAdds
import Derived.Test.YtgecemngfpgcoaaSRem
set_option linter.unusedVariables false
set_option linter.unusedSimpArgs false
namespace Go.Proofs.Ytgecemngfpgcoaa
open Go.RowKit Go.Proofs.Ytgecemngfpgcoaa.Nm

theorem four_of {w wr : World} {c0 c1 c2 c3 : Value} {T : TypeId} (h : Boxed w #[c0, c1, c2, c3] T wr) :
    wr.cell? ⟨w.heap.size, 0, none⟩ = some c0 ∧ wr.cell? ⟨w.heap.size, 1, none⟩ = some c1 ∧ wr.cell? ⟨w.heap.size, 2, none⟩ = some c2 ∧ wr.cell? ⟨w.heap.size, 3, none⟩ = some c3 :=
  ⟨h.cell 0, h.cell 1, h.cell 2, h.cell 3⟩
theorem fourfree {w wr : World} {cs : Array Value} {T : TypeId} (h : Boxed w cs T wr) (i : Nat) : wr.frozen? ⟨w.heap.size, i, none⟩ = false := by
  have := h.frozen (p := ⟨w.heap.size, i, none⟩) (by simp)
  rw [this]; simp [go_sem]
theorem dir_one (p : Dr × Value) (h : ∃ a n c, p.2 = .slice a n c) : ∀ x ∈ drCells p, x.oneCell' = true := fun x hx => by
  obtain ⟨a, n, c, e⟩ := h
  simp only [drCells, List.mem_cons, List.not_mem_nil, or_false] at hx
  rcases hx with rfl | rfl | rfl | rfl
  all_goals first | rfl | (rw [e]; rfl)
theorem dk_cells (w : World) (cs : Array Value) (T : TypeId) (b : Nat) (hb : b = w.heap.size) : ∀ (j : Nat) (u : Value), cs.toList[j]? = some u → (w.alloc (.cells cs T)).cell? ((⟨b, 0, none⟩ : Addr).add j) = some u := by
  subst hb
  intro j u hu
  have e : (w.alloc (.cells cs T)).heap[w.heap.size]? = some (.cells cs T (0, 0)) := by
    show (w.heap.push (Obj.cells cs T (0, 0)))[w.heap.size]? = _
    simp
  have ha : (⟨w.heap.size, 0, none⟩ : Addr).add j = ⟨w.heap.size, j, none⟩ := by unfold Addr.add; split <;> simp_all
  rw [ha]
  simp only [World.cell?, e]
  simpa using hu
theorem dk_set_other {w : World} {B e size n : Nat} {v : Value} {xs : List Value} (h : w.ownsRow B e size v n xs) {p : Addr} (hp : ∀ b, v.ownBlock = some b → b ≠ p.block) (u : Value) : (w.setCell p u).ownsRow B e size v n xs :=
  owns_heap h (fun b hb => Below.heap_setCell w p u b (hp b hb))
theorem dk_made_at (W : World) (g base size : Nat) (e : TypeId) (hg : g = W.heap.size) (hb : base ≤ g) : (W.alloc (.cells #[] e)).ownsRow base e size (.slice (some ⟨g, 0, none⟩) 0 0) 0 [] := by
  subst hg
  exact World.ownsRow_made (base := base) (size := size) (e := e) W #[] 0 hb (by unfold maxLen; omega) (by simp)
set_option maxRecDepth 100000 in
set_option maxHeartbeats 2000000 in
theorem dir_take {α : Type} (cs : List α) (k : Nat) (h : k < cs.length) : cs.take (k + 1) = cs.take k ++ [cs[k]] := by rw [List.take_succ_eq_append_getElem h]
/-- One more directory with names of its own behind others. -/
theorem dirs_snoc {wr W w7 : World} {B : Nat} {ov v7 : Value} {qs : List (Dr × Value)} {q : Dr × Value} (h : OwnDirs wr B ov qs) (hb : Below wr.heap.size wr W) (hB : B ≤ wr.heap.size)
    (hq : W.ownsRow wr.heap.size 9 1 q.2 q.1.names.length (q.1.names.map sv)) (hg : W.grownBy w7 ov.ownBlock)
    (h7 : w7.ownsRow B 72 4 v7 (qs.length + 1) (qs.flatMap drCells ++ drCells q)) : OwnDirs w7 B v7 (qs ++ [q]) := by
  refine ⟨by simpa using h7, ?_⟩
  have h1 := h.2.snoc hb hB hq
  exact h1.heap (fun b _ hlt ⟨p, hp, hpb⟩ => hg.block b hlt (fun e => own_types (T := 72) (T' := 9) (by decide) (owns_below h.1 hb) (h1.1 p hp) e.symm hpb))
theorem infoSD : (Try.prog.info? 9).map (fun i => (i.zero, i.size, i.bytes)) = some (some (.string ByteArray.empty), 1, 16) := by kernel_rfl
set_option maxRecDepth 100000 in
set_option maxHeartbeats 4000000 in
theorem impl_copyDirs (v : Value) (ps : List (Dr × Value)) (B : Nat) (w : World) (h : OwnDirs w B v ps) (hl : ps.length ≤ 1048576) (hbl : ∀ p ∈ ps, p.1.names.length ≤ 1048576) :
    Calls Try.prog 82 #[v] w (NewDirs (ps.map (·.1)) w) := by
  obtain ⟨i0, hi, hz0, hz1, hz2⟩ := info_parts infoDir
  obtain ⟨i1, hi1, hy0, hy1, hy2⟩ := info_parts infoSD
  have Hi := Lib.hid hi
  have Hz0 := Lib.hid hz0
  have Hz1 := Lib.hid hz1
  have Hz2 := Lib.hid hz2
  have Hi1 := Lib.hid hi1
  have Hy0 := Lib.hid hy0
  have Hy1 := Lib.hid hy1
  have Hy2 := Lib.hid hy2
  have H := Lib.hid h
  have Hbl := Lib.hid hbl
  obtain ⟨aa, ca, rfl⟩ := h.len
  clear h hbl hi hz0 hz1 hz2 hi1 hy0 hy1 hy2
  go_enter Try.func82, Try.ntmps82
  go_wp2_with fail
  go_loopw [3, 8] (fun ov iv wr => ∃ (k : Nat) (qs : List (Dr × Value)), k ≤ ps.length ∧ iv = .int .i64 k ∧ qs.map (·.1) = (ps.map (·.1)).take k ∧ OwnDirs wr w.heap.size ov qs ∧ Below w.heap.size w wr) (fun _ iv _ => ps.length - (intOf iv).toNat)
  case atStart => exact ⟨0, [], by omega, rfl, rfl, ⟨World.ownsRow_nil _ _ _ _, OwnNames.nil _ _⟩, Below.refl _ _⟩
  case round =>
    obtain ⟨k, qs, hk, rfl, hqs, hown, hbel⟩ := hrel
    obtain ⟨oa, oc, rfl⟩ := hown.len
    have hsz := hbel.size
    have hql : qs.length ≤ 1048576 := by
      have h := congrArg List.length hqs
      simp at h
      omega
    have Hqs := Lib.hid hqs
    have Hown := Lib.hid hown
    have Hbel := Lib.hid hbel
    clear hqs hown
    by_cases hlt : k < ps.length
    · have hrow := (H.out.below hbel).1
      obtain ⟨g, cap, e1, hg, hg2⟩ := hrow.form (by omega)
      simp only [Value.slice.injEq] at e1
      obtain ⟨rfl, hnn, rfl⟩ := e1
      clear hnn
      obtain ⟨⟨c0, c1, c2, c3⟩, _⟩ := own4 hrow k hlt
      have Hnam := Lib.hid ((H.out.below hbel).2.1 _ (List.getElem_mem hlt))
      have hbk := Hbl.out _ (List.getElem_mem hlt)
      have Hsn := Lib.hid (show (ps.map (·.1)).take (k + 1) = (ps.map (·.1)).take k ++ [ps[k].1] by rw [dir_take _ k (by simpa using hlt)]; simp)
      have hk1 : (k : Int) < (ps.length : Int) := by omega
      have hk0 : (0 : Int) ≤ (k : Int) := by omega
      obtain ⟨p, hp⟩ : ∃ p, p = ps[k] := ⟨_, rfl⟩
      rw [← hp] at c0 c1 c2 c3 Hnam hbk Hsn
      clear hp hrow hg hg2 hbel
      obtain ⟨⟨dr, dp, ds, dn⟩, nv⟩ := p
      dsimp only at c0 c1 c2 c3 Hnam hbk Hsn
      obtain ⟨ab, cb, rfl⟩ := owns_shape Hnam.out
      have Hb5 := Lib.hid (Boxed.start wr #[.int .i64 dr, .string (mk dp), .int .i64 ds, .slice ab dn.length cb] 72)
      have hsv : ∀ u ∈ dn.map sv, u.oneCell' = true := fun u hu => by obtain ⟨s, _, rfl⟩ := List.mem_map.1 hu; rfl
      have Hsv := Lib.hid hsv
      clear hsv
      go_upto_region 6 with (at_builtin; go_loud (refine wpList_append_both rfl _ _ 70 rfl (wr.heap.size + 1) 9 i1 _ 1 16 Try.underlying70 Hi1.out Hy0.out Hy1.out Hy2.out rfl (by decide) (.slice none 0 0) 0 [] rfl (World.ownsRow_nil _ _ _ _) B _ dn.length _ rfl (Hnam.out.alloc _) Hsv.out (by unfold maxLen; omega) (by omega) (by simp) ?_; intro v6 w6 hown6 hgrow6; rw [Nat.zero_add, List.nil_append] at hown6; obtain ⟨a6, c6, hv6⟩ := owns_shape hown6; subst hv6; have Hown6 := Lib.hid hown6; have Hx6 := Lib.hid (Hb5.out.step ((Below.refl _ _).grown hgrow6 (Nat.le_refl _) (fun g hg => by cases hg))); clear hown6 hgrow6; obtain ⟨d0, d1, d2, d3⟩ := four_of Hx6.out; have z3 := fourfree Hx6.out 3))
      clear c0 c1 c2 c3
      have hl6 := Hx6.out.lt
      have Hb6 := Lib.hid (show Below wr.heap.size wr (w6.setCell ⟨wr.heap.size, 3, none⟩ (.slice a6 dn.length c6)) from bs Hx6.out.below (Nat.le_refl _) _)
      have Hown6f := Lib.hid (show (w6.setCell ⟨wr.heap.size, 3, none⟩ (.slice a6 dn.length c6)).ownsRow w.heap.size 72 4 (.slice oa qs.length oc) qs.length (qs.flatMap drCells) from dk_set_other (owns_below Hown.out.1 Hx6.out.below) (fun b hb => by have := (Hown.out.1.lt b hb).2; dsimp only; omega) _)
      go_wp2_with (at_builtin; refine wpList_append_own _ rfl _ _ 26 rfl w.heap.size 72 i0 _ 4 56 Try.underlying26 Hi.out Hz0.out Hz1.out Hz2.out rfl (by decide) _ qs.length _ rfl (Hown6f.out.alloc _) ⟨_, 0, none⟩ 1 1 (drCells ((⟨dr, dp, ds, dn⟩ : Dr), Value.slice a6 dn.length c6)) rfl rfl ?_ (dir_one _ ⟨_, _, _, rfl⟩) (by unfold maxLen; omega) (by omega) (by simp; omega) ?_; (exact dk_cells _ (drCells ((⟨dr, dp, ds, dn⟩ : Dr), Value.slice a6 dn.length c6)).toArray _ _ (by first | rfl | simp)); intro v7 w7 hown7 hgrow7 hnil7)
      have HbW := Lib.hid (show Below wr.heap.size wr ((w6.setCell ⟨wr.heap.size, 3, none⟩ (.slice a6 dn.length c6)).alloc (.cells (drCells ((⟨dr, dp, ds, dn⟩ : Dr), Value.slice a6 dn.length c6)).toArray 72)) from ba Hb6.out _)
      have Hq7 := Lib.hid (show ((w6.setCell ⟨wr.heap.size, 3, none⟩ (.slice a6 dn.length c6)).alloc (.cells (drCells ((⟨dr, dp, ds, dn⟩ : Dr), Value.slice a6 dn.length c6)).toArray 72)).ownsRow wr.heap.size 9 1 (.slice a6 dn.length c6) dn.length (dn.map sv) from (dk_set_other (owns_mono Hown6.out (by simp)) (fun b hb => by have := (Hown6.out.lt b hb).1; dsimp only; omega) _).alloc _)
      have Hx7 := Lib.hid ((bt Hbel.out HbW.out).grown hgrow7 (bt Hbel.out HbW.out).size (fun g hg => (Hown.out.1.lt g hg).1))
      have Hf7 := Lib.hid (dirs_snoc (q := ((⟨dr, dp, ds, dn⟩ : Dr), Value.slice a6 dn.length c6)) Hown.out HbW.out hsz Hq7.out hgrow7 hown7)
      have Hmp7 := Lib.hid (show (qs ++ [((⟨dr, dp, ds, dn⟩ : Dr), Value.slice a6 dn.length c6)]).map (·.1) = (ps.map (·.1)).take (k + 1) by rw [List.map_append, Hqs.out, Hsn.out]; rfl)
      clear hown7 hgrow7 hnil7
      go_roundw
      case rel => exact ⟨k + 1, _, by omega, by go_num, Hmp7.out, Hf7.out, Hx7.out⟩
      case measure => simp [intOf]; omega
    · obtain rfl : k = ps.length := by omega
      have Hf := Lib.hid (show qs.map (·.1) = ps.map (·.1) by rw [Hqs.out, List.take_of_length_le (by simp)])
      go_wp2_with fail
      go_ret
      exact ⟨_, qs, rfl, Hf.out, Hown.out, hbel⟩
set_option maxRecDepth 100000 in
set_option maxHeartbeats 4000000 in
theorem spec_copyDirs (v : Value) (ps : List (Dr × Value)) (B : Nat) (w : World) (h : OwnDirs w B v ps) (hl : ps.length ≤ 1048576) (hbl : ∀ p ∈ ps, p.1.names.length ≤ 1048576) :
    Calls Try.prog 88 #[v] w (NewDirs (ps.map (·.1)) w) := by
  obtain ⟨i0, hi, hz0, hz1, hz2⟩ := info_parts infoDir
  obtain ⟨i1, hi1, hy0, hy1, hy2⟩ := info_parts infoSD
  have Hi := Lib.hid hi
  have Hz0 := Lib.hid hz0
  have Hz1 := Lib.hid hz1
  have Hz2 := Lib.hid hz2
  have Hi1 := Lib.hid hi1
  have Hy0 := Lib.hid hy0
  have Hy1 := Lib.hid hy1
  have Hy2 := Lib.hid hy2
  have H := Lib.hid h
  have Hbl := Lib.hid hbl
  obtain ⟨aa, ca, rfl⟩ := h.len
  clear h hbl hi hz0 hz1 hz2 hi1 hy0 hy1 hy2
  go_enter Try.func88, Try.ntmps88
  go_wp2_with fail
  go_loopw [3, 4] (fun ov iv wr => ∃ (k : Nat) (qs : List (Dr × Value)), k ≤ ps.length ∧ iv = .int .i64 k ∧ qs.map (·.1) = (ps.map (·.1)).take k ∧ OwnDirs wr w.heap.size ov qs ∧ Below w.heap.size w wr) (fun _ iv _ => ps.length - (intOf iv).toNat)
  case atStart => exact ⟨0, [], by omega, rfl, rfl, ⟨World.ownsRow_made (base := w.heap.size) (size := 4) (e := 72) _ #[] 0 (Nat.le_refl _) (by unfold maxLen; omega) (by simp), OwnNames.nil _ _⟩, by (repeat (with_reducible first | exact Below.refl _ _ | assumption | refine ba ?_ _ | refine bd ?_ | refine bdN ?_ _ | refine bs ?_ (by first | exact Nat.le_refl _ | (dsimp only; omega) | (simp; done)) _ | refine bt ?_ (by assumption)))⟩
  case round =>
    obtain ⟨k, qs, hk, rfl, hqs, hown, hbel⟩ := hrel
    obtain ⟨oa, oc, rfl⟩ := hown.len
    have hsz := hbel.size
    have hql : qs.length ≤ 1048576 := by
      have h := congrArg List.length hqs
      simp at h
      omega
    have Hqs := Lib.hid hqs
    have Hown := Lib.hid hown
    have Hbel := Lib.hid hbel
    clear hqs hown
    by_cases hlt : k < ps.length
    · have hrow := (H.out.below hbel).1
      obtain ⟨g, cap, e1, hg, hg2⟩ := hrow.form (by omega)
      simp only [Value.slice.injEq] at e1
      obtain ⟨rfl, _, rfl⟩ := e1
      obtain ⟨⟨c0, c1, c2, c3⟩, _⟩ := own4 hrow k hlt
      have Hnam := Lib.hid ((H.out.below hbel).2.1 _ (List.getElem_mem hlt))
      have Hbk := Lib.hid (Hbl.out _ (List.getElem_mem hlt))
      have Hsn := Lib.hid (show (ps.map (·.1)).take (k + 1) = (ps.map (·.1)).take k ++ [ps[k].1] by rw [dir_take _ k (by simpa using hlt)]; simp)
      have hk1 : (k : Int) < (ps.length : Int) := by omega
      have hk0 : (0 : Int) ≤ (k : Int) := by omega
      obtain ⟨p, hp⟩ : ∃ p, p = ps[k] := ⟨_, rfl⟩
      rw [← hp] at c0 c1 c2 c3 Hnam Hbk Hsn
      clear hp hrow hg hg2 hbel
      obtain ⟨⟨dr, dp, ds, dn⟩, nv⟩ := p
      dsimp only at c0 c1 c2 c3 Hnam Hbk Hsn
      have hfb : dn.length ≤ 1048576 := Hbk.out
      have Hsv := Lib.hid (show ∀ u ∈ dn.map sv, u.oneCell' = true from fun u hu => by obtain ⟨s, _, rfl⟩ := List.mem_map.1 hu; rfl)
      obtain ⟨ab, cb, rfl⟩ := owns_shape Hnam.out
      obtain ⟨W5, hW5⟩ : ∃ W, W = (wr.alloc (.cells #[.int .i64 dr, .string (mk dp), .int .i64 ds, .slice ab dn.length cb] 72)).alloc (.cells #[] 9) := ⟨_, rfl⟩
      have HW5 := Lib.hid hW5
      have Hx5 := Lib.hid (show Boxed wr #[.int .i64 dr, .string (mk dp), .int .i64 ds, .slice ab dn.length cb] 72 W5 by rw [hW5]; exact (Boxed.start wr _ _).step (ba (Below.refl _ _) _))
      have Hm5 := Lib.hid (show W5.ownsRow (wr.heap.size + 1) 9 1 (.slice (some ⟨wr.heap.size + 1, 0, none⟩) 0 0) 0 [] by rw [hW5]; exact dk_made_at _ _ _ 1 _ (by simp) (by simp))
      have Hs5 := Lib.hid (owns_below Hnam.out Hx5.out.below)
      have hz5 : wr.heap.size + 1 ≤ W5.heap.size := by rw [hW5]; simp
      obtain ⟨d0, d1, d2, d3⟩ := four_of Hx5.out
      clear hW5
      go_upto_region 6 with fail
      go_upto_region 7 with (at_builtin; rw [← HW5.out]; refine wpList_append_both rfl _ _ 70 rfl (wr.heap.size + 1) 9 i1 _ 1 16 Try.underlying70 Hi1.out Hy0.out Hy1.out Hy2.out rfl (by decide) _ 0 _ rfl Hm5.out B _ dn.length _ rfl Hs5.out Hsv.out (by unfold maxLen; omega) (by omega) hz5 ?_; intro v6 w6 hown6 hgrow6; rw [Nat.zero_add, List.nil_append] at hown6; obtain ⟨a6, c6', hv6⟩ := owns_shape hown6; subst hv6; have Hown6 := Lib.hid hown6; have Hx6 := Lib.hid (show Boxed wr _ _ w6 from Below.grown Hx5.out hgrow6 Hx5.out.size (fun g hg => by have := (Hm5.out.lt g hg).1; simp; omega)); obtain ⟨e0, e1, e2, e3⟩ := four_of Hx6.out; have z3 := fourfree Hx6.out 3; clear hown6 hgrow6 d0 d1 d2 d3)
      have hl6 := Hx6.out.lt
      have Hb6 := Lib.hid (show Below wr.heap.size wr (w6.setCell ⟨wr.heap.size, 3, none⟩ (.slice a6 dn.length c6')) from bs Hx6.out.below (Nat.le_refl _) _)
      have Hown6f := Lib.hid (show (w6.setCell ⟨wr.heap.size, 3, none⟩ (.slice a6 dn.length c6')).ownsRow w.heap.size 72 4 (.slice oa qs.length oc) qs.length (qs.flatMap drCells) from dk_set_other (owns_below Hown.out.1 Hx6.out.below) (fun b hb => by have := (Hown.out.1.lt b hb).2; dsimp only; omega) _)
      go_wp2_with (at_builtin; refine wpList_append_own _ rfl _ _ 26 rfl w.heap.size 72 i0 _ 4 56 Try.underlying26 Hi.out Hz0.out Hz1.out Hz2.out rfl (by decide) _ qs.length _ rfl (Hown6f.out.alloc _) ⟨_, 0, none⟩ 1 1 (drCells ((⟨dr, dp, ds, dn⟩ : Dr), Value.slice a6 dn.length c6')) rfl rfl ?_ (dir_one _ ⟨_, _, _, rfl⟩) (by unfold maxLen; omega) (by omega) (by simp; omega) ?_; (exact dk_cells _ (drCells ((⟨dr, dp, ds, dn⟩ : Dr), Value.slice a6 dn.length c6')).toArray _ _ (by first | rfl | simp)); intro v7 w7 hown7 hgrow7 hnil7)
      have HbW := Lib.hid (show Below wr.heap.size wr ((w6.setCell ⟨wr.heap.size, 3, none⟩ (.slice a6 dn.length c6')).alloc (.cells (drCells ((⟨dr, dp, ds, dn⟩ : Dr), Value.slice a6 dn.length c6')).toArray 72)) from ba Hb6.out _)
      have Hq7 := Lib.hid (show ((w6.setCell ⟨wr.heap.size, 3, none⟩ (.slice a6 dn.length c6')).alloc (.cells (drCells ((⟨dr, dp, ds, dn⟩ : Dr), Value.slice a6 dn.length c6')).toArray 72)).ownsRow wr.heap.size 9 1 (.slice a6 dn.length c6') dn.length (dn.map sv) from (dk_set_other (owns_mono Hown6.out (by omega)) (fun b hb => by have := (Hown6.out.lt b hb).1; dsimp only; omega) _).alloc _)
      have Hx7 := Lib.hid ((bt Hbel.out HbW.out).grown hgrow7 (bt Hbel.out HbW.out).size (fun g hg => (Hown.out.1.lt g hg).1))
      have Hf7 := Lib.hid (dirs_snoc (q := ((⟨dr, dp, ds, dn⟩ : Dr), Value.slice a6 dn.length c6')) Hown.out HbW.out hsz Hq7.out hgrow7 hown7)
      have Hmp7 := Lib.hid (show (qs ++ [((⟨dr, dp, ds, dn⟩ : Dr), Value.slice a6 dn.length c6')]).map (·.1) = (ps.map (·.1)).take (k + 1) by rw [List.map_append, Hqs.out, Hsn.out]; rfl)
      clear hown7 hgrow7 hnil7
      go_roundw
      case rel => exact ⟨k + 1, _, by omega, by go_num, Hmp7.out, Hf7.out, Hx7.out⟩
      case measure => simp [intOf]; omega
    · obtain rfl : k = ps.length := by omega
      have Hf := Lib.hid (show qs.map (·.1) = ps.map (·.1) by rw [Hqs.out, List.take_of_length_le (by simp)])
      go_wp2_with fail
      go_ret
      exact ⟨_, qs, rfl, Hf.out, Hown.out, hbel⟩
/-! ### Directories with one in the place of what was known of it. -/
def putDr (ds : List Dr) (d : Dr) : List Dr := if 0 ≤ dirAt ds (dplace d) then ds.set (dirAt ds (dplace d)).toNat d else ds ++ [d]
theorem putDr_at {ds : List Dr} {d : Dr} {k : Nat} (h : dirAt ds (dplace d) = (k : Int)) : putDr ds d = ds.set k d := by unfold putDr; rw [h]; simp
theorem putDr_new {ds : List Dr} {d : Dr} (h : dirAt ds (dplace d) = -1) : putDr ds d = ds ++ [d] := by unfold putDr; rw [h]; simp
/-- A row of names shares no block with others. -/
def ApartD (nv : Value) (ps : List (Dr × Value)) : Prop := ∀ p ∈ ps, ∀ b, p.2.ownBlock = some b → nv.ownBlock ≠ some b
theorem dk_names_grown {w w' : World} {B : Nat} {ps : List (Dr × Value)} {row : Option Nat} (h : OwnNames w B ps) (hg : w.grownBy w' row) (hr : ∀ b, row = some b → ∀ p ∈ ps, p.2.ownBlock ≠ some b) : OwnNames w' B ps :=
  h.heap (fun b _ hlt ⟨p, hp, hb⟩ => hg.block b hlt (fun e => hr b e.symm p hp hb))
theorem dk_names_set {w w' : World} {B : Nat} {ps : List (Dr × Value)} {c : Dr} {nv : Value} {row : Option Nat} (h : OwnNames w B ps) (hg : w.grownBy w' row) (hr : ∀ b, row = some b → ∀ p ∈ ps, p.2.ownBlock ≠ some b)
    (hc : w'.ownsRow B 9 1 nv c.names.length (c.names.map sv)) (ha : ApartD nv ps) (k : Nat) : OwnNames w' B (ps.set k (c, nv)) := by
  have h1 := dk_names_grown h hg hr
  refine ⟨fun p hp => ?_, ?_⟩
  · rcases List.mem_or_eq_of_mem_set hp with hp | rfl
    · exact h1.1 p hp
    · exact hc
  · rw [List.pairwise_iff_getElem]
    intro i j hi hj hij b hb hb'
    rw [List.length_set] at hi hj
    have h2 := List.pairwise_iff_getElem.1 h.2 i j hi hj hij b
    rw [List.getElem_set] at hb hb'
    split at hb <;> split at hb'
    · omega
    · exact ha _ (List.getElem_mem hj) b hb' hb
    · exact ha _ (List.getElem_mem hi) b hb hb'
    · exact h2 hb hb'
theorem dk_names_app {w : World} {B : Nat} {ps : List (Dr × Value)} {c : Dr} {nv : Value} (h : OwnNames w B ps)
    (hc : w.ownsRow B 9 1 nv c.names.length (c.names.map sv)) (ha : ApartD nv ps) : OwnNames w B (ps ++ [(c, nv)]) := by
  refine ⟨fun p hp => ?_, ?_⟩
  · rcases List.mem_append.1 hp with hp | hp
    · exact h.1 p hp
    · simp at hp; subst hp; exact hc
  · rw [List.pairwise_append]
    refine ⟨h.2, by simp, fun p hp x hx b hpb => ?_⟩
    simp at hx; subst hx
    exact ha p hp b hpb
/-- Directories, their row and names from block B on, with others for those that came. -/
def PutDirs (B : Nat) (v nv : Value) (ps : List (Dr × Value)) (ds : List Dr) (w : World) (e : Ending) (w' : World) : Prop :=
  ∃ v' ps', e = .returned v' ∧ ps'.map (·.1) = ds ∧ OwnDirs w' B v' ps' ∧ w.grownBy w' v.ownBlock ∧ ∀ p ∈ ps', p ∈ ps ∨ p.2 = nv
theorem dk_set4 {w W : World} {g : Nat} (h : w.grownBy W (some g)) (i : Nat) (x : Value) : w.grownBy (W.setCell ⟨g, i, none⟩ x) (some g) :=
  ⟨h.os, h.tape, h.output, by simpa using h.size, fun j hj hne => (Below.heap_setCell W ⟨g, i, none⟩ x j (fun e => hne (by rw [e]))).trans (h.block j hj hne)⟩
theorem dk_refl (w : World) (r : Option Nat) : w.grownBy w r := ⟨rfl, rfl, rfl, Nat.le_refl _, fun _ _ _ => rfl⟩
theorem dk_trans {a b c : World} {r : Option Nat} (h : a.grownBy b r) (k : b.grownBy c r) : a.grownBy c r :=
  ⟨k.os.trans h.os, k.tape.trans h.tape, k.output.trans h.output, Nat.le_trans h.size k.size, fun i hi hne => (k.block i (Nat.lt_of_lt_of_le hi h.size) hne).trans (h.block i hi hne)⟩
theorem dk_below {a b : World} (h : Below a.heap.size a b) (r : Option Nat) : a.grownBy b r := ⟨h.os, h.tape, h.output, h.size, fun i hi _ => h.block i hi⟩
theorem dk_kept {w w' : World} {B n m : Nat} {v nv : Value} {xs ys : List Value} (hc : w.ownsRow B 9 1 nv n xs) (hr : w.ownsRow B 72 4 v m ys) (hg : w.grownBy w' v.ownBlock) : w'.ownsRow B 9 1 nv n xs :=
  owns_heap hc (fun b hb => hg.block b (owns_block hc hb).2 (fun e => own_types (by decide) hr hc e.symm hb))

set_option maxRecDepth 100000 in
set_option maxHeartbeats 4000000 in
theorem impl_putDir (v : Value) (ps : List (Dr × Value)) (dr : Int) (dp : Bs) (ds : Int) (dn : List Bs) (nv : Value) (B : Nat) (w : World) (h : OwnDirs w B v ps) (hB : B ≤ w.heap.size) (hl : ps.length ≤ 1048576)
    (hc : w.ownsRow B 9 1 nv dn.length (dn.map sv)) (ha : ApartD nv ps) :
    Calls Try.prog 84 #[v, .agg #[.int .i64 dr, .string (mk dp), .int .i64 ds, nv]] w (PutDirs B v nv ps (putDr (ps.map (·.1)) ⟨dr, dp, ds, dn⟩) w) := by
  obtain ⟨i0, hi, hz0, hz1, hz2⟩ := info_parts infoDir
  have Hi := Lib.hid hi
  have Hz0 := Lib.hid hz0
  have Hz1 := Lib.hid hz1
  have Hz2 := Lib.hid hz2
  have H := Lib.hid h
  have Hc := Lib.hid hc
  have Ha := Lib.hid ha
  have Hr := Lib.hid (h.dirs (D := fun _ => True) (fun _ _ => trivial))
  obtain ⟨aa, ca, rfl⟩ := h.len
  obtain ⟨ab, cb, rfl⟩ := owns_shape hc
  clear h hc ha hi hz0 hz1 hz2
  have Hb0 := Lib.hid (Boxed.start w #[.int .i64 dr, .string (mk dp), .int .i64 ds, .slice ab dn.length cb] 72)
  have hrg := keyAt_is (key := dplace) (ps.map (·.1)) (dr, dp)
  rcases hrg with ⟨hno, _⟩ | ⟨k, hk, hyes, _, _⟩
  · have Hv := Lib.hid (show putDr (ps.map (·.1)) ⟨dr, dp, ds, dn⟩ = ps.map (·.1) ++ [⟨dr, dp, ds, dn⟩] from putDr_new hno)
    have H1 := Lib.hid (show dirPtr aa (dirAt (ps.map (·.1)) (dr, dp)) = .pointer none by rw [show dirAt (ps.map (·.1)) (dr, dp) = -1 from hno]; rfl)
    rw [Hv.out]
    clear hno
    go_enter Try.func84, Try.ntmps84
    go_wp2_with (first
      | (go_at_call 95; refine (impl_placeOfDir _ _ _ _ _).mono ?_; rintro _ w5 ⟨rfl, hb5⟩; have Hx5 := Lib.hid (Hb0.out.step hb5))
      | (go_at_call 94; refine (impl_dirAt aa ps.length ca (ps.map (·.1)) (fun _ => True) (dr, dp) _ (Hr.out.below Hx5.out.below)).mono ?_; rintro _ w6 ⟨rfl, hb6⟩; rw [H1.out]; have Hx6 := Lib.hid (Hx5.out.step hb6); obtain ⟨d0, d1, d2, d3⟩ := four_of Hx6.out)
      | (at_builtin; refine wpList_append_own _ rfl _ _ 26 rfl B 72 i0 _ 4 56 Try.underlying26 Hi.out Hz0.out Hz1.out Hz2.out rfl (by decide) _ ps.length _ rfl (owns_below H.out.1 (ba Hx6.out.below _)) ⟨_, 0, none⟩ 1 1 (drCells ((⟨dr, dp, ds, dn⟩ : Dr), Value.slice ab dn.length cb)) rfl rfl ?_ (dir_one _ ⟨_, _, _, rfl⟩) (by unfold maxLen; omega) (by omega) (by have := Hx6.out.lt; simp; omega) ?_; (exact dk_cells _ (drCells ((⟨dr, dp, ds, dn⟩ : Dr), Value.slice ab dn.length cb)).toArray _ _ (by first | rfl | simp)); intro v7 w7 hown7 hgrow7 hnil7; have Hown7 := Lib.hid hown7; have Hgrow7 := Lib.hid hgrow7; clear hown7 hgrow7 hnil7))
    have HbW := Lib.hid (show Below w.heap.size w (w6.alloc (.cells (drCells ((⟨dr, dp, ds, dn⟩ : Dr), Value.slice ab dn.length cb)).toArray 72)) from ba Hx6.out.below _)
    have HrW := Lib.hid (owns_below H.out.1 HbW.out)
    go_ret
    refine ⟨v7, ps ++ [((⟨dr, dp, ds, dn⟩ : Dr), Value.slice ab dn.length cb)], rfl, by simp, ⟨by have h := Hown7.out; simpa using h, dk_names_app (dk_names_grown (H.out.2.below HbW.out) Hgrow7.out (fun b hb p hp => own_types (by decide) HrW.out ((H.out.2.below HbW.out).1 p hp) hb)) (dk_kept (owns_below Hc.out HbW.out) HrW.out Hgrow7.out) Ha.out⟩, dk_trans (dk_below HbW.out _) Hgrow7.out, fun p hp => by rcases List.mem_append.1 hp with hp | hp; exact .inl hp; simp at hp; subst hp; exact .inr rfl⟩
  · have hk' : k < ps.length := by simpa using hk
    have Hv := Lib.hid (show putDr (ps.map (·.1)) ⟨dr, dp, ds, dn⟩ = (ps.map (·.1)).set k ⟨dr, dp, ds, dn⟩ from putDr_at hyes)
    obtain ⟨g, cap, e1, hg, hg2⟩ := H.out.1.form (by omega)
    simp only [Value.slice.injEq] at e1
    obtain ⟨rfl, _, rfl⟩ := e1
    have H1 := Lib.hid (show dirPtr (some ⟨g, 0, none⟩) (dirAt (ps.map (·.1)) (dr, dp)) = .pointer (some ⟨g, k * 4, none⟩) by rw [show dirAt (ps.map (·.1)) (dr, dp) = (k : Int) from hyes, dirPtr_yes, Nat.zero_add])
    rw [Hv.out]
    clear hyes
    go_enter Try.func84, Try.ntmps84
    go_wp2_with (first
      | (go_at_call 95; refine (impl_placeOfDir _ _ _ _ _).mono ?_; rintro _ w5 ⟨rfl, hb5⟩; have Hx5 := Lib.hid (Hb0.out.step hb5))
      | (go_at_call 94; refine (impl_dirAt (some ⟨g, 0, none⟩) ps.length ca (ps.map (·.1)) (fun _ => True) (dr, dp) _ (Hr.out.below Hx5.out.below)).mono ?_; rintro _ w6 ⟨rfl, hb6⟩; rw [H1.out]; have Hx6 := Lib.hid (Hx5.out.step hb6); obtain ⟨d0, d1, d2, d3⟩ := four_of Hx6.out; obtain ⟨⟨c0, c1, c2, c3⟩, z0, z1, z2, z3⟩ := own4 (owns_below H.out.1 Hx6.out.below) k hk'))
    have Hr6 := Lib.hid (owns_below H.out.1 Hx6.out.below)
    have Hput := Lib.hid (own4_put Hr6.out k hk' ((⟨dr, dp, ds, dn⟩ : Dr), Value.slice ab dn.length cb))
    have Hg8 := Lib.hid (dk_set4 (dk_set4 (dk_set4 (dk_set4 (dk_refl w6 (some g)) (k * 4) (.int .i64 dr)) (k * 4 + 1) (.string (mk dp))) (k * 4 + 2) (.int .i64 ds)) (k * 4 + 3) (.slice ab dn.length cb))
    go_ret
    refine ⟨_, ps.set k ((⟨dr, dp, ds, dn⟩ : Dr), Value.slice ab dn.length cb), rfl, by rw [List.map_set], ⟨by rw [List.length_set]; exact Hput.out, dk_names_set (H.out.2.below Hx6.out.below) Hg8.out (fun b hb p hp => own_types (by decide) Hr6.out ((H.out.2.below Hx6.out.below).1 p hp) hb) (dk_kept (owns_below Hc.out Hx6.out.below) Hr6.out Hg8.out) Ha.out k⟩, dk_trans (dk_below Hx6.out.below _) Hg8.out, fun p hp => by rcases List.mem_or_eq_of_mem_set hp with hp | rfl; exact .inl hp; exact .inr rfl⟩

/-! ### Disks after a change, as plain data. -/
/-- Directories in which those of a package and above it have a stamp. -/
def stampAll (r c : Int) (xs : List Bs) (ds : List Dr) : List Dr := xs.foldl (fun ds p => putDr ds ⟨r, p, c, []⟩) ds
theorem stampAll_snoc (r c : Int) (xs : List Bs) (ds : List Dr) (k : Nat) (h : k < xs.length) : stampAll r c (xs.take (k + 1)) ds = putDr (stampAll r c (xs.take k) ds) ⟨r, xs[k], c, []⟩ := by
  rw [List.take_succ_eq_append_getElem h, stampAll, List.foldl_append]; rfl
def changed (d : Dsk) (t : List Fil) (r : Int) (p : Bs) (k : Int) : Dsk × Bool :=
  if inr k 0 (200 - d.clock) && okDisk ⟨t, d.clock + k, stampAll r (d.clock + k) ([] :: namesAbove p) d.dirs⟩ then (⟨t, d.clock + k, stampAll r (d.clock + k) ([] :: namesAbove p) d.dirs⟩, true) else (⟨[], 0, []⟩, false)

theorem putDr_len (ds : List Dr) (d : Dr) : (putDr ds d).length ≤ ds.length + 1 := by
  unfold putDr
  split
  · rw [List.length_set]; omega
  · simp
theorem putDr_all {P : Dr → Prop} {ds : List Dr} {d : Dr} (h : ∀ x ∈ ds, P x) (hd : P d) : ∀ x ∈ putDr ds d, P x := fun x hx => by
  unfold putDr at hx
  split at hx
  · rcases List.mem_or_eq_of_mem_set hx with hx | rfl
    · exact h x hx
    · exact hd
  · rcases List.mem_append.1 hx with hx | hx
    · exact h x hx
    · simp at hx; subst hx; exact hd
theorem stampAll_all {P : Dr → Prop} {r c : Int} (hd : ∀ p, P ⟨r, p, c, []⟩) : ∀ (xs : List Bs) (ds : List Dr), (∀ x ∈ ds, P x) → ∀ x ∈ stampAll r c xs ds, P x
  | [], _, h => h
  | p :: xs, ds, h => stampAll_all hd xs (putDr ds ⟨r, p, c, []⟩) (putDr_all h (hd p))
theorem stampAll_len (r c : Int) : ∀ (xs : List Bs) (ds : List Dr), (stampAll r c xs ds).length ≤ ds.length + xs.length
  | [], ds => by simp [stampAll]
  | p :: xs, ds => by
    have h1 := stampAll_len r c xs (putDr ds ⟨r, p, c, []⟩)
    have h2 := putDr_len ds ⟨r, p, c, []⟩
    show (stampAll r c xs (putDr ds ⟨r, p, c, []⟩)).length ≤ _
    rw [List.length_cons]; omega
theorem changed_no {d : Dsk} {t : List Fil} {r : Int} {p : Bs} {k : Int} (h : inr k 0 (200 - d.clock) = false) : changed d t r p k = (⟨[], 0, []⟩, false) := by unfold changed; rw [h]; rfl
theorem stampAll_allM {P : Dr → Prop} {r c : Int} : ∀ (xs : List Bs) (ds : List Dr), (∀ p ∈ xs, P ⟨r, p, c, []⟩) → (∀ x ∈ ds, P x) → ∀ x ∈ stampAll r c xs ds, P x
  | [], _, _, h => h
  | p :: xs, ds, hp, h => stampAll_allM xs (putDr ds ⟨r, p, c, []⟩) (fun q hq => hp q (by simp [hq])) (putDr_all h (hp p (by simp)))
theorem changed_is {d : Dsk} {t : List Fil} {r : Int} {p : Bs} {k : Int} (h : inr k 0 (200 - d.clock) = true) : changed d t r p k = if okDisk ⟨t, d.clock + k, stampAll r (d.clock + k) ([] :: namesAbove p) d.dirs⟩ then (⟨t, d.clock + k, stampAll r (d.clock + k) ([] :: namesAbove p) d.dirs⟩, true) else (⟨[], 0, []⟩, false) := by unfold changed; rw [h]; rfl
/-- The packages that a change stamps are short. -/
theorem stamped_short (p : Bs) : ∀ q ∈ ([] :: namesAbove p), q.length ≤ 11 := fun q hq => by
  rcases List.mem_cons.1 hq with rfl | hq
  · exact Nat.zero_le _
  · exact vn_len (namesAbove_vn hq)
theorem okDirs_dr' {ds : List Dr} {c : Int} (h : okDirs ds c 0 = true) : ∀ d ∈ ds, d.names = [] ∧ d.pack.length ≤ 11 := fun d hd => by
  have h1 := okDirs_at h hd
  unfold okDr at h1
  simp only [Bool.and_eq_true, decide_eq_true_eq] at h1
  exact ⟨List.eq_nil_of_length_eq_zero (by omega), vpk_len h1.1.1.2⟩
/-- What a function that changes a disk comes to: the files' row from B on, the directories' rows the call's own. -/
def ChgD (B : Nat) (r : Dsk × Bool) (w : World) (e : Ending) (w' : World) : Prop :=
  ∃ v ps u qs, e = .returned (.tuple #[.agg #[v, .int .i64 r.1.clock, u], .bool r.2]) ∧ ps.map (·.1) = r.1.files ∧ qs.map (·.1) = r.1.dirs ∧ OwnFils w' B v ps ∧ OwnDirs w' w.heap.size u qs ∧ Below w.heap.size w w'
theorem chgD_no {B : Nat} {r : Dsk × Bool} {w w' : World} (h : r = (⟨[], 0, []⟩, false)) (hb : Below w.heap.size w w') : ChgD B r w (.returned (.tuple #[.agg #[.slice none 0 0, .int .i64 0, .slice none 0 0], .bool false])) w' := by
  subst h; exact ⟨_, [], _, [], rfl, rfl, rfl, ⟨World.ownsRow_nil _ _ _ _, OwnBodies.nil _ _⟩, ownDirs_nil _ _, hb⟩
/-- A box is no block of directories. -/
theorem HB.dirs {w : World} {X : Nat} {T : TypeId} {cs : Array Value} (h : HB w X T cs) (h1 : 72 ≠ T) (h2 : 9 ≠ T) {B : Nat} {u : Value} {qs : List (Dr × Value)} (hd : OwnDirs w B u qs) (i : Nat) (x : Value) : OwnDirs (w.setCell ⟨X, i, none⟩ x) B u qs :=
  ⟨owns_hbput h hd.1 h1 i x, hd.2.heap (fun b _ _ ⟨q, hq, hb⟩ => Below.heap_setCell w ⟨X, i, none⟩ x b (fun e => h.apart (hd.2.1 q hq) h2 (by rw [hb, e])))⟩
theorem dk_kept2 {w w' : World} {B B' n m : Nat} {v nv : Value} {xs ys : List Value} (hc : w.ownsRow B 9 1 nv n xs) (hr : w.ownsRow B' 72 4 v m ys) (hg : w.grownBy w' v.ownBlock) : w'.ownsRow B 9 1 nv n xs :=
  owns_heap hc (fun b hb => hg.block b (owns_block hc hb).2 (fun e => own_types (by decide) hr hc e.symm hb))
theorem fils_hb {w : World} {X : Nat} {T : TypeId} {cs : Array Value} {B : Nat} {v : Value} {ps : List (Fil × Value)} (hf : OwnFils w B v ps) (h : HB w X T cs) (h1 : 36 ≠ T) (h2 : 138 ≠ T) (i : Nat) (x : Value) : OwnFils (w.setCell ⟨X, i, none⟩ x) B v ps :=
  ⟨owns_hbput h hf.1 h1 i x, hf.2.heap (fun b _ _ ⟨q, hq, hb⟩ => Below.heap_setCell w ⟨X, i, none⟩ x b (fun e => h.apart (hf.2.1 q hq) h2 (by rw [hb, e])))⟩
set_option maxRecDepth 100000 in
set_option maxHeartbeats 4000000 in
theorem impl_changedDisk (v0 v u : Value) (fs0 : List Fil) (c k : Int) (r st : Int) (p n : Bs) (i : Bool) (bv : Value) (ps : List (Fil × Value)) (qs : List (Dr × Value)) (B B' : Nat) (w : World) (hf : OwnFils w B v ps) (hz : ShortT 2000000 (ps.map (·.1))) (hd : OwnDirs w B' u qs) (hc : inr c 0 200 = true) (hq : okDirs (qs.map (·.1)) c 0 = true) (hp : p.length ≤ 1048576) :
    Calls Try.prog 44 #[.agg #[v0, .int .i64 c, u], .agg #[v], .agg #[.int .i64 r, .string (mk p), .string (mk n), .bool i, .int .i64 st, bv], .int .i64 k] w (ChgD B (changed ⟨fs0, c, qs.map (·.1)⟩ (ps.map (·.1)) r p k) w) := by
  obtain ⟨i1, hi1, hy0, hy1, hy2⟩ := info_parts infoSD
  have Hi1 := Lib.hid hi1
  have Hy0 := Lib.hid hy0
  have Hy1 := Lib.hid hy1
  have Hy2 := Lib.hid hy2
  clear hi1 hy0 hy1 hy2
  obtain ⟨aa, ca, rfl⟩ := hf.len
  obtain ⟨ab, cb, rfl⟩ := hd.len
  have hl : qs.length ≤ 20 := by have h := okDirs_len hq; rwa [List.length_map] at h
  have Hbl := Lib.hid (show ∀ q ∈ qs, q.1.names.length ≤ 1048576 from fun q h => by rw [(okDirs_dr' hq q.1 (List.mem_map.2 ⟨q, h, rfl⟩)).1]; simp)
  have Hdr := Lib.hid (okDirs_dr' hq)
  have Hz := Lib.hid hz
  have Hf := Lib.hid hf
  have Hd := Lib.hid hd
  have hcc : 0 ≤ c ∧ c ≤ 200 := by unfold inr at hc; simpa using hc
  clear hf hd hq hz hc
  obtain ⟨Wb, hWb⟩ : ∃ W, W = (((w.alloc (.cells #[v0, .int .i64 c, .slice ab qs.length cb] 28)).alloc (.cells #[.slice aa ps.length ca] 25)).alloc (.cells #[.int .i64 r, .string (mk p), .string (mk n), .bool i, .int .i64 st, bv] 36)).alloc (.cells #[.slice none 0 0, .int .i64 0, .slice none 0 0] 28) := ⟨_, rfl⟩
  have HBw := Lib.hid (show Below w.heap.size w Wb by rw [hWb]; (repeat (with_reducible first | exact Below.refl _ _ | assumption | refine ba ?_ _ | refine bd ?_ | refine bdN ?_ _ | refine bs ?_ (by first | exact Nat.le_refl _ | (dsimp only; omega) | (simp; done)) _ | refine bt ?_ (by assumption))))
  have HWs := Lib.hid (show Wb.heap.size = w.heap.size + 4 by rw [hWb]; simp)
  have HX0 := Lib.hid (show HB Wb w.heap.size 28 #[v0, .int .i64 c, .slice ab qs.length cb] by rw [hWb]; exact (((HB.new w _ _).alloc _).alloc _).alloc _)
  have HX1 := Lib.hid (show HB Wb (w.heap.size + 1) 25 #[.slice aa ps.length ca] by rw [hWb]; have h := (((HB.new (w.alloc (.cells #[v0, .int .i64 c, .slice ab qs.length cb] 28)) #[.slice aa ps.length ca] 25).alloc (.cells #[.int .i64 r, .string (mk p), .string (mk n), .bool i, .int .i64 st, bv] 36)).alloc (.cells #[.slice none 0 0, .int .i64 0, .slice none 0 0] 28)); rw [World.size_alloc] at h; exact h)
  have HX2 := Lib.hid (show HB Wb (w.heap.size + 1 + 1) 36 #[.int .i64 r, .string (mk p), .string (mk n), .bool i, .int .i64 st, bv] by rw [hWb]; have h := ((HB.new ((w.alloc (.cells #[v0, .int .i64 c, .slice ab qs.length cb] 28)).alloc (.cells #[.slice aa ps.length ca] 25)) #[.int .i64 r, .string (mk p), .string (mk n), .bool i, .int .i64 st, bv] 36).alloc (.cells #[.slice none 0 0, .int .i64 0, .slice none 0 0] 28)); rw [World.size_alloc, World.size_alloc] at h; exact h)
  have HX3 := Lib.hid (show HB Wb (w.heap.size + 1 + 1 + 1) 28 #[.slice none 0 0, .int .i64 0, .slice none 0 0] by rw [hWb]; have h := (HB.new (((w.alloc (.cells #[v0, .int .i64 c, .slice ab qs.length cb] 28)).alloc (.cells #[.slice aa ps.length ca] 25)).alloc (.cells #[.int .i64 r, .string (mk p), .string (mk n), .bool i, .int .i64 st, bv] 36)) #[.slice none 0 0, .int .i64 0, .slice none 0 0] 28); rw [World.size_alloc, World.size_alloc, World.size_alloc] at h; exact h)
  have HWe := Lib.hid hWb
  have Hk := Lib.hid (fun (w' : World) (hC : Below Wb.heap.size Wb w') => (⟨(HX0.out.step hC).cell 1, (HX0.out.step hC).cell 2, (HX1.out.step hC).cell 0⟩ : w'.cell? ⟨w.heap.size, 1, none⟩ = some (.int .i64 c) ∧ w'.cell? ⟨w.heap.size, 2, none⟩ = some (.slice ab qs.length cb) ∧ w'.cell? ⟨w.heap.size + 1, 0, none⟩ = some (.slice aa ps.length ca)))
  clear hWb
  cases hin : inr k 0 (200 - c)
  · have Hin := Lib.hid hin
    have Hno := Lib.hid (changed_no (d := ⟨fs0, c, qs.map (·.1)⟩) (t := ps.map (·.1)) (r := r) (p := p) (k := k) hin)
    clear hin
    go_enter Try.func44, Try.ntmps44
    go_wp2_with ((go_at_call 57; refine (impl_inRange _ _ _).mono ?_; rintro _ _ ⟨rfl, rfl⟩); rw [Hin.out])
    refine bodyPost_ret (v := .tuple #[.agg #[.slice none 0 0, .int .i64 0, .slice none 0 0], .bool false]) (by simp [results, Try.results44, go_sem, *]) rfl (chgD_no Hno.out (by have h := HBw.out; rw [HWe.out] at h; (repeat (with_reducible first | exact Below.refl _ _ | assumption | refine ba ?_ _ | refine bd ?_ | refine bdN ?_ _ | refine bs ?_ (by first | exact Nat.le_refl _ | (dsimp only; omega) | (simp; done)) _ | refine bt ?_ (by assumption)))))
  · have Hin := Lib.hid hin
    have Hyes := Lib.hid (changed_is (d := ⟨fs0, c, qs.map (·.1)⟩) (t := ps.map (·.1)) (r := r) (p := p) (k := k) hin)
    have hk : 0 ≤ k ∧ k ≤ 200 - c := by unfold inr at hin; simpa using hin
    clear hin
    go_enter Try.func44, Try.ntmps44
    go_wp2_with ((go_at_call 57; refine (impl_inRange _ _ _).mono ?_; rintro _ _ ⟨rfl, rfl⟩); rw [Hin.out])
    rw [← HWe.out]
    go_upto_region 3 with fail
    obtain ⟨a0, a1, a2⟩ := Hk.out Wb (Below.refl _ _)
    go_cut [10] (fun s10 wx => ∃ (X : Nat) (q6 : List (Dr × Value)) (a6 : Option Addr) (c6 : Nat), s10 = .pointer (some ⟨X, 0, none⟩) ∧ HB wx X 28 #[.slice aa ps.length ca, .int .i64 (IntKind.i64.wrap (c + k)), .slice a6 q6.length c6] ∧ OwnDirs wx Wb.heap.size (.slice a6 q6.length c6) q6 ∧ q6.map (·.1) = qs.map (·.1) ∧ Below Wb.heap.size Wb wx ∧ Wb.heap.size ≤ X)
    case first =>
      go_region_held3 (fun w' => w'.cell? ⟨w.heap.size, 1, none⟩ = some (.int .i64 c) ∧ w'.cell? ⟨w.heap.size, 2, none⟩ = some (.slice ab qs.length cb) ∧ w'.cell? ⟨w.heap.size + 1, 0, none⟩ = some (.slice aa ps.length ca))
        (first | (refine Hk.out _ ?_; have := Hb6.out; (repeat (with_reducible first | exact Below.refl _ _ | assumption | refine ba ?_ _ | refine bd ?_ | refine bdN ?_ _ | refine bs ?_ (by first | exact Nat.le_refl _ | (dsimp only; omega) | (simp; done)) _ | refine bt ?_ (by assumption))); done) | (refine Hk.out _ ?_; (repeat (with_reducible first | exact Below.refl _ _ | assumption | refine ba ?_ _ | refine bd ?_ | refine bdN ?_ _ | refine bs ?_ (by first | exact Nat.le_refl _ | (dsimp only; omega) | (simp; done)) _ | refine bt ?_ (by assumption))); done))
        (first | (go_at_call 82; show Calls _ _ _ (World.drew (World.alloc _ _)) _; refine (impl_copyDirs _ qs B' _ (Hd.out.below (by have := HBw.out; (repeat (with_reducible first | exact Below.refl _ _ | assumption | refine ba ?_ _ | refine bd ?_ | refine bdN ?_ _ | refine bs ?_ (by first | exact Nat.le_refl _ | (dsimp only; omega) | (simp; done)) _ | refine bt ?_ (by assumption))))) (by omega) Hbl.out).mono ?_; rintro _ w6 ⟨v6, q6, rfl, hq6, hown6, hb6⟩; have Hq6 := Lib.hid hq6; have Hown6 := Lib.hid (hown6.mono (show Wb.heap.size + 1 ≤ _ by simp)); have Hb6 := Lib.hid (show Below Wb.heap.size Wb w6 by (repeat (with_reducible first | exact Below.refl _ _ | assumption | refine ba ?_ _ | refine bd ?_ | refine bdN ?_ _ | refine bs ?_ (by first | exact Nat.le_refl _ | (dsimp only; omega) | (simp; done)) _ | refine bt ?_ (by assumption)))); obtain ⟨a6, c6, rfl⟩ := hown6.len; have HG := Lib.hid ((HB.new Wb #[.slice none 0 0, .int .i64 0, .slice none 0 0] 28).drew.step hb6); have g0 := HG.out.cell 0; have g1 := HG.out.cell 1; have g2 := HG.out.cell 2; have z0 := HG.out.frozen 0; have z1 := HG.out.frozen 1; have z2 := HG.out.frozen 2; clear hown6 hq6 hb6) | (go_at_call 82; refine (impl_copyDirs _ qs B' _ (Hd.out.below (by have := HBw.out; (repeat (with_reducible first | exact Below.refl _ _ | assumption | refine ba ?_ _ | refine bd ?_ | refine bdN ?_ _ | refine bs ?_ (by first | exact Nat.le_refl _ | (dsimp only; omega) | (simp; done)) _ | refine bt ?_ (by assumption))))) (by omega) Hbl.out).mono ?_; rintro _ w6 ⟨v6, q6, rfl, hq6, hown6, hb6⟩; have Hq6 := Lib.hid hq6; have Hown6 := Lib.hid (hown6.mono (show Below Wb.heap.size Wb _ by (repeat (with_reducible first | exact Below.refl _ _ | assumption | refine ba ?_ _ | refine bd ?_ | refine bdN ?_ _ | refine bs ?_ (by first | exact Nat.le_refl _ | (dsimp only; omega) | (simp; done)) _ | refine bt ?_ (by assumption)))).size); have Hb6 := Lib.hid (show Below Wb.heap.size Wb w6 by (repeat (with_reducible first | exact Below.refl _ _ | assumption | refine ba ?_ _ | refine bd ?_ | refine bdN ?_ _ | refine bs ?_ (by first | exact Nat.le_refl _ | (dsimp only; omega) | (simp; done)) _ | refine bt ?_ (by assumption)))); obtain ⟨a6, c6, rfl⟩ := hown6.len; clear hown6 hq6 hb6))
      · go_wp2_with fail
        go_meet
        exact ⟨_, q6, a6, c6, rfl, HB.new _ _ _, Hown6.out.below (ba (Below.refl _ _) _), Hq6.out, ba Hb6.out _, Hb6.out.size⟩
      · go_wp2_with fail
        go_meet
        refine ⟨_, q6, a6, c6, rfl, ?_, (((Hown6.out.set_low (by dsimp only; omega) _).set_low (by dsimp only; omega) _).set_low (by dsimp only; omega) _).mono (by omega), Hq6.out, bs (bs (bs Hb6.out (Nat.le_refl _) _) (Nat.le_refl _) _) (Nat.le_refl _) _, Nat.le_refl _⟩
        have h := ((HG.out.put 0 (.slice aa ps.length ca)).put 1 (.int .i64 (IntKind.i64.wrap (c + k)))).put 2 (.slice a6 q6.length c6)
        simpa using h
    case rest =>
      obtain ⟨X, q6, a6, c6, rfl, hA, hD, hm, hBel, hX⟩ := hcut
      have hwrap : IntKind.i64.wrap (c + k) = c + k := IntWalk.i64_in _ (by omega)
      rw [hwrap] at hA
      obtain ⟨m, hmm⟩ : ∃ m, m = c + k := ⟨_, rfl⟩
      rw [← hmm] at hA
      have Hyes' := Lib.hid (show changed ⟨fs0, c, qs.map (·.1)⟩ (ps.map (·.1)) r p k = if okDisk ⟨ps.map (·.1), m, stampAll r m ([] :: namesAbove p) (qs.map (·.1))⟩ then (⟨ps.map (·.1), m, stampAll r m ([] :: namesAbove p) (qs.map (·.1))⟩, true) else (⟨[], 0, []⟩, false) by rw [hmm]; exact Hyes.out)
      have HA := Lib.hid hA
      have HD := Lib.hid hD
      have Hm := Lib.hid hm
      have HB1 := Lib.hid hBel
      have hsz := hBel.size
      have hWs := HWs.out
      have hXlt : X < wc.heap.size := hA.lt
      have hq6l : q6.length ≤ 20 := by have h := congrArg List.length hm; simp at h; omega
      clear hA hD hm hBel hwrap hmm
      have f1 : wc.cell? ⟨w.heap.size + 1 + 1, 1, none⟩ = some (.string (mk p)) := (HX2.out.step HB1.out).cell 1
      have hlt0 : w.heap.size + 1 + 1 < wc.heap.size := by omega
      have f2 : (wc.alloc (.cells #[.string ⟨#[]⟩] 9)).cell? ⟨w.heap.size + 1 + 1, 1, none⟩ = some (.string (mk p)) := ((show Below wc.heap.size wc _ by (repeat (with_reducible first | exact Below.refl _ _ | assumption | refine ba ?_ _ | refine bd ?_ | refine bdN ?_ _ | refine bs ?_ (by first | exact Nat.le_refl _ | (dsimp only; omega) | (simp; done)) _ | refine bt ?_ (by assumption)))).cell (p := ⟨w.heap.size + 1 + 1, 1, none⟩) hlt0).trans f1
      have hna3 : (namesAbove p).length ≤ 3 := namesAbove_le3 p
      obtain ⟨L, hL⟩ : ∃ L, L = [] :: namesAbove p := ⟨_, rfl⟩
      have HLe := Lib.hid (show 1 + (namesAbove p).length = L.length by rw [hL, List.length_cons]; omega)
      have HLm := Lib.hid (show [Value.string (mk [])] ++ (namesAbove p).map sv = L.map sv by rw [hL]; rfl)
      have hL4 : L.length ≤ 4 := by rw [hL, List.length_cons]; omega
      have HLs := Lib.hid (show ∀ q ∈ L, q.length ≤ 11 by rw [hL]; exact stamped_short p)
      rw [← hL] at Hyes'
      clear hL Hyes
      go_wp2_with (first
        | (go_at_call 83; refine (impl_NamesAbove p _ (by omega)).mono ?_; rintro _ w8 ⟨v8, rfl, hown8, hb8⟩; obtain ⟨a8, c8, rfl⟩ := owns_shape hown8; have Hown8 := Lib.hid hown8; have Hb8 := Lib.hid (show Below wc.heap.size wc w8 by (repeat (with_reducible first | exact Below.refl _ _ | assumption | refine ba ?_ _ | refine bd ?_ | refine bdN ?_ _ | refine bs ?_ (by first | exact Nat.le_refl _ | (dsimp only; omega) | (simp; done)) _ | refine bt ?_ (by assumption)))); have HL8 := Lib.hid (owns_below (World.ownsRow_lit (size := 1) (base := wc.heap.size) (e := 9) wc #[.string (mk [])] 1 (Nat.le_refl _) (by unfold maxLen; omega) rfl) hb8))
        | (at_builtin; refine wpList_append_both rfl _ _ 70 rfl wc.heap.size 9 i1 _ 1 16 Try.underlying70 Hi1.out Hy0.out Hy1.out Hy2.out rfl (by decide) _ 1 _ rfl HL8.out _ _ _ _ rfl Hown8.out (fun u hu => by obtain ⟨s, _, rfl⟩ := List.mem_map.1 hu; rfl) (by unfold maxLen; omega) (by omega) (by have := Hb8.out.size; omega) ?_; intro v9 w9 hown9 hgrow9; rw [HLe.out, HLm.out] at hown9; obtain ⟨a9, c9, rfl⟩ := owns_shape hown9; have Hown9 := Lib.hid hown9; have Hb9 := Lib.hid (show Below wc.heap.size wc w9 from Hb8.out.grown hgrow9 Hb8.out.size (fun g hg => (HL8.out.lt g hg).1)); clear hown9 hgrow9))
      clear f1 f2
      have hz9 := Hb9.out.size
      go_loopw [35] (fun iv wr => ∃ (j : Nat) (u' : Value) (rs : List (Dr × Value)), j ≤ L.length ∧ iv = .int .i64 j ∧ rs.map (·.1) = stampAll r m (L.take j) (qs.map (·.1)) ∧ OwnDirs wr Wb.heap.size u' rs ∧ HB wr X 28 #[.slice aa ps.length ca, .int .i64 m, u'] ∧ wr.ownsRow wc.heap.size 9 1 (.slice a9 L.length c9) L.length (L.map sv) ∧ Below Wb.heap.size Wb wr ∧ wc.heap.size ≤ wr.heap.size) (fun iv _ => L.length - (intOf iv).toNat)
      case atStart => exact ⟨0, _, q6, by omega, rfl, Hm.out, HD.out.below Hb9.out, HA.out.step Hb9.out, Hown9.out, HB1.out.trans (Hb9.out.mono hsz), hz9⟩
      case round =>
        obtain ⟨j, u', rs, hj, rfl, hrs, hown, hbx, hnm, hbel, hszr⟩ := hrel
        obtain ⟨ua, uc, rfl⟩ := hown.len
        have hrl : rs.length ≤ 24 := by
          have h1 := congrArg List.length hrs
          have h2 := stampAll_len r m (L.take j) (qs.map (·.1))
          simp at h1 h2
          omega
        have Hrs := Lib.hid hrs
        have Hown := Lib.hid hown
        have Hbx := Lib.hid hbx
        have Hnm := Lib.hid hnm
        have Hbel := Lib.hid hbel
        have hXr : X < wr.heap.size := hbx.lt
        clear hrs hown hbx hbel
        by_cases hlt : j < L.length
        · obtain ⟨gl, cl, el, hgl1, hgl2⟩ := hnm.form (by omega)
          simp only [Value.slice.injEq] at el
          obtain ⟨rfl, _, rfl⟩ := el
          have hcj : wr.cell? ⟨gl, j, none⟩ = some (.string (mk L[j])) := by
            rw [hnm.cellAt j (by omega), List.getElem?_map, List.getElem?_eq_getElem hlt]; rfl
          have Hsn := Lib.hid (stampAll_snoc r m L (qs.map (·.1)) j hlt)
          have hsl : L[j].length ≤ 11 := HLs.out _ (List.getElem_mem hlt)
          have x1 : wr.cell? ⟨X, 1, none⟩ = some (.int .i64 m) := Hbx.out.cell 1
          have x2 : wr.cell? ⟨X, 2, none⟩ = some (.slice ua rs.length uc) := Hbx.out.cell 2
          have y0 : wr.cell? ⟨w.heap.size + 1 + 1, 0, none⟩ = some (.int .i64 r) := (HX2.out.step Hbel.out).cell 0
          have hk1 : (j : Int) < (L.length : Int) := by omega
          have hk0 : (0 : Int) ≤ (j : Int) := by omega
          obtain ⟨nm, hnme⟩ : ∃ nm, nm = L[j] := ⟨_, rfl⟩
          rw [← hnme] at hcj Hsn hsl
          clear hnme hnm
          go_wp2_with (go_at_call 84; refine (impl_putDir _ rs r nm m [] (.slice none 0 0) Wb.heap.size _ Hown.out Hbel.out.size (by omega) (World.ownsRow_nil _ _ _ _) (fun _ _ _ _ h => by cases h)).mono ?_; rintro _ w7 ⟨v7, rs7, rfl, hrs7, hown7, hg7, _⟩; obtain ⟨a7, c7, rfl⟩ := hown7.len; have Hrs7 := Lib.hid hrs7; have Hown7 := Lib.hid hown7; have Hg7 := Lib.hid hg7; have HbX7 := Lib.hid (Hbx.out.grown hg7 (Hbx.out.apart Hown.out.1 (by decide))); have hx7 := HbX7.out.cell 2; have hf7 := HbX7.out.frozen 2; have hl7 := HbX7.out.lt; clear hrs7 hown7 hg7)
          have HbW := Lib.hid (show Below Wb.heap.size Wb w7 from Hbel.out.grown Hg7.out Hbel.out.size (fun g hg => (Hown.out.1.lt g hg).1))
          go_roundw
          case rel =>
            refine ⟨j + 1, _, rs7, by omega, by go_num, ?_, HbX7.out.dirs (by decide) (by decide) Hown7.out _ _, ?_, owns_hbput HbX7.out (dk_kept2 Hnm.out Hown.out.1 Hg7.out) (by decide) _ _, bs HbW.out hX _, ?_⟩
            · rw [Hrs7.out, Hrs.out, Hsn.out]
            · have h := HbX7.out.put 2 (.slice a7 rs7.length c7)
              simpa using h
            · have := Hg7.out.size; simp; omega
          case measure => simp [intOf]; omega
        · obtain rfl : j = L.length := by omega
          rw [List.take_length] at Hrs
          have x0 : wr.cell? ⟨X, 0, none⟩ = some (.slice aa ps.length ca) := Hbx.out.cell 0
          have x1 : wr.cell? ⟨X, 1, none⟩ = some (.int .i64 m) := Hbx.out.cell 1
          have x2 : wr.cell? ⟨X, 2, none⟩ = some (.slice ua rs.length uc) := Hbx.out.cell 2
          have HF := Lib.hid (Hf.out.below (show Below w.heap.size w wr from HBw.out.trans (Hbel.out.mono HBw.out.size)))
          have HDk := Lib.hid (show DskIn wr (fun _ => True) (.slice aa ps.length ca) (ps.map (·.1)) (.slice ua rs.length uc) (stampAll r m L (qs.map (·.1))) from ⟨HF.out.fils (D := fun _ => True) (fun _ _ => trivial), by have h := Hown.out.dirs (D := fun _ => True) (fun _ _ => trivial); rw [Hrs.out] at h; exact h⟩)
          have HSk := Lib.hid (show ShortK 2000000 (ps.map (·.1)) (stampAll r m L (qs.map (·.1))) from ⟨Hz.out, fun d hd => by
            have h := stampAll_allM (P := fun d => d.pack.length ≤ 11 ∧ d.names = []) L (qs.map (·.1)) (fun q hq => ⟨HLs.out q hq, rfl⟩) (fun x hx => ⟨(Hdr.out x hx).2, (Hdr.out x hx).1⟩) d hd
            exact ⟨by omega, by rw [h.2]; intro q hq; simp at hq⟩⟩)
          clear hnm
          cases hok : okDisk ⟨ps.map (·.1), m, stampAll r m L (qs.map (·.1))⟩
          · have Hno := Lib.hid (show changed ⟨fs0, c, qs.map (·.1)⟩ (ps.map (·.1)) r p k = (⟨[], 0, []⟩, false) by rw [Hyes'.out, hok]; rfl)
            have Hok := Lib.hid hok
            clear hok
            go_wp2_with (go_at_call 17; refine (impl_ValidDisk _ _ m _ _ (fun _ => True) _ HDk.out HSk.out).mono ?_; rintro _ w9' ⟨rfl, hb9'⟩; rw [Hok.out]; have Hb9' := Lib.hid hb9'; have HR := Lib.hid (HX3.out.step (Hbel.out.trans (hb9'.mono Hbel.out.size))); have r0 := HR.out.cell 0; have r1 := HR.out.cell 1; have r2 := HR.out.cell 2; have rf := HR.out.frozen; have rf0 := rf 0; have rf1 := rf 1; have rf2 := rf 2; have rlt := HR.out.lt; clear hb9' rf)
            refine bodyPost_ret (v := .tuple #[.agg #[.slice none 0 0, .int .i64 0, .slice none 0 0], .bool false]) (by simp [results, Try.results44, go_sem, r0, r1, r2]) rfl (chgD_no Hno.out ?_)
            have hbw : Below w.heap.size w w9' := (HBw.out.trans (Hbel.out.mono HBw.out.size)).trans (Hb9'.out.mono (by have := Hbel.out.size; omega))
            (repeat (with_reducible first | exact Below.refl _ _ | assumption | refine ba ?_ _ | refine bd ?_ | refine bdN ?_ _ | refine bs ?_ (by first | exact Nat.le_refl _ | (dsimp only; omega) | (simp; done)) _ | refine bt ?_ (by assumption)))
          · have Hy := Lib.hid (show changed ⟨fs0, c, qs.map (·.1)⟩ (ps.map (·.1)) r p k = (⟨ps.map (·.1), m, stampAll r m L (qs.map (·.1))⟩, true) by rw [Hyes'.out, hok]; rfl)
            have Hok := Lib.hid hok
            clear hok
            go_wp2_with (go_at_call 17; refine (impl_ValidDisk _ _ m _ _ (fun _ => True) _ HDk.out HSk.out).mono ?_; rintro _ w9' ⟨rfl, hb9'⟩; rw [Hok.out]; have Hb9' := Lib.hid hb9'; have HR := Lib.hid (HX3.out.step (Hbel.out.trans (hb9'.mono Hbel.out.size))); have r0 := HR.out.cell 0; have r1 := HR.out.cell 1; have r2 := HR.out.cell 2; have rf := HR.out.frozen; have rf0 := rf 0; have rf1 := rf 1; have rf2 := rf 2; have rlt := HR.out.lt; have HBx := Lib.hid (Hbx.out.step hb9'); have z0 := HBx.out.cell 0; have z1 := HBx.out.cell 1; have z2 := HBx.out.cell 2; clear hb9' rf)
            refine bodyPost_ret (v := .tuple #[.agg #[.slice aa ps.length ca, .int .i64 m, .slice ua rs.length uc], .bool true]) (by simp [results, Try.results44, go_sem, r0, r1, r2]) rfl ?_
            rw [Hy.out]
            refine ⟨_, ps, _, rs, rfl, rfl, Hrs.out, ?_, ?_, ?_⟩
            · have h := HF.out.below Hb9'.out
              exact fils_hb (fils_hb (fils_hb h HR.out (by decide) (by decide) _ _) (HR.out.put _ _) (by decide) (by decide) _ _) ((HR.out.put _ _).put _ _) (by decide) (by decide) _ _
            · exact OwnDirs.mono (((((Hown.out.below Hb9'.out).set_low (by dsimp only; omega) _).set_low (by dsimp only; omega) _).set_low (by dsimp only; omega) _)) (by omega)
            · have hbw : Below w.heap.size w w9' := (HBw.out.trans (Hbel.out.mono HBw.out.size)).trans (Hb9'.out.mono (by have := Hbel.out.size; omega))
              (repeat (with_reducible first | exact Below.refl _ _ | assumption | refine ba ?_ _ | refine bd ?_ | refine bdN ?_ _ | refine bs ?_ (by first | exact Nat.le_refl _ | (dsimp only; omega) | (simp; done)) _ | refine bt ?_ (by assumption)))

/-! ### Contracts of the model's change of a disk. -/
theorem own4_stamp {w : World} {B e g cap n : Nat} {L : List (Dr × Value)} (h : w.ownsRow B e 4 (.slice (some ⟨g, 0, none⟩) n cap) n (L.flatMap drCells)) (i : Nat) (hi : i < L.length) (c : Int) :
    (w.setCell ⟨g, i * 4 + 2, none⟩ (.int .i64 c)).ownsRow B e 4 (.slice (some ⟨g, 0, none⟩) n cap) n ((L.set i ((⟨L[i].1.root, L[i].1.pack, c, L[i].1.names⟩ : Dr), L[i].2)).flatMap drCells) := by
  have h5 := (h.stored (i * 4 + 2) (.int .i64 c)).1
  have hA := fm_take_len drCells 4 L i hi drCells_len
  rw [fm_split drCells L i hi, show drCells L[i] = [.int .i64 L[i].1.root, .string (mk L[i].1.pack), .int .i64 L[i].1.stamp, L[i].2] from rfl, set_mid _ _ _ (i * 4) 2 _ hA (by simp)] at h5
  rw [fm_put drCells L i _ hi]
  exact h5
theorem dirs_stamp {w : World} {B g cap : Nat} {L : List (Dr × Value)} (h : OwnDirs w B (.slice (some ⟨g, 0, none⟩) L.length cap) L) (i : Nat) (hi : i < L.length) (c : Int) :
    OwnDirs (w.setCell ⟨g, i * 4 + 2, none⟩ (.int .i64 c)) B (.slice (some ⟨g, 0, none⟩) L.length cap) (L.set i ((⟨L[i].1.root, L[i].1.pack, c, L[i].1.names⟩ : Dr), L[i].2)) := by
  refine ⟨by rw [List.length_set]; exact own4_stamp h.1 i hi c, ?_⟩
  have h2 := h.2.heap (w' := w.setCell ⟨g, i * 4 + 2, none⟩ (.int .i64 c)) (fun b _ _ ⟨q, hq, hb⟩ => Below.heap_setCell w ⟨g, i * 4 + 2, none⟩ _ b (fun e => own_types (T := 72) (T' := 9) (by decide) h.1 (h.2.1 q hq) rfl (by rw [hb, e])))
  refine ⟨fun p hp => ?_, ?_⟩
  · rcases List.mem_or_eq_of_mem_set hp with hp | rfl
    · exact h2.1 p hp
    · exact h2.1 L[i] (List.getElem_mem hi)
  · rw [List.pairwise_iff_getElem]
    intro a b ha hb hab
    rw [List.length_set] at ha hb
    have h3 := List.pairwise_iff_getElem.1 h2.2 a b ha hb hab
    rw [List.getElem_set, List.getElem_set]
    split <;> split
    · omega
    · rename_i e1 _; subst e1; exact h3
    · rename_i _ e1; subst e1; exact h3
    · exact h3
/-- A stamp in a directory that is known, where it has no names. -/
theorem putDr_stamp {ds : List Dr} {r c : Int} {p : Bs} {k : Nat} (hk : k < ds.length) (h : dirAt ds (r, p) = (k : Int)) (hn : ds[k].names = []) : putDr ds ⟨r, p, c, []⟩ = ds.set k ⟨ds[k].root, ds[k].pack, c, ds[k].names⟩ := by
  rw [putDr_at (k := k) h, hn]
  rcases keyAt_is (key := dplace) ds (r, p) with ⟨h1, _⟩ | ⟨j, hj, h1, h2, _⟩
  · rw [show dirAt ds (r, p) = -1 from h1] at h; omega
  · rw [show dirAt ds (r, p) = (j : Int) from h1] at h
    obtain rfl : j = k := by omega
    unfold dplace at h2
    cases h2; rfl
theorem owns_drwE {w : World} {B e s n : Nat} {v : Value} {xs : List Value} (h : w.ownsRow B e s v n xs) : w.drew.ownsRow B e s v n xs := owns_below h ⟨rfl, rfl, rfl, Nat.le_refl _, fun _ _ => rfl⟩
set_option maxRecDepth 100000 in
set_option maxHeartbeats 4000000 in
theorem spec_stamped (v u : Value) (c r : Int) (p : Bs) (qs : List (Dr × Value)) (B : Nat) (w : World) (hv : ∃ a n k, v = .slice a n k) (hd : OwnDirs w B u qs) (hB : B ≤ w.heap.size) (hq : ∀ q ∈ qs, q.1.names = []) (hl : qs.length ≤ 20) (hp : vpk p = true) :
    Calls Try.prog 89 #[.agg #[v, .int .i64 c, u], .int .i64 r, .string (mk p)] w fun e w' => ∃ u' rs, e = .returned (.agg #[v, .int .i64 c, u']) ∧ rs.map (·.1) = stampAll r c ([] :: namesAbove p) (qs.map (·.1)) ∧ OwnDirs w' B u' rs ∧ Below B w w' ∧ KeepT 72 w w' := by
  obtain ⟨i1, hi1, hy0, hy1, hy2⟩ := info_parts infoSD
  have Hi1 := Lib.hid hi1
  have Hy0 := Lib.hid hy0
  have Hy1 := Lib.hid hy1
  have Hy2 := Lib.hid hy2
  obtain ⟨i0, hi, hz0, hz1, hz2⟩ := info_parts infoDir
  have Hi := Lib.hid hi
  have Hz0 := Lib.hid hz0
  have Hz1 := Lib.hid hz1
  have Hz2 := Lib.hid hz2
  clear hi1 hy0 hy1 hy2 hi hz0 hz1 hz2
  obtain ⟨va, vn', vk, rfl⟩ := hv
  obtain ⟨ab, cb, rfl⟩ := hd.len
  have Hd := Lib.hid hd
  have Hq := Lib.hid hq
  have hpl := vpk_len hp
  have Hp := Lib.hid hp
  clear hd hq hp
  obtain ⟨Wb, hWb⟩ : ∃ W, W = ((w.alloc (.cells #[.slice va vn' vk, .int .i64 c, .slice ab qs.length cb] 28)).alloc (.cells #[.slice none 0 0, .int .i64 0, .slice none 0 0] 28)).alloc (.cells #[.string (⟨#[]⟩ : ByteArray)] 9) := ⟨_, rfl⟩
  have HBw := Lib.hid (show Below w.heap.size w Wb by rw [hWb]; (repeat (with_reducible first | exact Below.refl _ _ | assumption | refine ba ?_ _ | refine bd ?_ | refine bdN ?_ _ | refine bs ?_ (by first | exact Nat.le_refl _ | (dsimp only; omega) | (simp; done)) _ | refine bt ?_ (by assumption))))
  have HWs := Lib.hid (show Wb.heap.size = w.heap.size + 3 by rw [hWb]; simp)
  have HX0 := Lib.hid (show HB Wb w.heap.size 28 #[.slice va vn' vk, .int .i64 c, .slice ab qs.length cb] by rw [hWb]; exact ((HB.new w _ _).alloc _).alloc _)
  have HX1 := Lib.hid (show HB Wb (w.heap.size + 1) 28 #[.slice none 0 0, .int .i64 0, .slice none 0 0] by rw [hWb]; have h := ((HB.new (w.alloc (.cells #[.slice va vn' vk, .int .i64 c, .slice ab qs.length cb] 28)) #[.slice none 0 0, .int .i64 0, .slice none 0 0] 28).alloc (.cells #[.string (⟨#[]⟩ : ByteArray)] 9)); rw [World.size_alloc] at h; exact h)
  have HL0 := Lib.hid (show Wb.ownsRow (w.heap.size + 2) 9 1 (.slice (some ⟨w.heap.size + 1 + 1, 0, none⟩) 1 1) 1 [.string (mk [])] by
    have h := World.ownsRow_lit (size := 1) (base := w.heap.size + 2) (e := 9) ((w.alloc (.cells #[.slice va vn' vk, .int .i64 c, .slice ab qs.length cb] 28)).alloc (.cells #[.slice none 0 0, .int .i64 0, .slice none 0 0] 28)) #[.string (mk [])] 1 (by simp) (by unfold maxLen; omega) rfl
    rw [World.size_alloc, World.size_alloc] at h
    rw [hWb]; exact h)
  have HWe := Lib.hid hWb
  clear hWb
  obtain ⟨L, hL⟩ : ∃ L, L = [] :: namesAbove p := ⟨_, rfl⟩
  have hna3 : (namesAbove p).length ≤ 3 := namesAbove_le3 p
  have hL4 : L.length ≤ 4 := by rw [hL, List.length_cons]; omega
  have HLs := Lib.hid (show ∀ q ∈ L, q.length ≤ 11 by rw [hL]; exact stamped_short p)
  rw [← hL]
  have HL := Lib.hid hL
  clear hL
  go_enter Try.func89, Try.ntmps89
  go_upto_if 12 with fail
  rw [← HWe.out]
  go_cut [7] (fun s7 wx => ∃ (a9 : Option Addr) (c9 : Nat), s7 = .slice a9 L.length c9 ∧ wx.ownsRow (w.heap.size + 2) 9 1 (.slice a9 L.length c9) L.length (L.map sv) ∧ Below (w.heap.size + 2) Wb wx)
  case first =>
    by_cases hp0 : p = []
    · have e : L = [[]] := by rw [HL.out, hp0]; rfl
      subst hp0
      go_wp2_with fail
      go_meet
      rw [e]
      exact ⟨_, _, rfl, HL0.out, Below.refl _ _⟩
    · have hvn : vn p = true := (vpk_iff.1 Hp.out).resolve_left hp0
      have hab : namesAbove p = above p := by unfold namesAbove; rw [if_pos hvn]
      have hpe : List.isEmpty p = false := by simpa using hp0
      have hpe2 : (!List.isEmpty p) = true := by rw [hpe]; rfl
      clear hpe
      have hal : (above p).length ≤ 3 := by rw [← hab]; exact hna3
      have HLe := Lib.hid (show 1 + (above p).length = L.length by rw [HL.out, List.length_cons, hab]; omega)
      have HLm := Lib.hid (show [Value.string (mk [])] ++ (above p).map sv = L.map sv by rw [HL.out, hab]; rfl)
      have hz := HWs.out
      clear hab hvn
      go_wp2_with (first
        | (go_at_call 124; refine (spec_above p _ (by omega)).mono ?_; rintro _ w8 ⟨v8, rfl, hown8, hb8⟩; obtain ⟨a8, c8, rfl⟩ := owns_shape hown8; have Hown8 := Lib.hid hown8; have Hb8 := Lib.hid (show Below Wb.heap.size Wb w8 by (repeat (with_reducible first | exact Below.refl _ _ | assumption | refine ba ?_ _ | refine bd ?_ | refine bdN ?_ _ | refine bs ?_ (by first | exact Nat.le_refl _ | (dsimp only; omega) | (simp; done)) _ | refine bt ?_ (by assumption)))); have HL8 := Lib.hid (owns_below HL0.out hb8); clear hown8 hb8)
        | (at_builtin; refine wpList_append_both rfl _ _ 70 rfl (w.heap.size + 2) 9 i1 _ 1 16 Try.underlying70 Hi1.out Hy0.out Hy1.out Hy2.out rfl (by decide) _ 1 _ rfl HL8.out _ _ _ _ rfl Hown8.out (fun u hu => by obtain ⟨s, _, rfl⟩ := List.mem_map.1 hu; rfl) (by unfold maxLen; omega) (by omega) (by have := Hb8.out.size; omega) ?_; intro v9 w9 hown9 hgrow9; rw [HLe.out, HLm.out] at hown9; obtain ⟨a9, c9, rfl⟩ := owns_shape hown9; have Hown9 := Lib.hid hown9; have Hg9 := Lib.hid hgrow9; clear hown9 hgrow9))
      rotate_left
      · rename_i hx
        rw [hpe2] at hx
        exact absurd hx (by simp)
      go_meet
      exact ⟨_, _, rfl, Hown9.out, (Hb8.out.mono (by omega)).grown Hg9.out (by have := Hb8.out.size; omega) (fun g hg => by cases hg; dsimp only; omega)⟩
  case rest =>
    obtain ⟨a9, c9, rfl, hnm0, hbc⟩ := hcut
    have Hnm0 := Lib.hid hnm0
    have Hbc := Lib.hid hbc
    have hz := hbc.size
    have hzz := HWs.out
    clear hnm0 hbc HL0
    go_wp2_with fail
    go_loopw [8] (fun iv wr => ∃ (j : Nat) (u' : Value) (rs : List (Dr × Value)), j ≤ L.length ∧ iv = .int .i64 j ∧ rs.map (·.1) = stampAll r c (L.take j) (qs.map (·.1)) ∧ OwnDirs wr B u' rs ∧ HB wr w.heap.size 28 #[.slice va vn' vk, .int .i64 c, u'] ∧ HB wr (w.heap.size + 1) 28 #[.slice none 0 0, .int .i64 0, .slice none 0 0] ∧ wr.ownsRow (w.heap.size + 2) 9 1 (.slice a9 L.length c9) L.length (L.map sv) ∧ Below B w wr ∧ KeepT 72 w wr ∧ wc.heap.size ≤ wr.heap.size) (fun iv _ => L.length - (intOf iv).toNat)
    case atStart =>
      have hbw : Below w.heap.size w wc := HBw.out.trans (Hbc.out.mono (by omega))
      exact ⟨0, _, qs, by omega, rfl, rfl, Hd.out.below hbw, HX0.out.below Hbc.out (by omega), HX1.out.below Hbc.out (by omega), Hnm0.out, hbw.mono hB, KeepT.of_below hbw, Nat.le_refl _⟩
    case round =>
      obtain ⟨j, u', rs, hj, rfl, hrs, hown, hbx, hbx1, hnm, hbel, hkt, hszr⟩ := hrel
      have Hkt := Lib.hid hkt
      clear hkt
      obtain ⟨ua, uc, rfl⟩ := hown.len
      have hrl : rs.length ≤ 24 := by
        have h1 := congrArg List.length hrs
        have h2 := stampAll_len r c (L.take j) (qs.map (·.1))
        simp at h1 h2
        omega
      have Hrn := Lib.hid (show ∀ q ∈ rs, q.1.names = [] from fun q h => by
        have h1 := stampAll_all (P := fun d => d.names = []) (r := r) (c := c) (fun _ => rfl) (L.take j) (qs.map (·.1)) (fun x hx => by obtain ⟨q, hq, rfl⟩ := List.mem_map.1 hx; exact Hq.out q hq)
        rw [← hrs] at h1
        exact h1 q.1 (List.mem_map.2 ⟨q, h, rfl⟩))
      have Hrs := Lib.hid hrs
      have Hown := Lib.hid hown
      have Hbx := Lib.hid hbx
      have Hbx1 := Lib.hid hbx1
      have Hnm := Lib.hid hnm
      have Hbel := Lib.hid hbel
      have hXr : w.heap.size < wr.heap.size := hbx.lt
      have hszw := hbel.size
      clear hrs hown hbx hbx1 hbel
      by_cases hlt : j < L.length
      · obtain ⟨gl, cl, el, hgl1, hgl2⟩ := hnm.form (by omega)
        simp only [Value.slice.injEq] at el
        obtain ⟨rfl, _, rfl⟩ := el
        have hcj : wr.cell? ⟨gl, j, none⟩ = some (.string (mk L[j])) := by
          rw [hnm.cellAt j (by omega), List.getElem?_map, List.getElem?_eq_getElem hlt]; rfl
        have hgs : gl < wr.heap.size := (hnm.lt gl rfl).2
        have Hsn := Lib.hid (stampAll_snoc r c L (qs.map (·.1)) j hlt)
        have hsl : L[j].length ≤ 11 := HLs.out _ (List.getElem_mem hlt)
        have x1 : wr.cell? ⟨w.heap.size, 1, none⟩ = some (.int .i64 c) := Hbx.out.cell 1
        have x2 : wr.cell? ⟨w.heap.size, 2, none⟩ = some (.slice ua rs.length uc) := Hbx.out.cell 2
        have hk1 : (j : Int) < (L.length : Int) := by omega
        have hk0 : (0 : Int) ≤ (j : Int) := by omega
        obtain ⟨nm, hnme⟩ : ∃ nm, nm = L[j] := ⟨_, rfl⟩
        rw [← hnme] at hcj Hsn hsl
        clear hnme hnm
        have Hdi := Lib.hid (Hown.out.dirs (D := fun _ => True) (fun _ _ => trivial))
        have Hk := Lib.hid (fun (w' : World) (hC : Below wr.heap.size wr w') => (⟨(Hbx.out.step hC).cell 2, (hC.cell (p := ⟨gl, j, none⟩) hgs).trans hcj, hC⟩ : w'.cell? ⟨w.heap.size, 2, none⟩ = some (.slice ua rs.length uc) ∧ w'.cell? ⟨gl, j, none⟩ = some (.string (mk nm)) ∧ Below wr.heap.size wr w'))
        rcases keyAt_is (key := dplace) (rs.map (·.1)) (r, nm) with ⟨hno, _⟩ | ⟨k, hk, hyes, _, _⟩
        · have Hno := Lib.hid (show dirAt (rs.map (·.1)) (r, nm) = -1 from hno)
          clear hno
          go_wp2_with fail
          go_region_held3 (fun w' => w'.cell? ⟨w.heap.size, 2, none⟩ = some (.slice ua rs.length uc) ∧ w'.cell? ⟨gl, j, none⟩ = some (.string (mk nm)) ∧ Below wr.heap.size wr w')
            (exact Hk.out _ (by (repeat (with_reducible first | exact Below.refl _ _ | assumption | refine ba ?_ _ | refine bd ?_ | refine bdN ?_ _ | refine bs ?_ (by first | exact Nat.le_refl _ | (dsimp only; omega) | (simp; done)) _ | refine bt ?_ (by assumption)))))
            (first | (go_at_call 116; refine (spec_dirAt ua rs.length uc (rs.map (·.1)) (fun _ => True) r nm _ (Hdi.out.below (by (repeat (with_reducible first | exact Below.refl _ _ | assumption | refine ba ?_ _ | refine bd ?_ | refine bdN ?_ _ | refine bs ?_ (by first | exact Nat.le_refl _ | (dsimp only; omega) | (simp; done)) _ | refine bt ?_ (by assumption)))))).mono ?_; rintro _ w7 ⟨rfl, hb7⟩; rw [Hno.out]))
          have Hb7 := Lib.hid (show Below wr.heap.size wr w7 by (repeat (with_reducible first | exact Below.refl _ _ | assumption | refine ba ?_ _ | refine bd ?_ | refine bdN ?_ _ | refine bs ?_ (by first | exact Nat.le_refl _ | (dsimp only; omega) | (simp; done)) _ | refine bt ?_ (by assumption))))
          have HbX7 := Lib.hid (Hbx.out.step Hb7.out)
          have HbX71 := Lib.hid (Hbx1.out.step Hb7.out)
          have Hown7 := Lib.hid (Hown.out.below Hb7.out)
          have Hnm7 := Lib.hid (owns_below Hnm.out Hb7.out)
          have hB7 : B ≤ w7.heap.size := by have := Hb7.out.size; omega
          clear x1 x2
          have x1 : w7.cell? ⟨w.heap.size, 1, none⟩ = some (.int .i64 c) := HbX7.out.cell 1
          have x2 : w7.cell? ⟨w.heap.size, 2, none⟩ = some (.slice ua rs.length uc) := HbX7.out.cell 2
          have hcj7 : w7.cell? ⟨gl, j, none⟩ = some (.string (mk nm)) := (Hb7.out.cell (p := ⟨gl, j, none⟩) hgs).trans hcj
          have l7 : w.heap.size < w7.heap.size := HbX7.out.lt
          have lg7 : gl < w7.heap.size := by have := Hb7.out.size; omega
          clear hcj hb7
          obtain ⟨WA, hWA⟩ : ∃ W, W = (w7.alloc (.cells #[.int .i64 r, .string (mk nm), .int .i64 c, .slice none 0 0] 72)).drew := ⟨_, rfl⟩
          have HA1 := Lib.hid (show WA.ownsRow B 72 4 (.slice ua rs.length uc) rs.length (rs.flatMap drCells) by rw [hWA]; exact owns_drwE (Hown7.out.1.alloc _))
          have HA2 := Lib.hid (show WA.ownsRow w7.heap.size 72 4 (.slice (some ⟨w7.heap.size, 0, none⟩) 1 1) 1 (drCells ((⟨r, nm, c, []⟩ : Dr), Value.slice none 0 0)) by rw [hWA]; exact owns_drwE (World.ownsRow_lit (size := 4) w7 (drCells ((⟨r, nm, c, []⟩ : Dr), Value.slice none 0 0)).toArray 1 (Nat.le_refl _) (by unfold maxLen; omega) rfl))
          have HA3 := Lib.hid (show HB WA w.heap.size 28 #[.slice va vn' vk, .int .i64 c, .slice ua rs.length uc] by rw [hWA]; exact (HbX7.out.alloc _).drew)
          have HA5 := Lib.hid (show OwnDirs WA B (.slice ua rs.length uc) rs by rw [hWA]; exact Hown7.out.below (bd (ba (Below.refl _ _) _)))
          have HA6 := Lib.hid (show HB WA (w.heap.size + 1) 28 #[.slice none 0 0, .int .i64 0, .slice none 0 0] by rw [hWA]; exact (HbX71.out.alloc _).drew)
          have HA7 := Lib.hid (show WA.ownsRow (w.heap.size + 2) 9 1 (.slice (some ⟨gl, 0, none⟩) L.length c9) L.length (L.map sv) by rw [hWA]; exact owns_drwE (Hnm7.out.alloc _))
          have HA8 := Lib.hid (show Below wr.heap.size wr WA by rw [hWA]; exact bd (ba Hb7.out _))
          have hA4 : B ≤ WA.heap.size := by rw [hWA]; show B ≤ (w7.alloc _).heap.size; simp; omega
          have HAe := Lib.hid hWA
          clear hWA
          go_wp2_with fail
          go_region_law (go_loud (rw [← HAe.out]; refine step_append_both rfl (.tmp 34) (.tmp 43) 26 rfl B 72 i0 _ 4 56 Try.underlying26 Hi.out Hz0.out Hz1.out Hz2.out rfl (by decide) (.slice ua rs.length uc) rs.length (rs.flatMap drCells) (by simp [Act.eval, Act.put]) HA1.out w7.heap.size (.slice (some ⟨w7.heap.size, 0, none⟩) 1 1) 1 (drCells ((⟨r, nm, c, []⟩ : Dr), Value.slice none 0 0)) (by simp [Act.eval, Act.put]) HA2.out (dir_one _ ⟨_, _, _, rfl⟩) (by unfold maxLen; omega) (by omega) hA4 ?_; intro vA wA hownA hgA; obtain ⟨aA, cA, hvA⟩ := owns_shape hownA; subst hvA; have HownA := Lib.hid hownA; have HgA := Lib.hid hgA; have HbXA := Lib.hid (HA3.out.grown hgA (HA3.out.apart HA1.out (by decide))); have xA := HbXA.out.cell 2; have fA := HbXA.out.frozen 2; have lA := HbXA.out.lt; clear hownA hgA))
          all_goals
            go_wp2_with fail
            go_roundw
            case rel =>
              refine ⟨j + 1, .slice aA (rs.length + 1) cA, rs ++ [((⟨r, nm, c, []⟩ : Dr), Value.slice none 0 0)], by omega, by go_num, ?_, ?_, ?_, ?_, ?_, ?_, ?_, ?_⟩
              · rw [Hsn.out, ← Hrs.out, putDr_new Hno.out]; simp
              · have h1 : OwnDirs wA B (.slice aA (rs.length + 1) cA) (rs ++ [((⟨r, nm, c, []⟩ : Dr), Value.slice none 0 0)]) := ⟨by have h := HownA.out; simpa using h, dk_names_app (dk_names_grown HA5.out.2 HgA.out (fun b hb p hp => own_types (by decide) HA1.out (HA5.out.2.1 p hp) hb)) (World.ownsRow_nil _ _ _ _) (fun _ _ _ _ h => by cases h)⟩
                exact HbXA.out.dirs (by decide) (by decide) h1 _ _
              · have h := HbXA.out.put 2 (.slice aA (rs.length + 1) cA)
                simpa using h
              · exact (HA6.out.grown HgA.out (HA6.out.apart HA1.out (by decide))).other (by dsimp only; omega) _
              · exact owns_hbput HbXA.out (dk_kept2 HA7.out HA1.out HgA.out) (by decide) _ _
              · exact ((Hbel.out.trans (HA8.out.mono (by omega))).grown HgA.out hA4 (fun g hg => (HA1.out.lt g hg).1)).setCell (p := ⟨w.heap.size, 2, none⟩) hB _
              · exact ((Hkt.out.trans (KeepT.of_below HA8.out)).trans (KeepT.grown HA1.out HgA.out)).new (p := ⟨w.heap.size, 2, none⟩) (Nat.le_refl _) _
              · have h1 := HgA.out.size
                have h2 := HA8.out.size
                simp; omega
            case measure => simp [intOf]; omega
        · have hk' : k < rs.length := by simpa using hk
          have Hye := Lib.hid (show dirAt (rs.map (·.1)) (r, nm) = (k : Int) from hyes)
          clear hyes
          obtain ⟨gd, cd, ed, hgd1, hgd2⟩ := Hown.out.1.form (by omega)
          simp only [Value.slice.injEq] at ed
          obtain ⟨rfl, _, rfl⟩ := ed
          have hgds : gd < wr.heap.size := (Hown.out.1.lt gd rfl).2
          go_wp2_with fail
          go_region_held3 (fun w' => w'.cell? ⟨w.heap.size, 2, none⟩ = some (.slice (some ⟨gd, 0, none⟩) rs.length uc) ∧ w'.cell? ⟨gl, j, none⟩ = some (.string (mk nm)) ∧ Below wr.heap.size wr w')
            (exact Hk.out _ (by (repeat (with_reducible first | exact Below.refl _ _ | assumption | refine ba ?_ _ | refine bd ?_ | refine bdN ?_ _ | refine bs ?_ (by first | exact Nat.le_refl _ | (dsimp only; omega) | (simp; done)) _ | refine bt ?_ (by assumption)))))
            (first | (go_at_call 116; refine (spec_dirAt _ rs.length uc (rs.map (·.1)) (fun _ => True) r nm _ (Hdi.out.below (by (repeat (with_reducible first | exact Below.refl _ _ | assumption | refine ba ?_ _ | refine bd ?_ | refine bdN ?_ _ | refine bs ?_ (by first | exact Nat.le_refl _ | (dsimp only; omega) | (simp; done)) _ | refine bt ?_ (by assumption)))))).mono ?_; rintro _ w7 ⟨rfl, hb7⟩; rw [Hye.out]))
          have Hb7 := Lib.hid (show Below wr.heap.size wr w7 by (repeat (with_reducible first | exact Below.refl _ _ | assumption | refine ba ?_ _ | refine bd ?_ | refine bdN ?_ _ | refine bs ?_ (by first | exact Nat.le_refl _ | (dsimp only; omega) | (simp; done)) _ | refine bt ?_ (by assumption))))
          have HbX7 := Lib.hid (Hbx.out.step Hb7.out)
          have HbX71 := Lib.hid (Hbx1.out.step Hb7.out)
          have Hown7 := Lib.hid (Hown.out.below Hb7.out)
          have Hnm7 := Lib.hid (owns_below Hnm.out Hb7.out)
          have hB7 : B ≤ w7.heap.size := by have := Hb7.out.size; omega
          clear x1 x2 hcj
          have x1 : w7.cell? ⟨w.heap.size, 1, none⟩ = some (.int .i64 c) := HbX7.out.cell 1
          have x2 : w7.cell? ⟨w.heap.size, 2, none⟩ = some (.slice (some ⟨gd, 0, none⟩) rs.length uc) := HbX7.out.cell 2
          obtain ⟨⟨_, _, c2, _⟩, _, _, z2, _⟩ := own4 Hown7.out.1 k hk'
          have hkI : (k : Int) < (rs.length : Int) := by omega
          have hk00 : ¬ (k : Int) < 0 := by omega
          clear hb7
          go_wp2_with fail
          have hne0 : w.heap.size ≠ gd := fun e => HbX7.out.apart Hown7.out.1 (by decide) (by rw [e]; rfl)
          have hne1 : w.heap.size + 1 ≠ gd := fun e => HbX71.out.apart Hown7.out.1 (by decide) (by rw [e]; rfl)
          refine ⟨⟨j + 1, .slice (some ⟨gd, 0, none⟩) rs.length uc, rs.set k ((⟨rs[k].1.root, rs[k].1.pack, c, rs[k].1.names⟩ : Dr), rs[k].2), by omega, by go_num, ?_, dirs_stamp Hown7.out k hk' c, HbX7.out.other hne0 _, HbX71.out.other hne1 _, dk_set_other Hnm7.out (fun b hb e => own_types (T := 72) (T' := 9) (by decide) Hown7.out.1 Hnm7.out (b := gd) rfl (by rw [hb, e])) _, (Hbel.out.trans (Hb7.out.mono (by omega))).setCell (p := ⟨gd, k * 4 + 2, none⟩) (Hown.out.1.lt gd rfl).1 _, (Hkt.out.trans (KeepT.of_below Hb7.out)).trans (KeepT.put (p := ⟨gd, k * 4 + 2, none⟩) Hown7.out.1 rfl _), by have := Hb7.out.size; simp; omega⟩, by simp [intOf]; omega⟩
          rw [Hsn.out, ← Hrs.out, putDr_stamp (k := k) hk Hye.out (by rw [List.getElem_map]; exact Hrn.out _ (List.getElem_mem hk')), List.map_set]
          simp
      · obtain rfl : j = L.length := by omega
        rw [List.take_length] at Hrs
        have x0 : wr.cell? ⟨w.heap.size, 0, none⟩ = some (.slice va vn' vk) := Hbx.out.cell 0
        have x1 : wr.cell? ⟨w.heap.size, 1, none⟩ = some (.int .i64 c) := Hbx.out.cell 1
        have x2 : wr.cell? ⟨w.heap.size, 2, none⟩ = some (.slice ua rs.length uc) := Hbx.out.cell 2
        have r0 := Hbx1.out.cell 0
        have r1 := Hbx1.out.cell 1
        have r2 := Hbx1.out.cell 2
        have f0 := Hbx1.out.frozen 0
        have f1 := Hbx1.out.frozen 1
        have f2 := Hbx1.out.frozen 2
        have l1 := Hbx1.out.lt
        go_wp2_with fail
        refine bodyPost_ret (v := .agg #[.slice va vn' vk, .int .i64 c, .slice ua rs.length uc]) (by simp [results, Try.results89, go_sem, r0, r1, r2]) rfl ?_
        refine ⟨.slice ua rs.length uc, rfl, rs, Hrs.out, ?_, ?_, ?_⟩
        · exact (Hbx1.out.put _ _ |>.put _ _).dirs (by decide) (by decide) ((Hbx1.out.put _ _).dirs (by decide) (by decide) (Hbx1.out.dirs (by decide) (by decide) Hown.out _ _) _ _) _ _
        · exact ((Hbel.out.setCell (p := ⟨w.heap.size + 1, 0, none⟩) (by dsimp only; omega) _).setCell (p := ⟨w.heap.size + 1, 1, none⟩) (by dsimp only; omega) _).setCell (p := ⟨w.heap.size + 1, 2, none⟩) (by dsimp only; omega) _
        · exact ((Hkt.out.new (p := ⟨w.heap.size + 1, 0, none⟩) (by dsimp only; omega) _).new (p := ⟨w.heap.size + 1, 1, none⟩) (by dsimp only; omega) _).new (p := ⟨w.heap.size + 1, 2, none⟩) (by dsimp only; omega) _

/-! ### Contracts of the additions to disks and the removals from them, of both sides. -/
def noFil : Fil := ⟨0, [], [], false, 0, []⟩
def diskAdd (d : Dsk) (f : Fil) (k : Int) : Dsk × Bool := if okDisk d && (addFil d.files f).2 then changed d (addFil d.files f).1 f.root f.pack k else (⟨[], 0, []⟩, false)
def diskRem (d : Dsk) (i k : Int) : Dsk × Bool := if okDisk d && (remFil d.files i).2 then changed d (remFil d.files i).1 (d.files.getD i.toNat noFil).root (d.files.getD i.toNat noFil).pack k else (⟨[], 0, []⟩, false)
theorem okDisk_all {d : Dsk} (h : okDisk d = true) : inr d.clock 0 200 = true ∧ okDirs d.dirs d.clock 0 = true ∧ okTree d.files = true := by
  unfold okDisk at h; simp only [Bool.and_eq_true] at h; exact ⟨h.1.1, h.1.2, h.2⟩
/-- The model looks at the ticks by themselves, and at the clock when they have gone by. -/
theorem changed_eq {d : Dsk} {t : List Fil} {r : Int} {p : Bs} {k : Int} (h : inr k 0 200 = true) :
    changed d t r p k = if okDisk ⟨t, d.clock + k, stampAll r (d.clock + k) ([] :: namesAbove p) d.dirs⟩ then (⟨t, d.clock + k, stampAll r (d.clock + k) ([] :: namesAbove p) d.dirs⟩, true) else (⟨[], 0, []⟩, false) := by
  cases hin : inr k 0 (200 - d.clock)
  · rw [changed_no hin]
    cases hok : okDisk ⟨t, d.clock + k, stampAll r (d.clock + k) ([] :: namesAbove p) d.dirs⟩
    · rfl
    · have h1 := (okDisk_all hok).1
      unfold inr at h h1 hin
      simp at h h1 hin
      omega
  · exact changed_is hin
theorem changed_far {d : Dsk} {t : List Fil} {r : Int} {p : Bs} {k : Int} (hc : inr d.clock 0 200 = true) (h : inr k 0 200 = false) : changed d t r p k = (⟨[], 0, []⟩, false) := by
  refine changed_no ?_
  unfold inr at h hc ⊢
  simp at h hc ⊢
  omega
theorem diskAdd_no {d : Dsk} {f : Fil} {k : Int} (h : (okDisk d && (addFil d.files f).2) = false) : diskAdd d f k = (⟨[], 0, []⟩, false) := by unfold diskAdd; rw [h]; rfl
theorem diskAdd_yes {d : Dsk} {f : Fil} {k : Int} (h : okDisk d = true) (h2 : (addFil d.files f).2 = true) : diskAdd d f k = changed d (addFil d.files f).1 f.root f.pack k := by unfold diskAdd; rw [h, h2]; rfl
theorem diskAdd_far {d : Dsk} {f : Fil} {k : Int} (h : okDisk d = true) (h2 : inr k 0 200 = false) : diskAdd d f k = (⟨[], 0, []⟩, false) := by
  cases h3 : (addFil d.files f).2
  · exact diskAdd_no (by rw [h3]; simp)
  · rw [diskAdd_yes h h3, changed_far (okDisk_all h).1 h2]
theorem diskRem_no {d : Dsk} {i k : Int} (h : (okDisk d && (remFil d.files i).2) = false) : diskRem d i k = (⟨[], 0, []⟩, false) := by unfold diskRem; rw [h]; rfl
theorem diskRem_yes {d : Dsk} {i k : Int} (h : okDisk d = true) (h2 : (remFil d.files i).2 = true) : diskRem d i k = changed d (remFil d.files i).1 (d.files.getD i.toNat noFil).root (d.files.getD i.toNat noFil).pack k := by unfold diskRem; rw [h, h2]; rfl
theorem diskRem_far {d : Dsk} {i k : Int} (h : okDisk d = true) (h2 : inr k 0 200 = false) : diskRem d i k = (⟨[], 0, []⟩, false) := by
  cases h3 : (remFil d.files i).2
  · exact diskRem_no (by rw [h3]; simp)
  · rw [diskRem_yes h h3, changed_far (okDisk_all h).1 h2]
theorem addFil_short {B : Nat} {t : List Fil} {f : Fil} (h : ShortT B t) (hf : ShortF B f) : ShortT B (addFil t f).1 := by
  unfold addFil; split
  · intro x hx
    rcases List.mem_append.1 hx with hx | hx
    · exact h x hx
    · simp at hx; subst hx; exact hf
  · intro x hx; simp at hx
theorem remFil_short {B : Nat} {t : List Fil} {i : Int} (h : ShortT B t) : ShortT B (remFil t i).1 := by
  unfold remFil; split
  · intro x hx; exact h x (List.mem_of_mem_eraseIdx hx)
  · intro x hx; simp at hx
theorem addFil_pack {t : List Fil} {f : Fil} (h : (addFil t f).2 = true) : vpk f.pack = true := by
  unfold addFil at h
  split at h
  · rename_i hc
    simp only [Bool.and_eq_true] at hc
    exact okFil_pack (okTree_file hc.2 (by simp))
  · exact absurd h (by simp)
theorem remFil_at {t : List Fil} {i : Int} (h : (remFil t i).2 = true) : ∃ k : Nat, ∃ hk : k < t.length, i = (k : Int) ∧ vpk t[k].pack = true ∧ t.getD i.toNat noFil = t[k] := by
  unfold remFil at h
  split at h
  · rename_i hc
    simp only [Bool.and_eq_true] at hc
    have h2 := hc.2
    unfold inr at h2
    simp at h2
    refine ⟨i.toNat, by omega, (Int.toNat_of_nonneg (by omega)).symm, okFil_pack (okTree_file hc.1 (List.getElem_mem _)), ?_⟩
    simp [List.getD, show i.toNat < t.length by omega]
  · exact absurd h (by simp)
theorem ChgD.mono {B B' : Nat} {r : Dsk × Bool} {w0 w w' : World} {e : Ending} (h : ChgD B r w e w') (hB : B' ≤ B) (hw : Below w0.heap.size w0 w) : ChgD B' r w0 e w' := by
  obtain ⟨v, ps, u, qs, h1, h2, h3, h4, h5, h6⟩ := h
  exact ⟨v, ps, u, qs, h1, h2, h3, h4.mono hB, h5.mono hw.size, hw.trans (h6.mono hw.size)⟩
set_option maxRecDepth 100000 in
set_option maxHeartbeats 4000000 in
theorem spec_changed (v0 v u : Value) (fs0 : List Fil) (c k r : Int) (p : Bs) (ps : List (Fil × Value)) (qs : List (Dr × Value)) (B B' : Nat) (w : World) (hf : OwnFils w B v ps) (hz : ShortT 2000000 (ps.map (·.1))) (hd : OwnDirs w B' u qs) (hc : inr c 0 200 = true) (hq : okDirs (qs.map (·.1)) c 0 = true) (hk : inr k 0 200 = true) (hp : vpk p = true) :
    Calls Try.prog 48 #[.agg #[v0, .int .i64 c, u], .agg #[v], .int .i64 r, .string (mk p), .int .i64 k] w (ChgD B (changed ⟨fs0, c, qs.map (·.1)⟩ (ps.map (·.1)) r p k) w) := by
  obtain ⟨aa, ca, rfl⟩ := hf.len
  obtain ⟨ab, cb, rfl⟩ := hd.len
  have hl : qs.length ≤ 20 := by have h := okDirs_len hq; rwa [List.length_map] at h
  have Hbl := Lib.hid (show ∀ q ∈ qs, q.1.names.length ≤ 1048576 from fun q h => by rw [(okDirs_dr' hq q.1 (List.mem_map.2 ⟨q, h, rfl⟩)).1]; simp)
  have Hdr := Lib.hid (okDirs_dr' hq)
  have Hz := Lib.hid hz
  have Hf := Lib.hid hf
  have Hd := Lib.hid hd
  have Hp := Lib.hid hp
  have Hyes := Lib.hid (changed_eq (d := ⟨fs0, c, qs.map (·.1)⟩) (t := ps.map (·.1)) (r := r) (p := p) hk)
  have hcc : 0 ≤ c ∧ c ≤ 200 := by unfold inr at hc; simpa using hc
  have hkk : 0 ≤ k ∧ k ≤ 200 := by unfold inr at hk; simpa using hk
  clear hf hd hq hz hc hk hp
  obtain ⟨Wb, hWb⟩ : ∃ W, W = ((w.alloc (.cells #[v0, .int .i64 c, .slice ab qs.length cb] 28)).alloc (.cells #[.slice aa ps.length ca] 25)).alloc (.cells #[.slice none 0 0, .int .i64 0, .slice none 0 0] 28) := ⟨_, rfl⟩
  have HBw := Lib.hid (show Below w.heap.size w Wb by rw [hWb]; (repeat (with_reducible first | exact Below.refl _ _ | assumption | refine ba ?_ _ | refine bd ?_ | refine bdN ?_ _ | refine bs ?_ (by first | exact Nat.le_refl _ | (dsimp only; omega) | (simp; done)) _ | refine bt ?_ (by assumption))))
  have HWs := Lib.hid (show Wb.heap.size = w.heap.size + 3 by rw [hWb]; simp)
  have HX0 := Lib.hid (show HB Wb w.heap.size 28 #[v0, .int .i64 c, .slice ab qs.length cb] by rw [hWb]; exact ((HB.new w _ _).alloc _).alloc _)
  have HX1 := Lib.hid (show HB Wb (w.heap.size + 1) 25 #[.slice aa ps.length ca] by rw [hWb]; have h := ((HB.new (w.alloc (.cells #[v0, .int .i64 c, .slice ab qs.length cb] 28)) #[.slice aa ps.length ca] 25).alloc (.cells #[.slice none 0 0, .int .i64 0, .slice none 0 0] 28)); rw [World.size_alloc] at h; exact h)
  have HX3 := Lib.hid (show HB Wb (w.heap.size + 1 + 1) 28 #[.slice none 0 0, .int .i64 0, .slice none 0 0] by rw [hWb]; have h := (HB.new ((w.alloc (.cells #[v0, .int .i64 c, .slice ab qs.length cb] 28)).alloc (.cells #[.slice aa ps.length ca] 25)) #[.slice none 0 0, .int .i64 0, .slice none 0 0] 28); rw [World.size_alloc, World.size_alloc] at h; exact h)
  have HWe := Lib.hid hWb
  have Hk := Lib.hid (fun (w' : World) (hC : Below Wb.heap.size Wb w') => (⟨(HX0.out.step hC).cell 1, (HX0.out.step hC).cell 2, (HX1.out.step hC).cell 0⟩ : w'.cell? ⟨w.heap.size, 1, none⟩ = some (.int .i64 c) ∧ w'.cell? ⟨w.heap.size, 2, none⟩ = some (.slice ab qs.length cb) ∧ w'.cell? ⟨w.heap.size + 1, 0, none⟩ = some (.slice aa ps.length ca)))
  clear hWb
  go_enter Try.func48, Try.ntmps48
  go_upto_region 1 with fail
  rw [← HWe.out]
  obtain ⟨a0, a1, a2⟩ := Hk.out Wb (Below.refl _ _)
  go_cut [12] (fun s10 wx => ∃ (X : Nat) (q6 : List (Dr × Value)) (a6 : Option Addr) (c6 : Nat), s10 = .pointer (some ⟨X, 0, none⟩) ∧ HB wx X 28 #[.slice aa ps.length ca, .int .i64 (IntKind.i64.wrap (c + k)), .slice a6 q6.length c6] ∧ OwnDirs wx Wb.heap.size (.slice a6 q6.length c6) q6 ∧ q6.map (·.1) = qs.map (·.1) ∧ Below Wb.heap.size Wb wx ∧ Wb.heap.size ≤ X)
  case first =>
    go_region_held3 (fun w' => w'.cell? ⟨w.heap.size, 1, none⟩ = some (.int .i64 c) ∧ w'.cell? ⟨w.heap.size, 2, none⟩ = some (.slice ab qs.length cb) ∧ w'.cell? ⟨w.heap.size + 1, 0, none⟩ = some (.slice aa ps.length ca))
      (first | (refine Hk.out _ ?_; have := Hb6.out; (repeat (with_reducible first | exact Below.refl _ _ | assumption | refine ba ?_ _ | refine bd ?_ | refine bdN ?_ _ | refine bs ?_ (by first | exact Nat.le_refl _ | (dsimp only; omega) | (simp; done)) _ | refine bt ?_ (by assumption))); done) | (refine Hk.out _ ?_; (repeat (with_reducible first | exact Below.refl _ _ | assumption | refine ba ?_ _ | refine bd ?_ | refine bdN ?_ _ | refine bs ?_ (by first | exact Nat.le_refl _ | (dsimp only; omega) | (simp; done)) _ | refine bt ?_ (by assumption))); done))
      (first | (go_at_call 88; show Calls _ _ _ (World.drew (World.alloc _ _)) _; refine (spec_copyDirs _ qs B' _ (Hd.out.below (by have := HBw.out; (repeat (with_reducible first | exact Below.refl _ _ | assumption | refine ba ?_ _ | refine bd ?_ | refine bdN ?_ _ | refine bs ?_ (by first | exact Nat.le_refl _ | (dsimp only; omega) | (simp; done)) _ | refine bt ?_ (by assumption))))) (by omega) Hbl.out).mono ?_; rintro _ w6 ⟨v6, q6, rfl, hq6, hown6, hb6⟩; have Hq6 := Lib.hid hq6; have Hown6 := Lib.hid (hown6.mono (show Wb.heap.size + 1 ≤ _ by simp)); have Hb6 := Lib.hid (show Below Wb.heap.size Wb w6 by (repeat (with_reducible first | exact Below.refl _ _ | assumption | refine ba ?_ _ | refine bd ?_ | refine bdN ?_ _ | refine bs ?_ (by first | exact Nat.le_refl _ | (dsimp only; omega) | (simp; done)) _ | refine bt ?_ (by assumption)))); obtain ⟨a6, c6, rfl⟩ := hown6.len; have HG := Lib.hid ((HB.new Wb #[.slice none 0 0, .int .i64 0, .slice none 0 0] 28).drew.step hb6); have g0 := HG.out.cell 0; have g1 := HG.out.cell 1; have g2 := HG.out.cell 2; have z0 := HG.out.frozen 0; have z1 := HG.out.frozen 1; have z2 := HG.out.frozen 2; clear hown6 hq6 hb6) | (go_at_call 88; refine (spec_copyDirs _ qs B' _ (Hd.out.below (by have := HBw.out; (repeat (with_reducible first | exact Below.refl _ _ | assumption | refine ba ?_ _ | refine bd ?_ | refine bdN ?_ _ | refine bs ?_ (by first | exact Nat.le_refl _ | (dsimp only; omega) | (simp; done)) _ | refine bt ?_ (by assumption))))) (by omega) Hbl.out).mono ?_; rintro _ w6 ⟨v6, q6, rfl, hq6, hown6, hb6⟩; have Hq6 := Lib.hid hq6; have Hown6 := Lib.hid (hown6.mono (show Below Wb.heap.size Wb _ by (repeat (with_reducible first | exact Below.refl _ _ | assumption | refine ba ?_ _ | refine bd ?_ | refine bdN ?_ _ | refine bs ?_ (by first | exact Nat.le_refl _ | (dsimp only; omega) | (simp; done)) _ | refine bt ?_ (by assumption)))).size); have Hb6 := Lib.hid (show Below Wb.heap.size Wb w6 by (repeat (with_reducible first | exact Below.refl _ _ | assumption | refine ba ?_ _ | refine bd ?_ | refine bdN ?_ _ | refine bs ?_ (by first | exact Nat.le_refl _ | (dsimp only; omega) | (simp; done)) _ | refine bt ?_ (by assumption)))); obtain ⟨a6, c6, rfl⟩ := hown6.len; clear hown6 hq6 hb6))
    · go_wp2_with fail
      go_meet
      exact ⟨_, q6, a6, c6, rfl, HB.new _ _ _, Hown6.out.below (ba (Below.refl _ _) _), Hq6.out, ba Hb6.out _, Hb6.out.size⟩
    · go_wp2_with fail
      go_meet
      refine ⟨_, q6, a6, c6, rfl, ?_, (((Hown6.out.set_low (by dsimp only; omega) _).set_low (by dsimp only; omega) _).set_low (by dsimp only; omega) _).mono (by omega), Hq6.out, bs (bs (bs Hb6.out (Nat.le_refl _) _) (Nat.le_refl _) _) (Nat.le_refl _) _, Nat.le_refl _⟩
      have h := ((HG.out.put 0 (.slice aa ps.length ca)).put 1 (.int .i64 (IntKind.i64.wrap (c + k)))).put 2 (.slice a6 q6.length c6)
      simpa using h
  case rest =>
    obtain ⟨X, q6, a6, c6, rfl, hA, hD, hm, hBel, hX⟩ := hcut
    have hwrap : IntKind.i64.wrap (c + k) = c + k := IntWalk.i64_in _ (by omega)
    rw [hwrap] at hA
    obtain ⟨m, hmm⟩ : ∃ m, m = c + k := ⟨_, rfl⟩
    rw [← hmm] at hA
    have Hyes' := Lib.hid (show changed ⟨fs0, c, qs.map (·.1)⟩ (ps.map (·.1)) r p k = if okDisk ⟨ps.map (·.1), m, stampAll r m ([] :: namesAbove p) (qs.map (·.1))⟩ then (⟨ps.map (·.1), m, stampAll r m ([] :: namesAbove p) (qs.map (·.1))⟩, true) else (⟨[], 0, []⟩, false) by rw [hmm]; exact Hyes.out)
    have HA := Lib.hid hA
    have HD := Lib.hid hD
    have Hm := Lib.hid hm
    have HB1 := Lib.hid hBel
    have hsz := hBel.size
    have hWs := HWs.out
    have hXlt : X < wc.heap.size := hA.lt
    have hq6l : q6.length ≤ 20 := by have h := congrArg List.length hm; simp at h; omega
    have Hqn := Lib.hid (show ∀ q ∈ q6, q.1.names = [] from fun q h => by
      have h1 : q.1 ∈ qs.map (·.1) := by rw [← hm]; exact List.mem_map.2 ⟨q, h, rfl⟩
      exact (Hdr.out _ h1).1)
    have x0 : wc.cell? ⟨X, 0, none⟩ = some (.slice aa ps.length ca) := hA.cell 0
    have x1 : wc.cell? ⟨X, 1, none⟩ = some (.int .i64 m) := hA.cell 1
    have x2 : wc.cell? ⟨X, 2, none⟩ = some (.slice a6 q6.length c6) := hA.cell 2
    clear hA hD hm hBel hwrap hmm Hyes
    obtain ⟨L, hL⟩ : ∃ L, L = [] :: namesAbove p := ⟨_, rfl⟩
    have HLs := Lib.hid (show ∀ q ∈ L, q.length ≤ 11 by rw [hL]; exact stamped_short p)
    have HL := Lib.hid hL
    rw [← hL] at Hyes'
    clear hL
    go_wp2_with (go_at_call 89; refine (spec_stamped _ _ m r p q6 Wb.heap.size _ ⟨_, _, _, rfl⟩ HD.out HB1.out.size Hqn.out hq6l Hp.out).mono ?_; rintro _ w7 ⟨u7, rs, rfl, hrs, hown7, hb7, hk7⟩; rw [← HL.out, Hm.out] at hrs; obtain ⟨ua, uc, rfl⟩ := hown7.len; have Hrs := Lib.hid hrs; have Hown7 := Lib.hid hown7; have Hb7 := Lib.hid hb7; have HA7 := Lib.hid (HA.out.keep hk7 (by decide)); have y0 := HA7.out.cell 0; have y1 := HA7.out.cell 1; have y2 := HA7.out.cell 2; have g0 := HA7.out.frozen 0; have g1 := HA7.out.frozen 1; have g2 := HA7.out.frozen 2; have hl7 := HA7.out.lt; clear hrs hown7 hb7 hk7 x0 x1 x2)
    obtain ⟨W8, hW8⟩ : ∃ W, W = ((w7.setCell ⟨X, 0, none⟩ (.slice aa ps.length ca)).setCell ⟨X, 1, none⟩ (.int .i64 m)).setCell ⟨X, 2, none⟩ (.slice ua rs.length uc) := ⟨_, rfl⟩
    have HB8 := Lib.hid (show Below Wb.heap.size Wb W8 by rw [hW8]; exact (((HB1.out.trans Hb7.out).setCell (p := ⟨X, 0, none⟩) hX _).setCell (p := ⟨X, 1, none⟩) hX _).setCell (p := ⟨X, 2, none⟩) hX _)
    have HX8 := Lib.hid (show HB W8 X 28 #[.slice aa ps.length ca, .int .i64 m, .slice ua rs.length uc] by
      rw [hW8]
      have h := ((HA7.out.put 0 (.slice aa ps.length ca)).put 1 (.int .i64 m)).put 2 (.slice ua rs.length uc)
      simpa using h)
    have HO8 := Lib.hid (show OwnDirs W8 Wb.heap.size (.slice ua rs.length uc) rs by
      rw [hW8]
      exact ((HA7.out.put 0 _).put 1 _).dirs (by decide) (by decide) ((HA7.out.put 0 _).dirs (by decide) (by decide) (HA7.out.dirs (by decide) (by decide) Hown7.out _ _) _ _) _ _)
    have HF8 := Lib.hid (Hf.out.below (show Below w.heap.size w W8 from HBw.out.trans (HB8.out.mono HBw.out.size)))
    have HDk := Lib.hid (show DskIn W8 (fun _ => True) (.slice aa ps.length ca) (ps.map (·.1)) (.slice ua rs.length uc) (stampAll r m L (qs.map (·.1))) from ⟨HF8.out.fils (D := fun _ => True) (fun _ _ => trivial), by have h := HO8.out.dirs (D := fun _ => True) (fun _ _ => trivial); rw [Hrs.out] at h; exact h⟩)
    have HSk := Lib.hid (show ShortK 2000000 (ps.map (·.1)) (stampAll r m L (qs.map (·.1))) from ⟨Hz.out, fun d hd => by
      have h := stampAll_allM (P := fun d => d.pack.length ≤ 11 ∧ d.names = []) L (qs.map (·.1)) (fun q hq => ⟨HLs.out q hq, rfl⟩) (fun x hx => ⟨(Hdr.out x hx).2, (Hdr.out x hx).1⟩) d hd
      exact ⟨by omega, by rw [h.2]; intro q hq; simp at hq⟩⟩)
    rw [← hW8]
    clear hW8 y0 y1 y2 g0 g1 g2 hl7
    cases hok : okDisk ⟨ps.map (·.1), m, stampAll r m L (qs.map (·.1))⟩
    · have Hno := Lib.hid (show changed ⟨fs0, c, qs.map (·.1)⟩ (ps.map (·.1)) r p k = (⟨[], 0, []⟩, false) by rw [Hyes'.out, hok]; rfl)
      have Hok := Lib.hid hok
      clear hok
      refine (spec_validDisk _ _ m _ _ (fun _ => True) _ HDk.out HSk.out).mono ?_
      rintro _ w9 ⟨rfl, hb9⟩
      rw [Hok.out]
      have Hb9 := Lib.hid hb9
      have HR := Lib.hid (HX3.out.step (HB8.out.trans (hb9.mono HB8.out.size)))
      have r0 := HR.out.cell 0
      have r1 := HR.out.cell 1
      have r2 := HR.out.cell 2
      have rf0 := HR.out.frozen 0
      have rf1 := HR.out.frozen 1
      have rf2 := HR.out.frozen 2
      have rlt := HR.out.lt
      clear hb9
      go_wp2_with fail
      refine bodyPost_ret (v := .tuple #[.agg #[.slice none 0 0, .int .i64 0, .slice none 0 0], .bool false]) (by simp [results, Try.results48, go_sem, r0, r1, r2]) rfl (chgD_no Hno.out ?_)
      have hbw : Below w.heap.size w w9 := (HBw.out.trans (HB8.out.mono HBw.out.size)).trans (Hb9.out.mono (by have := HB8.out.size; omega))
      (repeat (with_reducible first | exact Below.refl _ _ | assumption | refine ba ?_ _ | refine bd ?_ | refine bdN ?_ _ | refine bs ?_ (by first | exact Nat.le_refl _ | (dsimp only; omega) | (simp; done)) _ | refine bt ?_ (by assumption)))
    · have Hy := Lib.hid (show changed ⟨fs0, c, qs.map (·.1)⟩ (ps.map (·.1)) r p k = (⟨ps.map (·.1), m, stampAll r m L (qs.map (·.1))⟩, true) by rw [Hyes'.out, hok]; rfl)
      have Hok := Lib.hid hok
      clear hok
      refine (spec_validDisk _ _ m _ _ (fun _ => True) _ HDk.out HSk.out).mono ?_
      rintro _ w9 ⟨rfl, hb9⟩
      rw [Hok.out]
      have Hb9 := Lib.hid hb9
      have HR := Lib.hid (HX3.out.step (HB8.out.trans (hb9.mono HB8.out.size)))
      have r0 := HR.out.cell 0
      have r1 := HR.out.cell 1
      have r2 := HR.out.cell 2
      have rf0 := HR.out.frozen 0
      have rf1 := HR.out.frozen 1
      have rf2 := HR.out.frozen 2
      have rlt := HR.out.lt
      have HXz := Lib.hid (HX8.out.step hb9)
      have z0 := HXz.out.cell 0
      have z1 := HXz.out.cell 1
      have z2 := HXz.out.cell 2
      clear hb9
      go_wp2_with fail
      refine bodyPost_ret (v := .tuple #[.agg #[.slice aa ps.length ca, .int .i64 m, .slice ua rs.length uc], .bool true]) (by simp [results, Try.results48, go_sem, r0, r1, r2]) rfl ?_
      rw [Hy.out]
      refine ⟨_, ps, _, rs, rfl, rfl, Hrs.out, ?_, ?_, ?_⟩
      · have h := HF8.out.below Hb9.out
        exact fils_hb (fils_hb (fils_hb h HR.out (by decide) (by decide) _ _) (HR.out.put _ _) (by decide) (by decide) _ _) ((HR.out.put _ _).put _ _) (by decide) (by decide) _ _
      · exact OwnDirs.mono (((((HO8.out.below Hb9.out).set_low (by dsimp only; omega) _).set_low (by dsimp only; omega) _).set_low (by dsimp only; omega) _)) (by omega)
      · have hbw : Below w.heap.size w w9 := (HBw.out.trans (HB8.out.mono HBw.out.size)).trans (Hb9.out.mono (by have := HB8.out.size; omega))
        (repeat (with_reducible first | exact Below.refl _ _ | assumption | refine ba ?_ _ | refine bd ?_ | refine bdN ?_ _ | refine bs ?_ (by first | exact Nat.le_refl _ | (dsimp only; omega) | (simp; done)) _ | refine bt ?_ (by assumption)))
theorem dsk_in {w : World} {B : Nat} {v u : Value} {ps : List (Fil × Value)} {qs : List (Dr × Value)} {fs : List Fil} {ds : List Dr} (h : OwnDsk w B v ps u qs) (e1 : ps.map (·.1) = fs) (e2 : qs.map (·.1) = ds) : DskIn w (fun _ => True) v fs u ds :=
  ⟨by have h1 := h.1.fils (D := fun _ => True) (fun _ _ => trivial); rwa [e1] at h1, by have h1 := h.2.dirs (D := fun _ => True) (fun _ _ => trivial); rwa [e2] at h1⟩
set_option maxRecDepth 100000 in
set_option maxHeartbeats 4000000 in
theorem impl_DiskAdd (v : Value) (fs : List Fil) (ps : List (Fil × Value)) (c : Int) (u : Value) (ds : List Dr) (qs : List (Dr × Value)) (B B' : Nat) (r st : Int) (p n : Bs) (i : Bool) (bv : Value) (body : List Stm) (k : Int) (w : World) (h : OwnDsk w B v ps u qs) (e1 : ps.map (·.1) = fs) (e2 : qs.map (·.1) = ds) (hz : ShortK 2000000 fs ds) (hb : w.ownsRow B' 138 5 bv body.length (body.flatMap stmCells)) (hbz : ShortF 1048576 ⟨r, p, n, i, st, body⟩) :
    Calls Try.prog 23 #[.agg #[v, .int .i64 c, u], .agg #[.int .i64 r, .string (mk p), .string (mk n), .bool i, .int .i64 st, bv], .int .i64 k] w (ChgD w.heap.size (diskAdd ⟨fs, c, ds⟩ ⟨r, p, n, i, st, body⟩ k) w) := by
  obtain ⟨aa, ca, rfl⟩ := h.1.len
  obtain ⟨ab, cb, rfl⟩ := h.2.len
  obtain ⟨ac, cc, rfl⟩ := owns_shape hb
  have H := Lib.hid h
  have E1 := Lib.hid e1
  have E2 := Lib.hid e2
  have Hb := Lib.hid hb
  have Hz := Lib.hid hz
  have Hbz := Lib.hid hbz
  have hp1 : p.length ≤ 1048576 := hbz.1
  have Hin := Lib.hid (dsk_in h e1 e2)
  have Hts := Lib.hid (addFil_short hz.1 (shortF_mono (by omega) hbz))
  clear h e1 e2 hb hz hbz
  have HX0 := Lib.hid (HB.new w #[.slice aa ps.length ca, .int .i64 c, .slice ab qs.length cb] 28)
  obtain ⟨Wb, hWb⟩ : ∃ W, W = ((w.alloc (.cells #[.slice aa ps.length ca, .int .i64 c, .slice ab qs.length cb] 28)).alloc (.cells #[.int .i64 r, .string (mk p), .string (mk n), .bool i, .int .i64 st, .slice ac body.length cc] 36)).alloc (.cells #[.slice none 0 0, .int .i64 0, .slice none 0 0] 28) := ⟨_, rfl⟩
  have HBw := Lib.hid (show Below w.heap.size w Wb by rw [hWb]; (repeat (with_reducible first | exact Below.refl _ _ | assumption | refine ba ?_ _ | refine bd ?_ | refine bdN ?_ _ | refine bs ?_ (by first | exact Nat.le_refl _ | (dsimp only; omega) | (simp; done)) _ | refine bt ?_ (by assumption))))
  have HWs := Lib.hid (show Wb.heap.size = w.heap.size + 3 by rw [hWb]; simp)
  have HX0 := Lib.hid (show HB Wb w.heap.size 28 #[.slice aa ps.length ca, .int .i64 c, .slice ab qs.length cb] by rw [hWb]; exact ((HB.new w _ _).alloc _).alloc _)
  have HX1 := Lib.hid (show HB Wb (w.heap.size + 1) 36 #[.int .i64 r, .string (mk p), .string (mk n), .bool i, .int .i64 st, .slice ac body.length cc] by rw [hWb]; have h := ((HB.new (w.alloc (.cells #[.slice aa ps.length ca, .int .i64 c, .slice ab qs.length cb] 28)) #[.int .i64 r, .string (mk p), .string (mk n), .bool i, .int .i64 st, .slice ac body.length cc] 36).alloc (.cells #[.slice none 0 0, .int .i64 0, .slice none 0 0] 28)); rw [World.size_alloc] at h; exact h)
  have HX2 := Lib.hid (show HB Wb (w.heap.size + 1 + 1) 28 #[.slice none 0 0, .int .i64 0, .slice none 0 0] by rw [hWb]; have h := (HB.new ((w.alloc (.cells #[.slice aa ps.length ca, .int .i64 c, .slice ab qs.length cb] 28)).alloc (.cells #[.int .i64 r, .string (mk p), .string (mk n), .bool i, .int .i64 st, .slice ac body.length cc] 36)) #[.slice none 0 0, .int .i64 0, .slice none 0 0] 28); rw [World.size_alloc, World.size_alloc] at h; exact h)
  have HWe := Lib.hid hWb
  clear hWb
  obtain ⟨f, hf⟩ : ∃ f, f = (⟨r, p, n, i, st, body⟩ : Fil) := ⟨_, rfl⟩
  obtain ⟨R, hR⟩ : ∃ R, R = addFil fs ⟨r, p, n, i, st, body⟩ := ⟨_, rfl⟩
  have HR := Lib.hid hR
  rw [← hR] at Hts
  have Hno := Lib.hid (show (okDisk ⟨fs, c, ds⟩ && R.2) = false → diskAdd ⟨fs, c, ds⟩ ⟨r, p, n, i, st, body⟩ k = (⟨[], 0, []⟩, false) by rw [hR]; exact diskAdd_no)
  have Hyes := Lib.hid (show okDisk ⟨fs, c, ds⟩ = true → R.2 = true → diskAdd ⟨fs, c, ds⟩ ⟨r, p, n, i, st, body⟩ k = changed ⟨fs, c, ds⟩ R.1 r p k by rw [hR]; exact diskAdd_yes)
  clear hR hf
  obtain ⟨R1, R2⟩ := R
  dsimp only at Hts Hno Hyes
  go_enter Try.func23, Try.ntmps23
  go_wp2_with fail
  rw [← HWe.out]
  refine (impl_AddFileX _ fs ps B B' r st p n i _ body _ (H.out.1.below HBw.out) E1.out Hz.out.1 (owns_below Hb.out HBw.out) Hbz.out).mono ?_
  rintro _ w5 ⟨v5, ps5, rfl, hps5, hown5, hb5⟩
  rw [← HR.out] at hps5 ⊢
  dsimp only at hps5 ⊢
  obtain ⟨a5, c5, rfl⟩ := hown5.len
  obtain ⟨W5, hW5⟩ : ∃ W, W = w5.alloc (.cells #[.slice a5 ps5.length c5] 25) := ⟨_, rfl⟩
  have Hps5 := Lib.hid hps5
  have hB5 := hb5.size
  have HB5 := Lib.hid (show Below Wb.heap.size Wb W5 by rw [hW5]; exact ba hb5 _)
  have HO5 := Lib.hid (show OwnFils W5 Wb.heap.size (.slice a5 ps5.length c5) ps5 by rw [hW5]; exact hown5.below (ba (Below.refl _ _) _))
  have HXT := Lib.hid (show HB W5 w5.heap.size 25 #[.slice a5 ps5.length c5] by rw [hW5]; exact HB.new _ _ _)
  have HW5 := Lib.hid hW5
  have hW5s : W5.heap.size = w5.heap.size + 1 := by rw [hW5]; simp
  have hWbs := HWs.out
  have x0 : W5.cell? ⟨w.heap.size, 0, none⟩ = some (.slice aa ps.length ca) := (HX0.out.step HB5.out).cell 0
  have x1 : W5.cell? ⟨w.heap.size, 1, none⟩ = some (.int .i64 c) := (HX0.out.step HB5.out).cell 1
  have x2 : W5.cell? ⟨w.heap.size, 2, none⟩ = some (.slice ab qs.length cb) := (HX0.out.step HB5.out).cell 2
  have t0 : W5.cell? ⟨w5.heap.size, 0, none⟩ = some (.slice a5 ps5.length c5) := HXT.out.cell 0
  have Hbw := Lib.hid (show Below w.heap.size w W5 from HBw.out.trans (HB5.out.mono HBw.out.size))
  clear hps5 hown5 hb5 hW5
  have RET := Lib.hid (fun (w' : World) (hC : Below W5.heap.size W5 w') => (⟨(HX2.out.step HB5.out).step hC |>.cell 0, (HX2.out.step HB5.out).step hC |>.cell 1, (HX2.out.step HB5.out).step hC |>.cell 2, (HX2.out.step HB5.out).step hC |>.frozen 0, (HX2.out.step HB5.out).step hC |>.frozen 1, (HX2.out.step HB5.out).step hC |>.frozen 2, (HX2.out.step HB5.out).step hC |>.lt⟩ : w'.cell? ⟨w.heap.size + 1 + 1, 0, none⟩ = some (.slice none 0 0) ∧ w'.cell? ⟨w.heap.size + 1 + 1, 1, none⟩ = some (.int .i64 0) ∧ w'.cell? ⟨w.heap.size + 1 + 1, 2, none⟩ = some (.slice none 0 0) ∧ w'.frozen? ⟨w.heap.size + 1 + 1, 0, none⟩ = false ∧ w'.frozen? ⟨w.heap.size + 1 + 1, 1, none⟩ = false ∧ w'.frozen? ⟨w.heap.size + 1 + 1, 2, none⟩ = false ∧ w.heap.size + 1 + 1 < w'.heap.size))
  cases R2
  · have Hno' := Lib.hid (Hno.out (by simp))
    obtain ⟨r0, r1, r2, rf0, rf1, rf2, rl⟩ := RET.out W5 (Below.refl _ _)
    rw [HW5.out] at r0 r1 r2 rf0 rf1 rf2 rl
    clear x0 x1 x2 t0
    go_wp2_with fail
    refine bodyPost_ret (v := .tuple #[.agg #[.slice none 0 0, .int .i64 0, .slice none 0 0], .bool false]) (by simp [results, Try.results23, go_sem, r0, r1, r2]) rfl (chgD_no Hno'.out ?_)
    have hbw := Hbw.out
    rw [HW5.out] at hbw
    (repeat (with_reducible first | exact Below.refl _ _ | assumption | refine ba ?_ _ | refine bd ?_ | refine bdN ?_ _ | refine bs ?_ (by first | exact Nat.le_refl _ | (dsimp only; omega) | (simp; done)) _ | refine bt ?_ (by assumption)))
  · cases hok : okDisk ⟨fs, c, ds⟩
    · have Hok := Lib.hid hok
      have Hno' := Lib.hid (Hno.out (by rw [hok]; rfl))
      clear hok t0
      rw [HW5.out] at x0 x1 x2
      go_wp2_with fail
      rw [← HW5.out]
      refine (impl_ValidDisk _ fs c _ ds (fun _ => True) _ (Hin.out.below Hbw.out) Hz.out).mono ?_
      rintro _ w6 ⟨rfl, hb6⟩
      rw [Hok.out]
      have Hb6 := Lib.hid hb6
      obtain ⟨r0, r1, r2, rf0, rf1, rf2, rl⟩ := RET.out w6 hb6
      clear hb6 x0 x1 x2
      go_wp2_with fail
      refine bodyPost_ret (v := .tuple #[.agg #[.slice none 0 0, .int .i64 0, .slice none 0 0], .bool false]) (by simp [results, Try.results23, go_sem, r0, r1, r2]) rfl (chgD_no Hno'.out ?_)
      have hbw := Hbw.out.trans (Hb6.out.mono Hbw.out.size)
      (repeat (with_reducible first | exact Below.refl _ _ | assumption | refine ba ?_ _ | refine bd ?_ | refine bdN ?_ _ | refine bs ?_ (by first | exact Nat.le_refl _ | (dsimp only; omega) | (simp; done)) _ | refine bt ?_ (by assumption)))
    · have Hok := Lib.hid hok
      have Hy := Lib.hid (Hyes.out hok rfl)
      obtain ⟨o1, o2, o3⟩ := okDisk_all hok
      have O1 := Lib.hid o1
      have O2 := Lib.hid o2
      clear hok o1 o2 o3
      rw [HW5.out] at x0 x1 x2 t0
      go_wp2_with fail
      rw [← HW5.out]
      refine (impl_ValidDisk _ fs c _ ds (fun _ => True) _ (Hin.out.below Hbw.out) Hz.out).mono ?_
      rintro _ w6 ⟨rfl, hb6⟩
      rw [Hok.out]
      have Hb6 := Lib.hid hb6
      have hX0 := (HX0.out.step HB5.out).step hb6
      have hX1 := (HX1.out.step HB5.out).step hb6
      have hXT := HXT.out.step hb6
      clear x0 x1 x2 t0
      have x0 := hX0.cell 0
      have x1 := hX0.cell 1
      have x2 := hX0.cell 2
      have y0 := hX1.cell 0
      have y1 := hX1.cell 1
      have y2 := hX1.cell 2
      have y3 := hX1.cell 3
      have y4 := hX1.cell 4
      have y5 := hX1.cell 5
      have t0 := hXT.cell 0
      clear hb6 hX0 hX1 hXT
      go_wp2_with fail
      refine (impl_changedDisk _ _ _ fs c k r st p n i _ ps5 qs Wb.heap.size B _ (HO5.out.below Hb6.out) (by rw [Hps5.out]; exact Hts.out) (H.out.2.below (Hbw.out.trans (Hb6.out.mono Hbw.out.size))) O1.out (by rw [E2.out]; exact O2.out) (by omega)).mono ?_
      rintro e w7 hch
      rw [Hps5.out, E2.out, ← Hy.out] at hch
      have hsz := Hb6.out.size
      obtain ⟨v7, ps7, u7, qs7, rfl, hps7, hqs7, hf7, hd7, hb7⟩ := hch
      obtain ⟨r0, r1, r2, rf0, rf1, rf2, rl⟩ := RET.out w7 (Hb6.out.trans (hb7.mono hsz))
      obtain ⟨a7, c7, rfl⟩ := hf7.len
      obtain ⟨b7, d7, rfl⟩ := hd7.len
      have Hps7 := Lib.hid hps7
      have Hqs7 := Lib.hid hqs7
      have Hf7 := Lib.hid hf7
      have Hd7 := Lib.hid hd7
      have Hb7 := Lib.hid hb7
      clear hps7 hqs7 hf7 hd7 hb7 x0 x1 x2 y0 y1 y2 y3 y4 y5 t0
      generalize diskAdd ⟨fs, c, ds⟩ ⟨r, p, n, i, st, body⟩ k = res at *
      go_wp2_with fail
      refine bodyPost_ret (v := .tuple #[.agg #[.slice a7 ps7.length c7, .int .i64 res.1.clock, .slice b7 qs7.length d7], .bool res.2]) (by simp [results, Try.results23, go_sem, r0, r1, r2]) rfl ?_
      refine ⟨_, ps7, _, qs7, rfl, Hps7.out, Hqs7.out, ?_, ?_, ?_⟩
      · exact OwnFils.mono (B := Wb.heap.size) (((Hf7.out.set_low (by dsimp only; omega) _).set_low (by dsimp only; omega) _).set_low (by dsimp only; omega) _) (by omega)
      · exact OwnDirs.mono (B := Wb.heap.size) ((((Hd7.out.mono (by omega)).set_low (by dsimp only; omega) _).set_low (by dsimp only; omega) _).set_low (by dsimp only; omega) _) (by omega)
      · have hbw := (Hbw.out.trans (Hb6.out.mono Hbw.out.size)).trans (Hb7.out.mono (by omega))
        (repeat (with_reducible first | exact Below.refl _ _ | assumption | refine ba ?_ _ | refine bd ?_ | refine bdN ?_ _ | refine bs ?_ (by first | exact Nat.le_refl _ | (dsimp only; omega) | (simp; done)) _ | refine bt ?_ (by assumption)))
--@@ written by mkdska.py
theorem cells_kept3 {w : World} {Z : Nat} {a b c : Value} {p : Addr} {v : Value} (h : w.cell? p = some v) (hp : p.block ≠ Z) : (((w.setCell ⟨Z, 0, none⟩ a).setCell ⟨Z, 1, none⟩ b).setCell ⟨Z, 2, none⟩ c).cell? p = some v := by
  rw [World.cell?_of_block (w := w) (by rw [Below.heap_setCell _ _ _ _ hp, Below.heap_setCell _ _ _ _ hp, Below.heap_setCell _ _ _ _ hp])]; exact h
set_option maxRecDepth 100000 in
set_option maxHeartbeats 4000000 in
theorem spec_DiskAdd (v : Value) (fs : List Fil) (ps : List (Fil × Value)) (c : Int) (u : Value) (ds : List Dr) (qs : List (Dr × Value)) (B B' : Nat) (r st : Int) (p n : Bs) (i : Bool) (bv : Value) (body : List Stm) (k : Int) (w : World) (h : OwnDsk w B v ps u qs) (e1 : ps.map (·.1) = fs) (e2 : qs.map (·.1) = ds) (hz : ShortK 2000000 fs ds) (hc0 : dskCost' fs ds) (hbk : body.length ≤ 1048576) (hb : w.ownsRow B' 138 5 bv body.length (body.flatMap stmCells)) (hbz : ShortF 1048576 ⟨r, p, n, i, st, body⟩) :
    Calls Try.prog 20 #[.agg #[v, .int .i64 c, u], .agg #[.int .i64 r, .string (mk p), .string (mk n), .bool i, .int .i64 st, bv], .int .i64 k] w (ChgD w.heap.size (diskAdd ⟨fs, c, ds⟩ ⟨r, p, n, i, st, body⟩ k) w) := by
  obtain ⟨aa, ca, rfl⟩ := h.1.len
  obtain ⟨ab, cb, rfl⟩ := h.2.len
  obtain ⟨ac, cc, rfl⟩ := owns_shape hb
  have Hb := Lib.hid hb
  have Hbz := Lib.hid hbz
  have hp1 : p.length ≤ 1048576 := hbz.1
  have Hts := Lib.hid (addFil_short hz.1 (shortF_mono (by omega) hbz))
  have H := Lib.hid h
  have E1 := Lib.hid e1
  have E2 := Lib.hid e2
  have Hz := Lib.hid hz
  have Hc0 := Lib.hid hc0
  have Hin := Lib.hid (dsk_in h e1 e2)
  clear h e1 e2 hz hc0 hb hbz
  obtain ⟨Wb, hWb⟩ : ∃ W, W = ((w.alloc (.cells #[.slice aa ps.length ca, .int .i64 c, .slice ab qs.length cb] 28)).alloc (.cells #[.int .i64 r, .string (mk p), .string (mk n), .bool i, .int .i64 st, .slice ac body.length cc] 36)).alloc (.cells #[.slice none 0 0, .int .i64 0, .slice none 0 0] 28) := ⟨_, rfl⟩
  have HBw := Lib.hid (show Below w.heap.size w Wb by rw [hWb]; (repeat (with_reducible first | exact Below.refl _ _ | assumption | refine ba ?_ _ | refine bd ?_ | refine bdN ?_ _ | refine bs ?_ (by first | exact Nat.le_refl _ | (dsimp only; omega) | (simp; done)) _ | refine bt ?_ (by assumption))))
  have HWs := Lib.hid (show Wb.heap.size = w.heap.size + 3 by rw [hWb]; simp)
  have HX0 := Lib.hid (show HB Wb w.heap.size 28 #[.slice aa ps.length ca, .int .i64 c, .slice ab qs.length cb] by rw [hWb]; exact ((HB.new w _ _).alloc _).alloc _)
  have HX1 := Lib.hid (show HB Wb (w.heap.size + 1) 36 #[.int .i64 r, .string (mk p), .string (mk n), .bool i, .int .i64 st, .slice ac body.length cc] by rw [hWb]; have h := ((HB.new (w.alloc (.cells #[.slice aa ps.length ca, .int .i64 c, .slice ab qs.length cb] 28)) #[.int .i64 r, .string (mk p), .string (mk n), .bool i, .int .i64 st, .slice ac body.length cc] 36).alloc (.cells #[.slice none 0 0, .int .i64 0, .slice none 0 0] 28)); rw [World.size_alloc] at h; exact h)
  have HX2 := Lib.hid (show HB Wb (w.heap.size + 1 + 1) 28 #[.slice none 0 0, .int .i64 0, .slice none 0 0] by rw [hWb]; have h := (HB.new ((w.alloc (.cells #[.slice aa ps.length ca, .int .i64 c, .slice ab qs.length cb] 28)).alloc (.cells #[.int .i64 r, .string (mk p), .string (mk n), .bool i, .int .i64 st, .slice ac body.length cc] 36)) #[.slice none 0 0, .int .i64 0, .slice none 0 0] 28); rw [World.size_alloc, World.size_alloc] at h; exact h)
  have HWe := Lib.hid hWb
  clear hWb
  have hWbs := HWs.out
  have RET := Lib.hid (fun (w' : World) (hC : Below Wb.heap.size Wb w') => (⟨(HX2.out.step hC).cell 0, (HX2.out.step hC).cell 1, (HX2.out.step hC).cell 2, (HX2.out.step hC).frozen 0, (HX2.out.step hC).frozen 1, (HX2.out.step hC).frozen 2, (HX2.out.step hC).lt⟩ : w'.cell? ⟨w.heap.size + 1 + 1, 0, none⟩ = some (.slice none 0 0) ∧ w'.cell? ⟨w.heap.size + 1 + 1, 1, none⟩ = some (.int .i64 0) ∧ w'.cell? ⟨w.heap.size + 1 + 1, 2, none⟩ = some (.slice none 0 0) ∧ w'.frozen? ⟨w.heap.size + 1 + 1, 0, none⟩ = false ∧ w'.frozen? ⟨w.heap.size + 1 + 1, 1, none⟩ = false ∧ w'.frozen? ⟨w.heap.size + 1 + 1, 2, none⟩ = false ∧ w.heap.size + 1 + 1 < w'.heap.size))
  obtain ⟨R, hR⟩ : ∃ R, R = addFil fs ⟨r, p, n, i, st, body⟩ := ⟨_, rfl⟩
  have HR := Lib.hid hR
  rw [← hR] at Hts
  have Hat := Lib.hid (fun (h2 : R.2 = true) => addFil_pack (t := fs) (f := ⟨r, p, n, i, st, body⟩) (by rw [← hR]; exact h2))
  have Hno := Lib.hid (show (okDisk ⟨fs, c, ds⟩ && R.2) = false → diskAdd ⟨fs, c, ds⟩ ⟨r, p, n, i, st, body⟩ k = (⟨[], 0, []⟩, false) by rw [hR]; exact diskAdd_no)
  have Hyes := Lib.hid (show okDisk ⟨fs, c, ds⟩ = true → R.2 = true → diskAdd ⟨fs, c, ds⟩ ⟨r, p, n, i, st, body⟩ k = changed ⟨fs, c, ds⟩ R.1 r p k by rw [hR]; exact diskAdd_yes)
  clear hR
  obtain ⟨R1, R2⟩ := R
  dsimp only at Hts Hno Hyes Hat
  go_enter Try.func20, Try.ntmps20
  cases hok : okDisk ⟨fs, c, ds⟩
  · have Hok := Lib.hid hok
    have Hno' := Lib.hid (Hno.out (by rw [hok]; rfl))
    clear hok
    go_wp2_with fail
    rw [← HWe.out]
    refine (spec_validDisk _ fs c _ ds (fun _ => True) _ (Hin.out.below HBw.out) Hz.out).mono ?_
    rintro _ w4 ⟨rfl, hb4⟩
    rw [Hok.out]
    have Hb4 := Lib.hid hb4
    obtain ⟨r0, r1, r2, rf0, rf1, rf2, rl⟩ := RET.out w4 hb4
    clear hb4
    go_wp2_with fail
    refine bodyPost_ret (v := .tuple #[.agg #[.slice none 0 0, .int .i64 0, .slice none 0 0], .bool false]) (by simp [results, Try.results20, go_sem, r0, r1, r2]) rfl (chgD_no Hno'.out ?_)
    have hbw := HBw.out.trans (Hb4.out.mono HBw.out.size)
    (repeat (with_reducible first | exact Below.refl _ _ | assumption | refine ba ?_ _ | refine bd ?_ | refine bdN ?_ _ | refine bs ?_ (by first | exact Nat.le_refl _ | (dsimp only; omega) | (simp; done)) _ | refine bt ?_ (by assumption)))
  · cases hkk : inr k 0 200
    · have Hok := Lib.hid hok
      have Hkk := Lib.hid hkk
      have Hno' := Lib.hid (show diskAdd ⟨fs, c, ds⟩ ⟨r, p, n, i, st, body⟩ k = (⟨[], 0, []⟩, false) from diskAdd_far hok hkk)
      clear hok hkk
      go_wp2_with fail
      rw [← HWe.out]
      refine (spec_validDisk _ fs c _ ds (fun _ => True) _ (Hin.out.below HBw.out) Hz.out).mono ?_
      rintro _ w4 ⟨rfl, hb4⟩
      rw [Hok.out]
      have Hb4 := Lib.hid hb4
      obtain ⟨r0, r1, r2, rf0, rf1, rf2, rl⟩ := RET.out w4 hb4
      clear hb4
      go_wp2_with ((go_at_call 46; refine (spec_inRange' _ _ _ _).mono ?_; rintro _ _ ⟨rfl, rfl⟩); rw [Hkk.out])
      refine bodyPost_ret (v := .tuple #[.agg #[.slice none 0 0, .int .i64 0, .slice none 0 0], .bool false]) (by simp [results, Try.results20, go_sem, r0, r1, r2]) rfl (chgD_no Hno'.out ?_)
      have hbw := HBw.out.trans (Hb4.out.mono HBw.out.size)
      (repeat (with_reducible first | exact Below.refl _ _ | assumption | refine ba ?_ _ | refine bd ?_ | refine bdN ?_ _ | refine bs ?_ (by first | exact Nat.le_refl _ | (dsimp only; omega) | (simp; done)) _ | refine bt ?_ (by assumption)))
    · have Hok := Lib.hid hok
      have Hkk := Lib.hid hkk
      have Hyy := Lib.hid (fun h => Hyes.out hok h)
      have Hno2 := Lib.hid (fun (h : R2 = false) => Hno.out (by rw [h]; simp))
      obtain ⟨o1, o2, o3⟩ := okDisk_all hok
      have O1 := Lib.hid o1
      have O2 := Lib.hid o2
      clear hok hkk o1 o2 o3
      go_wp2_with fail
      rw [← HWe.out]
      refine (spec_validDisk _ fs c _ ds (fun _ => True) _ (Hin.out.below HBw.out) Hz.out).mono ?_
      rintro _ w4 ⟨rfl, hb4⟩
      rw [Hok.out]
      have Hb4 := Lib.hid hb4
      have HBc := Lib.hid hb4
      have HBx := Lib.hid (HBw.out.trans (hb4.mono HBw.out.size))
      have hX0 := HX0.out.step hb4
      have hX1 := HX1.out.step hb4
      have y0 := hX1.cell 0
      have y1 := hX1.cell 1
      have y2 := hX1.cell 2
      have y3 := hX1.cell 3
      have y4 := hX1.cell 4
      have y5 := hX1.cell 5
      have x0 := hX0.cell 0
      have x1 := hX0.cell 1
      have x2 := hX0.cell 2
      clear hX0 hb4 hX1
      go_wp2_with ((go_at_call 46; refine (spec_inRange' _ _ _ _).mono ?_; rintro _ _ ⟨rfl, rfl⟩); rw [Hkk.out])
      refine (spec_AddFileX _ fs ps B B' r st p n i _ body _ (H.out.1.below HBx.out) E1.out Hz.out.1 Hc0.out.1 (owns_below Hb.out HBx.out) Hbz.out hbk).mono ?_
      rintro _ w5 ⟨v5, ps5, rfl, hps5, hown5, hb5⟩
      rw [← HR.out] at hps5 ⊢
      dsimp only at hps5 ⊢
      obtain ⟨a5, c5, rfl⟩ := hown5.len
      obtain ⟨W5, hW5⟩ : ∃ W, W = w5.alloc (.cells #[.slice a5 ps5.length c5] 25) := ⟨_, rfl⟩
      have Hps5 := Lib.hid hps5
      have HB5 := Lib.hid (show Below Wb.heap.size Wb W5 by rw [hW5]; exact ba (HBc.out.trans (hb5.mono HBc.out.size)) _)
      have hsz5 := HB5.out.size
      have hw5z : Wb.heap.size ≤ w5.heap.size := (HBc.out.trans (hb5.mono HBc.out.size)).size
      have HO5 := Lib.hid (show OwnFils W5 Wb.heap.size (.slice a5 ps5.length c5) ps5 by rw [hW5]; exact (hown5.mono (by exact HBc.out.size)).below (ba (Below.refl _ _) _))
      have HXT := Lib.hid (show HB W5 w5.heap.size 25 #[.slice a5 ps5.length c5] by rw [hW5]; exact HB.new _ _ _)
      have HW5 := Lib.hid hW5
      have Hbw := Lib.hid (show Below w.heap.size w W5 from HBw.out.trans (HB5.out.mono HBw.out.size))
      clear hps5 hown5 hb5 hW5
      clear x0 x1 x2 y0 y1 y2 y3 y4 y5
      have hX0 := HX0.out.step HB5.out
      have hX1 := HX1.out.step HB5.out
      have y0 := hX1.cell 0
      have y1 := hX1.cell 1
      have y2 := hX1.cell 2
      have y3 := hX1.cell 3
      have y4 := hX1.cell 4
      have y5 := hX1.cell 5
      have x0 := hX0.cell 0
      have x1 := hX0.cell 1
      have x2 := hX0.cell 2
      have t0 := HXT.out.cell 0
      clear hX0 hX1
      cases R2
      · have Hno' := Lib.hid (Hno2.out rfl)
        obtain ⟨r0, r1, r2, rf0, rf1, rf2, rl⟩ := RET.out W5 HB5.out
        rw [HW5.out] at r0 r1 r2 rf0 rf1 rf2 rl
        clear x0 x1 x2 t0
        go_wp2_with fail
        refine bodyPost_ret (v := .tuple #[.agg #[.slice none 0 0, .int .i64 0, .slice none 0 0], .bool false]) (by simp [results, Try.results20, go_sem, r0, r1, r2]) rfl (chgD_no Hno'.out ?_)
        have hbw := Hbw.out
        rw [HW5.out] at hbw
        (repeat (with_reducible first | exact Below.refl _ _ | assumption | refine ba ?_ _ | refine bd ?_ | refine bdN ?_ _ | refine bs ?_ (by first | exact Nat.le_refl _ | (dsimp only; omega) | (simp; done)) _ | refine bt ?_ (by assumption)))
      · have Hy := Lib.hid (Hyy.out rfl)
        have H56 := Lib.hid (Below.refl W5.heap.size W5)
        have HB6 := HB5
        have hsz6 := HB6.out.size
        rw [HW5.out] at x0 x1 x2 y0 y1 y2 y3 y4 y5 t0
        go_wp2_with fail
        rw [← HW5.out]
        refine (spec_changed _ _ _ fs c k r p ps5 qs Wb.heap.size B _ (HO5.out.below H56.out) (by rw [Hps5.out]; exact Hts.out) (H.out.2.below (HBw.out.trans (HB6.out.mono HBw.out.size))) O1.out (by rw [E2.out]; exact O2.out) Hkk.out (Hat.out (by simp))).mono ?_
        rintro e w7 hch
        rw [Hps5.out, E2.out, ← Hy.out] at hch
        obtain ⟨v7, ps7, u7, qs7, rfl, hps7, hqs7, hf7, hd7, hb7⟩ := hch
        obtain ⟨r0, r1, r2, rf0, rf1, rf2, rl⟩ := RET.out w7 (HB6.out.trans (hb7.mono hsz6))
        obtain ⟨a7, c7, rfl⟩ := hf7.len
        obtain ⟨b7, d7, rfl⟩ := hd7.len
        have Hps7 := Lib.hid hps7
        have Hqs7 := Lib.hid hqs7
        have Hf7 := Lib.hid hf7
        have Hd7 := Lib.hid hd7
        have Hb7 := Lib.hid hb7
        clear hps7 hqs7 hf7 hd7 hb7 x0 x1 x2 t0 y0 y1 y2 y3 y4 y5
        generalize diskAdd ⟨fs, c, ds⟩ ⟨r, p, n, i, st, body⟩ k = res at *
        go_wp2_with fail
        refine bodyPost_ret (v := .tuple #[.agg #[.slice a7 ps7.length c7, .int .i64 res.1.clock, .slice b7 qs7.length d7], .bool res.2]) (by simp [results, Try.results20, go_sem, r0, r1, r2]) rfl ?_
        refine ⟨_, ps7, _, qs7, rfl, Hps7.out, Hqs7.out, ?_, ?_, ?_⟩
        · exact OwnFils.mono (B := Wb.heap.size) (((Hf7.out.set_low (by dsimp only; omega) _).set_low (by dsimp only; omega) _).set_low (by dsimp only; omega) _) (by omega)
        · exact OwnDirs.mono (B := Wb.heap.size) ((((Hd7.out.mono (by omega)).set_low (by dsimp only; omega) _).set_low (by dsimp only; omega) _).set_low (by dsimp only; omega) _) (by omega)
        · have hbw := (HBw.out.trans (HB6.out.mono HBw.out.size)).trans (Hb7.out.mono (by omega))
          (repeat (with_reducible first | exact Below.refl _ _ | assumption | refine ba ?_ _ | refine bd ?_ | refine bdN ?_ _ | refine bs ?_ (by first | exact Nat.le_refl _ | (dsimp only; omega) | (simp; done)) _ | refine bt ?_ (by assumption)))
set_option maxRecDepth 100000 in
set_option maxHeartbeats 4000000 in
theorem impl_DiskRemove (v : Value) (fs : List Fil) (ps : List (Fil × Value)) (c : Int) (u : Value) (ds : List Dr) (qs : List (Dr × Value)) (B : Nat) (x k : Int) (w : World) (h : OwnDsk w B v ps u qs) (e1 : ps.map (·.1) = fs) (e2 : qs.map (·.1) = ds) (hz : ShortK 2000000 fs ds) (hc0 : dskCost' fs ds) :
    Calls Try.prog 11 #[.agg #[v, .int .i64 c, u], .int .i64 x, .int .i64 k] w (ChgD w.heap.size (diskRem ⟨fs, c, ds⟩ x k) w) := by
  obtain ⟨aa, ca, rfl⟩ := h.1.len
  obtain ⟨ab, cb, rfl⟩ := h.2.len
  have Hts := Lib.hid (remFil_short (i := x) hz.1)
  have H := Lib.hid h
  have E1 := Lib.hid e1
  have E2 := Lib.hid e2
  have Hz := Lib.hid hz
  have Hc0 := Lib.hid hc0
  have Hin := Lib.hid (dsk_in h e1 e2)
  clear h e1 e2 hz hc0
  obtain ⟨Wb, hWb⟩ : ∃ W, W = (w.alloc (.cells #[.slice aa ps.length ca, .int .i64 c, .slice ab qs.length cb] 28)).alloc (.cells #[.slice none 0 0, .int .i64 0, .slice none 0 0] 28) := ⟨_, rfl⟩
  have HBw := Lib.hid (show Below w.heap.size w Wb by rw [hWb]; (repeat (with_reducible first | exact Below.refl _ _ | assumption | refine ba ?_ _ | refine bd ?_ | refine bdN ?_ _ | refine bs ?_ (by first | exact Nat.le_refl _ | (dsimp only; omega) | (simp; done)) _ | refine bt ?_ (by assumption))))
  have HWs := Lib.hid (show Wb.heap.size = w.heap.size + 2 by rw [hWb]; simp)
  have HX0 := Lib.hid (show HB Wb w.heap.size 28 #[.slice aa ps.length ca, .int .i64 c, .slice ab qs.length cb] by rw [hWb]; exact (HB.new w _ _).alloc _)
  have HX2 := Lib.hid (show HB Wb (w.heap.size + 1) 28 #[.slice none 0 0, .int .i64 0, .slice none 0 0] by rw [hWb]; have h := (HB.new (w.alloc (.cells #[.slice aa ps.length ca, .int .i64 c, .slice ab qs.length cb] 28)) #[.slice none 0 0, .int .i64 0, .slice none 0 0] 28); rw [World.size_alloc] at h; exact h)
  have HWe := Lib.hid hWb
  clear hWb
  have hWbs := HWs.out
  have RET := Lib.hid (fun (w' : World) (hC : Below Wb.heap.size Wb w') => (⟨(HX2.out.step hC).cell 0, (HX2.out.step hC).cell 1, (HX2.out.step hC).cell 2, (HX2.out.step hC).frozen 0, (HX2.out.step hC).frozen 1, (HX2.out.step hC).frozen 2, (HX2.out.step hC).lt⟩ : w'.cell? ⟨w.heap.size + 1, 0, none⟩ = some (.slice none 0 0) ∧ w'.cell? ⟨w.heap.size + 1, 1, none⟩ = some (.int .i64 0) ∧ w'.cell? ⟨w.heap.size + 1, 2, none⟩ = some (.slice none 0 0) ∧ w'.frozen? ⟨w.heap.size + 1, 0, none⟩ = false ∧ w'.frozen? ⟨w.heap.size + 1, 1, none⟩ = false ∧ w'.frozen? ⟨w.heap.size + 1, 2, none⟩ = false ∧ w.heap.size + 1 < w'.heap.size))
  obtain ⟨R, hR⟩ : ∃ R, R = remFil fs x := ⟨_, rfl⟩
  have HR := Lib.hid hR
  rw [← hR] at Hts
  have Hat := Lib.hid (fun (h2 : R.2 = true) => remFil_at (t := fs) (i := x) (by rw [← hR]; exact h2))
  have Hno := Lib.hid (show (okDisk ⟨fs, c, ds⟩ && R.2) = false → diskRem ⟨fs, c, ds⟩ x k = (⟨[], 0, []⟩, false) by rw [hR]; exact diskRem_no)
  have Hyes := Lib.hid (show okDisk ⟨fs, c, ds⟩ = true → R.2 = true → diskRem ⟨fs, c, ds⟩ x k = changed ⟨fs, c, ds⟩ R.1 (fs.getD x.toNat noFil).root (fs.getD x.toNat noFil).pack k by rw [hR]; exact diskRem_yes)
  clear hR
  obtain ⟨R1, R2⟩ := R
  dsimp only at Hts Hno Hyes Hat
  go_enter Try.func11, Try.ntmps11
  go_wp2_with fail
  rw [← HWe.out]
  have HBx := HBw
  refine (impl_RemoveFileX _ fs ps B x _ (H.out.1.below HBx.out) E1.out Hz.out.1 Hc0.out.1).mono ?_
  rintro _ w5 ⟨v5, ps5, rfl, hps5, hown5, hb5⟩
  rw [← HR.out] at hps5 ⊢
  dsimp only at hps5 ⊢
  obtain ⟨a5, c5, rfl⟩ := hown5.len
  obtain ⟨W5, hW5⟩ : ∃ W, W = w5.alloc (.cells #[.slice a5 ps5.length c5] 25) := ⟨_, rfl⟩
  have Hps5 := Lib.hid hps5
  have HB5 := Lib.hid (show Below Wb.heap.size Wb W5 by rw [hW5]; exact ba (hb5) _)
  have hsz5 := HB5.out.size
  have hw5z : Wb.heap.size ≤ w5.heap.size := (hb5).size
  have HO5 := Lib.hid (show OwnFils W5 Wb.heap.size (.slice a5 ps5.length c5) ps5 by rw [hW5]; exact (hown5.mono (by exact Nat.le_refl _)).below (ba (Below.refl _ _) _))
  have HXT := Lib.hid (show HB W5 w5.heap.size 25 #[.slice a5 ps5.length c5] by rw [hW5]; exact HB.new _ _ _)
  have HW5 := Lib.hid hW5
  have Hbw := Lib.hid (show Below w.heap.size w W5 from HBw.out.trans (HB5.out.mono HBw.out.size))
  clear hps5 hown5 hb5 hW5
  have hX0 := HX0.out.step HB5.out
  have x0 := hX0.cell 0
  have x1 := hX0.cell 1
  have x2 := hX0.cell 2
  have t0 := HXT.out.cell 0
  clear hX0
  cases R2
  · have Hno' := Lib.hid (Hno.out (by simp))
    obtain ⟨r0, r1, r2, rf0, rf1, rf2, rl⟩ := RET.out W5 HB5.out
    rw [HW5.out] at r0 r1 r2 rf0 rf1 rf2 rl
    clear x0 x1 x2 t0
    go_wp2_with fail
    refine bodyPost_ret (v := .tuple #[.agg #[.slice none 0 0, .int .i64 0, .slice none 0 0], .bool false]) (by simp [results, Try.results11, go_sem, r0, r1, r2]) rfl (chgD_no Hno'.out ?_)
    have hbw := Hbw.out
    rw [HW5.out] at hbw
    (repeat (with_reducible first | exact Below.refl _ _ | assumption | refine ba ?_ _ | refine bd ?_ | refine bdN ?_ _ | refine bs ?_ (by first | exact Nat.le_refl _ | (dsimp only; omega) | (simp; done)) _ | refine bt ?_ (by assumption)))
  · cases hok : okDisk ⟨fs, c, ds⟩
    · have Hok := Lib.hid hok
      have Hno' := Lib.hid (Hno.out (by rw [hok]; rfl))
      clear hok t0
      rw [HW5.out] at x0 x1 x2
      go_wp2_with fail
      rw [← HW5.out]
      refine (impl_ValidDisk _ fs c _ ds (fun _ => True) _ (Hin.out.below Hbw.out) Hz.out).mono ?_
      rintro _ w6 ⟨rfl, hb6⟩
      rw [Hok.out]
      have Hb6 := Lib.hid hb6
      obtain ⟨r0, r1, r2, rf0, rf1, rf2, rl⟩ := RET.out w6 (HB5.out.trans (hb6.mono hsz5))
      clear hb6 x0 x1 x2
      go_wp2_with fail
      refine bodyPost_ret (v := .tuple #[.agg #[.slice none 0 0, .int .i64 0, .slice none 0 0], .bool false]) (by simp [results, Try.results11, go_sem, r0, r1, r2]) rfl (chgD_no Hno'.out ?_)
      have hbw := Hbw.out.trans (Hb6.out.mono Hbw.out.size)
      (repeat (with_reducible first | exact Below.refl _ _ | assumption | refine ba ?_ _ | refine bd ?_ | refine bdN ?_ _ | refine bs ?_ (by first | exact Nat.le_refl _ | (dsimp only; omega) | (simp; done)) _ | refine bt ?_ (by assumption)))
    · have Hok := Lib.hid hok
      have Hy := Lib.hid (Hyes.out hok rfl)
      obtain ⟨o1, o2, o3⟩ := okDisk_all hok
      have O1 := Lib.hid o1
      have O2 := Lib.hid o2
      clear hok o1 o2 o3
      rw [HW5.out] at x0 x1 x2 t0
      go_wp2_with fail
      rw [← HW5.out]
      refine (impl_ValidDisk _ fs c _ ds (fun _ => True) _ (Hin.out.below Hbw.out) Hz.out).mono ?_
      rintro _ w6 ⟨rfl, hb6⟩
      rw [Hok.out]
      have H56 := Lib.hid hb6
      have HB6 := Lib.hid (HB5.out.trans (hb6.mono hsz5))
      have hsz6 := HB6.out.size
      clear hb6 x0 x1 x2 t0
      obtain ⟨kk, hkk, rfl, hvp, hget⟩ := Hat.out (by simp)
      rw [hget] at Hy
      have hkp : kk < ps.length := by rw [← E1.out, List.length_map] at hkk; exact hkk
      have hfk : fs[kk] = ps[kk].1 := by simp only [← E1.out]; rw [List.getElem_map]
      have hshort : ps[kk].1.pack.length ≤ 2000000 := by rw [← hfk]; exact (Hz.out.1 _ (List.getElem_mem hkk)).1
      rw [hfk] at Hy hvp
      obtain ⟨g6, cap6, e6, hg6, hg62⟩ := H.out.1.1.form (by omega)
      simp only [Value.slice.injEq] at e6
      obtain ⟨rfl, hnn6, rfl⟩ := e6
      clear hnn6
      have Hfc := Lib.hid (fun (w' : World) (hC : Below w.heap.size w w') => (own6 (owns_below H.out.1.1 hC) kk hkp).1)
      have hgl6 : g6 < w.heap.size := (H.out.1.1.lt g6 rfl).2
      have hkI : (kk : Int) < (ps.length : Int) := by omega
      have hkJ : (0 : Int) ≤ (kk : Int) := by omega
      obtain ⟨bva, bvn, bvc, hbv⟩ : ∃ a n c, ps[kk].2 = .slice a n c := by obtain ⟨a, c, e⟩ := owns_shape (H.out.1.2.1 _ (List.getElem_mem hkp)); exact ⟨a, _, c, e⟩
      rw [hbv] at Hfc
      clear hget hfk hbv
      generalize ps[kk].1 = ff at *
      obtain ⟨gr, gp, gn, gi, gs, gb⟩ := ff
      dsimp only at Hfc Hy hvp hshort
      have Hkp := Lib.hid (fun (w' : World) (hC : Below w6.heap.size w6 w') => (⟨(HX0.out.step (HB6.out.trans (hC.mono hsz6))).cell 0, (HX0.out.step (HB6.out.trans (hC.mono hsz6))).cell 1, (HX0.out.step (HB6.out.trans (hC.mono hsz6))).cell 2, (HXT.out.step (H56.out.trans (hC.mono H56.out.size))).cell 0, (Hfc.out _ ((HBw.out.trans (HB6.out.mono HBw.out.size)).trans (hC.mono (by omega)))).1, (Hfc.out _ ((HBw.out.trans (HB6.out.mono HBw.out.size)).trans (hC.mono (by omega)))).2.1, (Hfc.out _ ((HBw.out.trans (HB6.out.mono HBw.out.size)).trans (hC.mono (by omega)))).2.2.1, (Hfc.out _ ((HBw.out.trans (HB6.out.mono HBw.out.size)).trans (hC.mono (by omega)))).2.2.2.1, (Hfc.out _ ((HBw.out.trans (HB6.out.mono HBw.out.size)).trans (hC.mono (by omega)))).2.2.2.2.1, (Hfc.out _ ((HBw.out.trans (HB6.out.mono HBw.out.size)).trans (hC.mono (by omega)))).2.2.2.2.2⟩ : w'.cell? ⟨w.heap.size, 0, none⟩ = some (.slice (some ⟨g6, 0, none⟩) ps.length ca) ∧ w'.cell? ⟨w.heap.size, 1, none⟩ = some (.int .i64 c) ∧ w'.cell? ⟨w.heap.size, 2, none⟩ = some (.slice ab qs.length cb) ∧ w'.cell? ⟨w5.heap.size, 0, none⟩ = some (.slice a5 ps5.length c5) ∧ w'.cell? ⟨g6, kk * 6, none⟩ = some (.int .i64 gr) ∧ w'.cell? ⟨g6, kk * 6 + 1, none⟩ = some (.string (mk gp)) ∧ w'.cell? ⟨g6, kk * 6 + 2, none⟩ = some (.string (mk gn)) ∧ w'.cell? ⟨g6, kk * 6 + 3, none⟩ = some (.bool gi) ∧ w'.cell? ⟨g6, kk * 6 + 4, none⟩ = some (.int .i64 gs) ∧ w'.cell? ⟨g6, kk * 6 + 5, none⟩ = some (.slice bva bvn bvc)))
      obtain ⟨x0, x1, x2, t0, y0, y1, y2, y3, y4, y5⟩ := Hkp.out _ (Below.refl _ _)
      go_wp2_with fail
      go_region_law (go_simp; go_at_call 44; refine (impl_changedDisk _ _ _ fs c k gr gs gp gn gi _ ps5 qs Wb.heap.size B _ ((HO5.out.below H56.out).below (by (repeat (with_reducible first | exact Below.refl _ _ | assumption | refine ba ?_ _ | refine bd ?_ | refine bdN ?_ _ | refine bs ?_ (by first | exact Nat.le_refl _ | (dsimp only; omega) | (simp; done)) _ | refine bt ?_ (by assumption))))) (by rw [Hps5.out]; exact Hts.out) ((H.out.2.below (HBw.out.trans (HB6.out.mono HBw.out.size))).below (by (repeat (with_reducible first | exact Below.refl _ _ | assumption | refine ba ?_ _ | refine bd ?_ | refine bdN ?_ _ | refine bs ?_ (by first | exact Nat.le_refl _ | (dsimp only; omega) | (simp; done)) _ | refine bt ?_ (by assumption))))) O1.out (by rw [E2.out]; exact O2.out) (by have := vpk_len hvp; omega)).mono ?_; rintro e w7 hch; rw [Hps5.out, E2.out, ← Hy.out] at hch; obtain ⟨v7, ps7, u7, qs7, rfl, hps7, hqs7, hf7, hd7, hb7⟩ := hch; have Hb7 := Lib.hid (show Below w6.heap.size w6 w7 by (repeat (with_reducible first | exact Below.refl _ _ | assumption | refine ba ?_ _ | refine bd ?_ | refine bdN ?_ _ | refine bs ?_ (by first | exact Nat.le_refl _ | (dsimp only; omega) | (simp; done)) _ | refine bt ?_ (by assumption)))); obtain ⟨r0, r1, r2, rf0, rf1, rf2, rl⟩ := RET.out w7 (HB6.out.trans (Hb7.out.mono hsz6)); obtain ⟨a7, c7, rfl⟩ := hf7.len; obtain ⟨b7, d7, rfl⟩ := hd7.len; have Hps7 := Lib.hid hps7; have Hqs7 := Lib.hid hqs7; have Hf7 := Lib.hid hf7; have Hd7 := Lib.hid (hd7.mono (show Wb.heap.size ≤ _ from Nat.le_trans hsz6 (show Below w6.heap.size w6 _ by (repeat (with_reducible first | exact Below.refl _ _ | assumption | refine ba ?_ _ | refine bd ?_ | refine bdN ?_ _ | refine bs ?_ (by first | exact Nat.le_refl _ | (dsimp only; omega) | (simp; done)) _ | refine bt ?_ (by assumption)))).size)); clear hps7 hqs7 hf7 hd7 hb7)
      all_goals
        generalize diskRem ⟨fs, c, ds⟩ (kk : Int) k = res at *
        clear x0 x1 x2 t0 y0 y1 y2 y3 y4 y5
        go_wp2_with fail
        refine bodyPost_ret (v := .tuple #[.agg #[.slice a7 ps7.length c7, .int .i64 res.1.clock, .slice b7 qs7.length d7], .bool res.2]) (by simp [results, Try.results11, go_sem, r0, r1, r2]) rfl ?_
        refine ⟨_, ps7, _, qs7, rfl, Hps7.out, Hqs7.out, ?_, ?_, ?_⟩
        · exact OwnFils.mono (B := Wb.heap.size) (((Hf7.out.set_low (by dsimp only; omega) _).set_low (by dsimp only; omega) _).set_low (by dsimp only; omega) _) (by omega)
        · exact OwnDirs.mono (B := Wb.heap.size) (((Hd7.out.set_low (by dsimp only; omega) _).set_low (by dsimp only; omega) _).set_low (by dsimp only; omega) _) (by omega)
        · have hbw := (HBw.out.trans (HB6.out.mono HBw.out.size)).trans (Hb7.out.mono (by omega))
          (repeat (with_reducible first | exact Below.refl _ _ | assumption | refine ba ?_ _ | refine bd ?_ | refine bdN ?_ _ | refine bs ?_ (by first | exact Nat.le_refl _ | (dsimp only; omega) | (simp; done)) _ | refine bt ?_ (by assumption)))
set_option maxRecDepth 100000 in
set_option maxHeartbeats 4000000 in
theorem spec_DiskRemove (v : Value) (fs : List Fil) (ps : List (Fil × Value)) (c : Int) (u : Value) (ds : List Dr) (qs : List (Dr × Value)) (B : Nat) (x k : Int) (w : World) (h : OwnDsk w B v ps u qs) (e1 : ps.map (·.1) = fs) (e2 : qs.map (·.1) = ds) (hz : ShortK 2000000 fs ds) (hc0 : dskCost' fs ds) :
    Calls Try.prog 12 #[.agg #[v, .int .i64 c, u], .int .i64 x, .int .i64 k] w (ChgD w.heap.size (diskRem ⟨fs, c, ds⟩ x k) w) := by
  obtain ⟨aa, ca, rfl⟩ := h.1.len
  obtain ⟨ab, cb, rfl⟩ := h.2.len
  have Hts := Lib.hid (remFil_short (i := x) hz.1)
  have H := Lib.hid h
  have E1 := Lib.hid e1
  have E2 := Lib.hid e2
  have Hz := Lib.hid hz
  have Hc0 := Lib.hid hc0
  have Hin := Lib.hid (dsk_in h e1 e2)
  clear h e1 e2 hz hc0
  obtain ⟨Wb, hWb⟩ : ∃ W, W = (w.alloc (.cells #[.slice aa ps.length ca, .int .i64 c, .slice ab qs.length cb] 28)).alloc (.cells #[.slice none 0 0, .int .i64 0, .slice none 0 0] 28) := ⟨_, rfl⟩
  have HBw := Lib.hid (show Below w.heap.size w Wb by rw [hWb]; (repeat (with_reducible first | exact Below.refl _ _ | assumption | refine ba ?_ _ | refine bd ?_ | refine bdN ?_ _ | refine bs ?_ (by first | exact Nat.le_refl _ | (dsimp only; omega) | (simp; done)) _ | refine bt ?_ (by assumption))))
  have HWs := Lib.hid (show Wb.heap.size = w.heap.size + 2 by rw [hWb]; simp)
  have HX0 := Lib.hid (show HB Wb w.heap.size 28 #[.slice aa ps.length ca, .int .i64 c, .slice ab qs.length cb] by rw [hWb]; exact (HB.new w _ _).alloc _)
  have HX2 := Lib.hid (show HB Wb (w.heap.size + 1) 28 #[.slice none 0 0, .int .i64 0, .slice none 0 0] by rw [hWb]; have h := (HB.new (w.alloc (.cells #[.slice aa ps.length ca, .int .i64 c, .slice ab qs.length cb] 28)) #[.slice none 0 0, .int .i64 0, .slice none 0 0] 28); rw [World.size_alloc] at h; exact h)
  have HWe := Lib.hid hWb
  clear hWb
  have hWbs := HWs.out
  have RET := Lib.hid (fun (w' : World) (hC : Below Wb.heap.size Wb w') => (⟨(HX2.out.step hC).cell 0, (HX2.out.step hC).cell 1, (HX2.out.step hC).cell 2, (HX2.out.step hC).frozen 0, (HX2.out.step hC).frozen 1, (HX2.out.step hC).frozen 2, (HX2.out.step hC).lt⟩ : w'.cell? ⟨w.heap.size + 1, 0, none⟩ = some (.slice none 0 0) ∧ w'.cell? ⟨w.heap.size + 1, 1, none⟩ = some (.int .i64 0) ∧ w'.cell? ⟨w.heap.size + 1, 2, none⟩ = some (.slice none 0 0) ∧ w'.frozen? ⟨w.heap.size + 1, 0, none⟩ = false ∧ w'.frozen? ⟨w.heap.size + 1, 1, none⟩ = false ∧ w'.frozen? ⟨w.heap.size + 1, 2, none⟩ = false ∧ w.heap.size + 1 < w'.heap.size))
  obtain ⟨R, hR⟩ : ∃ R, R = remFil fs x := ⟨_, rfl⟩
  have HR := Lib.hid hR
  rw [← hR] at Hts
  have Hat := Lib.hid (fun (h2 : R.2 = true) => remFil_at (t := fs) (i := x) (by rw [← hR]; exact h2))
  have Hno := Lib.hid (show (okDisk ⟨fs, c, ds⟩ && R.2) = false → diskRem ⟨fs, c, ds⟩ x k = (⟨[], 0, []⟩, false) by rw [hR]; exact diskRem_no)
  have Hyes := Lib.hid (show okDisk ⟨fs, c, ds⟩ = true → R.2 = true → diskRem ⟨fs, c, ds⟩ x k = changed ⟨fs, c, ds⟩ R.1 (fs.getD x.toNat noFil).root (fs.getD x.toNat noFil).pack k by rw [hR]; exact diskRem_yes)
  clear hR
  obtain ⟨R1, R2⟩ := R
  dsimp only at Hts Hno Hyes Hat
  go_enter Try.func12, Try.ntmps12
  cases hok : okDisk ⟨fs, c, ds⟩
  · have Hok := Lib.hid hok
    have Hno' := Lib.hid (Hno.out (by rw [hok]; rfl))
    clear hok
    go_wp2_with fail
    rw [← HWe.out]
    refine (spec_validDisk _ fs c _ ds (fun _ => True) _ (Hin.out.below HBw.out) Hz.out).mono ?_
    rintro _ w4 ⟨rfl, hb4⟩
    rw [Hok.out]
    have Hb4 := Lib.hid hb4
    obtain ⟨r0, r1, r2, rf0, rf1, rf2, rl⟩ := RET.out w4 hb4
    clear hb4
    go_wp2_with fail
    refine bodyPost_ret (v := .tuple #[.agg #[.slice none 0 0, .int .i64 0, .slice none 0 0], .bool false]) (by simp [results, Try.results12, go_sem, r0, r1, r2]) rfl (chgD_no Hno'.out ?_)
    have hbw := HBw.out.trans (Hb4.out.mono HBw.out.size)
    (repeat (with_reducible first | exact Below.refl _ _ | assumption | refine ba ?_ _ | refine bd ?_ | refine bdN ?_ _ | refine bs ?_ (by first | exact Nat.le_refl _ | (dsimp only; omega) | (simp; done)) _ | refine bt ?_ (by assumption)))
  · cases hkk : inr k 0 200
    · have Hok := Lib.hid hok
      have Hkk := Lib.hid hkk
      have Hno' := Lib.hid (show diskRem ⟨fs, c, ds⟩ x k = (⟨[], 0, []⟩, false) from diskRem_far hok hkk)
      clear hok hkk
      go_wp2_with fail
      rw [← HWe.out]
      refine (spec_validDisk _ fs c _ ds (fun _ => True) _ (Hin.out.below HBw.out) Hz.out).mono ?_
      rintro _ w4 ⟨rfl, hb4⟩
      rw [Hok.out]
      have Hb4 := Lib.hid hb4
      obtain ⟨r0, r1, r2, rf0, rf1, rf2, rl⟩ := RET.out w4 hb4
      clear hb4
      go_wp2_with ((go_at_call 46; refine (spec_inRange' _ _ _ _).mono ?_; rintro _ _ ⟨rfl, rfl⟩); rw [Hkk.out])
      refine bodyPost_ret (v := .tuple #[.agg #[.slice none 0 0, .int .i64 0, .slice none 0 0], .bool false]) (by simp [results, Try.results12, go_sem, r0, r1, r2]) rfl (chgD_no Hno'.out ?_)
      have hbw := HBw.out.trans (Hb4.out.mono HBw.out.size)
      (repeat (with_reducible first | exact Below.refl _ _ | assumption | refine ba ?_ _ | refine bd ?_ | refine bdN ?_ _ | refine bs ?_ (by first | exact Nat.le_refl _ | (dsimp only; omega) | (simp; done)) _ | refine bt ?_ (by assumption)))
    · have Hok := Lib.hid hok
      have Hkk := Lib.hid hkk
      have Hyy := Lib.hid (fun h => Hyes.out hok h)
      have Hno2 := Lib.hid (fun (h : R2 = false) => Hno.out (by rw [h]; simp))
      obtain ⟨o1, o2, o3⟩ := okDisk_all hok
      have O1 := Lib.hid o1
      have O2 := Lib.hid o2
      clear hok hkk o1 o2 o3
      go_wp2_with fail
      rw [← HWe.out]
      refine (spec_validDisk _ fs c _ ds (fun _ => True) _ (Hin.out.below HBw.out) Hz.out).mono ?_
      rintro _ w4 ⟨rfl, hb4⟩
      rw [Hok.out]
      have Hb4 := Lib.hid hb4
      have HBc := Lib.hid hb4
      have HBx := Lib.hid (HBw.out.trans (hb4.mono HBw.out.size))
      have hX0 := HX0.out.step hb4
      have x0 := hX0.cell 0
      have x1 := hX0.cell 1
      have x2 := hX0.cell 2
      clear hX0 hb4
      go_wp2_with ((go_at_call 46; refine (spec_inRange' _ _ _ _).mono ?_; rintro _ _ ⟨rfl, rfl⟩); rw [Hkk.out])
      refine (spec_RemoveFileX _ fs ps B x _ (H.out.1.below HBx.out) E1.out Hz.out.1 Hc0.out.1).mono ?_
      rintro _ w5 ⟨v5, ps5, rfl, hps5, hown5, hb5⟩
      rw [← HR.out] at hps5 ⊢
      dsimp only at hps5 ⊢
      obtain ⟨a5, c5, rfl⟩ := hown5.len
      obtain ⟨W5, hW5⟩ : ∃ W, W = w5.alloc (.cells #[.slice a5 ps5.length c5] 25) := ⟨_, rfl⟩
      have Hps5 := Lib.hid hps5
      have HB5 := Lib.hid (show Below Wb.heap.size Wb W5 by rw [hW5]; exact ba (HBc.out.trans (hb5.mono HBc.out.size)) _)
      have hsz5 := HB5.out.size
      have hw5z : Wb.heap.size ≤ w5.heap.size := (HBc.out.trans (hb5.mono HBc.out.size)).size
      have HO5 := Lib.hid (show OwnFils W5 Wb.heap.size (.slice a5 ps5.length c5) ps5 by rw [hW5]; exact (hown5.mono (by exact HBc.out.size)).below (ba (Below.refl _ _) _))
      have HXT := Lib.hid (show HB W5 w5.heap.size 25 #[.slice a5 ps5.length c5] by rw [hW5]; exact HB.new _ _ _)
      have HW5 := Lib.hid hW5
      have Hbw := Lib.hid (show Below w.heap.size w W5 from HBw.out.trans (HB5.out.mono HBw.out.size))
      clear hps5 hown5 hb5 hW5
      clear x0 x1 x2
      have hX0 := HX0.out.step HB5.out
      have x0 := hX0.cell 0
      have x1 := hX0.cell 1
      have x2 := hX0.cell 2
      have t0 := HXT.out.cell 0
      clear hX0
      cases R2
      · have Hno' := Lib.hid (Hno2.out rfl)
        obtain ⟨r0, r1, r2, rf0, rf1, rf2, rl⟩ := RET.out W5 HB5.out
        rw [HW5.out] at r0 r1 r2 rf0 rf1 rf2 rl
        clear x0 x1 x2 t0
        go_wp2_with fail
        refine bodyPost_ret (v := .tuple #[.agg #[.slice none 0 0, .int .i64 0, .slice none 0 0], .bool false]) (by simp [results, Try.results12, go_sem, r0, r1, r2]) rfl (chgD_no Hno'.out ?_)
        have hbw := Hbw.out
        rw [HW5.out] at hbw
        (repeat (with_reducible first | exact Below.refl _ _ | assumption | refine ba ?_ _ | refine bd ?_ | refine bdN ?_ _ | refine bs ?_ (by first | exact Nat.le_refl _ | (dsimp only; omega) | (simp; done)) _ | refine bt ?_ (by assumption)))
      · have Hy := Lib.hid (Hyy.out rfl)
        have H56 := Lib.hid (Below.refl W5.heap.size W5)
        have HB6 := HB5
        have hsz6 := HB6.out.size
        clear x0 x1 x2 t0
        obtain ⟨kk, hkk, rfl, hvp, hget⟩ := Hat.out (by simp)
        rw [hget] at Hy
        have hkp : kk < ps.length := by rw [← E1.out, List.length_map] at hkk; exact hkk
        have hfk : fs[kk] = ps[kk].1 := by simp only [← E1.out]; rw [List.getElem_map]
        have hshort : ps[kk].1.pack.length ≤ 2000000 := by rw [← hfk]; exact (Hz.out.1 _ (List.getElem_mem hkk)).1
        rw [hfk] at Hy hvp
        obtain ⟨g6, cap6, e6, hg6, hg62⟩ := H.out.1.1.form (by omega)
        simp only [Value.slice.injEq] at e6
        obtain ⟨rfl, hnn6, rfl⟩ := e6
        clear hnn6
        have Hfc := Lib.hid (fun (w' : World) (hC : Below w.heap.size w w') => (own6 (owns_below H.out.1.1 hC) kk hkp).1)
        have hgl6 : g6 < w.heap.size := (H.out.1.1.lt g6 rfl).2
        have hkI : (kk : Int) < (ps.length : Int) := by omega
        have hkJ : (0 : Int) ≤ (kk : Int) := by omega
        obtain ⟨bva, bvn, bvc, hbv⟩ : ∃ a n c, ps[kk].2 = .slice a n c := by obtain ⟨a, c, e⟩ := owns_shape (H.out.1.2.1 _ (List.getElem_mem hkp)); exact ⟨a, _, c, e⟩
        rw [hbv] at Hfc
        clear hget hfk hbv
        generalize ps[kk].1 = ff at *
        obtain ⟨gr, gp, gn, gi, gs, gb⟩ := ff
        dsimp only at Hfc Hy hvp hshort
        have Hkp := Lib.hid (fun (w' : World) (hC : Below W5.heap.size W5 w') => (⟨(HX0.out.step (HB6.out.trans (hC.mono hsz6))).cell 0, (HX0.out.step (HB6.out.trans (hC.mono hsz6))).cell 1, (HX0.out.step (HB6.out.trans (hC.mono hsz6))).cell 2, (HXT.out.step (H56.out.trans (hC.mono H56.out.size))).cell 0, (Hfc.out _ ((HBw.out.trans (HB6.out.mono HBw.out.size)).trans (hC.mono (by omega)))).1, (Hfc.out _ ((HBw.out.trans (HB6.out.mono HBw.out.size)).trans (hC.mono (by omega)))).2.1⟩ : w'.cell? ⟨w.heap.size, 0, none⟩ = some (.slice (some ⟨g6, 0, none⟩) ps.length ca) ∧ w'.cell? ⟨w.heap.size, 1, none⟩ = some (.int .i64 c) ∧ w'.cell? ⟨w.heap.size, 2, none⟩ = some (.slice ab qs.length cb) ∧ w'.cell? ⟨w5.heap.size, 0, none⟩ = some (.slice a5 ps5.length c5) ∧ w'.cell? ⟨g6, kk * 6, none⟩ = some (.int .i64 gr) ∧ w'.cell? ⟨g6, kk * 6 + 1, none⟩ = some (.string (mk gp))))
        obtain ⟨x0, x1, x2, t0, y0, y1⟩ := Hkp.out _ (Below.refl _ _)
        rw [HW5.out] at x0 x1 x2 t0 y0 y1
        go_wp2_with fail
        have HK0 := Lib.hid (Hkp.out W5 (Below.refl _ _))
        have HK1 := Lib.hid (Hkp.out W5.drew (bd (Below.refl _ _)))
        have HK2 := Lib.hid (Hkp.out W5 (Below.refl _ _))
        have HK3 := Lib.hid (Hkp.out W5.drew (bd (Below.refl _ _)))
        rw [HW5.out] at HK2 HK3
        go_region_held3 (fun w' => w'.cell? ⟨w.heap.size, 0, none⟩ = some (.slice (some ⟨g6, 0, none⟩) ps.length ca) ∧ w'.cell? ⟨w.heap.size, 1, none⟩ = some (.int .i64 c) ∧ w'.cell? ⟨w.heap.size, 2, none⟩ = some (.slice ab qs.length cb) ∧ w'.cell? ⟨w5.heap.size, 0, none⟩ = some (.slice a5 ps5.length c5) ∧ w'.cell? ⟨g6, kk * 6, none⟩ = some (.int .i64 gr) ∧ w'.cell? ⟨g6, kk * 6 + 1, none⟩ = some (.string (mk gp)))
          (first | exact HK2.out | exact HK3.out | exact HK0.out | exact HK1.out | exact HK7.out | exact HS7.out _ _ _)
          (first | (go_at_call 48; rw [← HW5.out]; refine (spec_changed _ _ _ fs c k gr gp ps5 qs Wb.heap.size B _ ((HO5.out.below H56.out).below (by (repeat (with_reducible first | exact Below.refl _ _ | assumption | refine ba ?_ _ | refine bd ?_ | refine bdN ?_ _ | refine bs ?_ (by first | exact Nat.le_refl _ | (dsimp only; omega) | (simp; done)) _ | refine bt ?_ (by assumption))))) (by rw [Hps5.out]; exact Hts.out) ((H.out.2.below (HBw.out.trans (HB6.out.mono HBw.out.size))).below (by (repeat (with_reducible first | exact Below.refl _ _ | assumption | refine ba ?_ _ | refine bd ?_ | refine bdN ?_ _ | refine bs ?_ (by first | exact Nat.le_refl _ | (dsimp only; omega) | (simp; done)) _ | refine bt ?_ (by assumption))))) O1.out (by rw [E2.out]; exact O2.out) Hkk.out hvp).mono ?_; rintro e w7 hch; rw [Hps5.out, E2.out, ← Hy.out] at hch; obtain ⟨v7, ps7, u7, qs7, rfl, hps7, hqs7, hf7, hd7, hb7⟩ := hch; have Hb7 := Lib.hid (show Below W5.heap.size W5 w7 by (repeat (with_reducible first | exact Below.refl _ _ | assumption | refine ba ?_ _ | refine bd ?_ | refine bdN ?_ _ | refine bs ?_ (by first | exact Nat.le_refl _ | (dsimp only; omega) | (simp; done)) _ | refine bt ?_ (by assumption)))); obtain ⟨r0, r1, r2, rf0, rf1, rf2, rl⟩ := RET.out w7 (HB6.out.trans (Hb7.out.mono hsz6)); obtain ⟨a7, c7, rfl⟩ := hf7.len; obtain ⟨b7, d7, rfl⟩ := hd7.len; have Hps7 := Lib.hid hps7; have Hqs7 := Lib.hid hqs7; have Hf7 := Lib.hid hf7; have Hd7 := Lib.hid (hd7.mono (show Wb.heap.size ≤ _ from Nat.le_trans hsz6 (show Below W5.heap.size W5 _ by (repeat (with_reducible first | exact Below.refl _ _ | assumption | refine ba ?_ _ | refine bd ?_ | refine bdN ?_ _ | refine bs ?_ (by first | exact Nat.le_refl _ | (dsimp only; omega) | (simp; done)) _ | refine bt ?_ (by assumption)))).size)); have HK7 := Lib.hid (Hkp.out w7 Hb7.out); have HS7 := Lib.hid (fun (sa sb sc : Value) => (⟨cells_kept3 HK7.out.1 (by dsimp only; omega), cells_kept3 HK7.out.2.1 (by dsimp only; omega), cells_kept3 HK7.out.2.2.1 (by dsimp only; omega), cells_kept3 HK7.out.2.2.2.1 (by dsimp only; omega), cells_kept3 HK7.out.2.2.2.2.1 (by dsimp only; omega), cells_kept3 HK7.out.2.2.2.2.2 (by dsimp only; omega)⟩ : (((w7.setCell ⟨w.heap.size + 1, 0, none⟩ sa).setCell ⟨w.heap.size + 1, 1, none⟩ sb).setCell ⟨w.heap.size + 1, 2, none⟩ sc).cell? ⟨w.heap.size, 0, none⟩ = some (.slice (some ⟨g6, 0, none⟩) ps.length ca) ∧ (((w7.setCell ⟨w.heap.size + 1, 0, none⟩ sa).setCell ⟨w.heap.size + 1, 1, none⟩ sb).setCell ⟨w.heap.size + 1, 2, none⟩ sc).cell? ⟨w.heap.size, 1, none⟩ = some (.int .i64 c) ∧ (((w7.setCell ⟨w.heap.size + 1, 0, none⟩ sa).setCell ⟨w.heap.size + 1, 1, none⟩ sb).setCell ⟨w.heap.size + 1, 2, none⟩ sc).cell? ⟨w.heap.size, 2, none⟩ = some (.slice ab qs.length cb) ∧ (((w7.setCell ⟨w.heap.size + 1, 0, none⟩ sa).setCell ⟨w.heap.size + 1, 1, none⟩ sb).setCell ⟨w.heap.size + 1, 2, none⟩ sc).cell? ⟨w5.heap.size, 0, none⟩ = some (.slice a5 ps5.length c5) ∧ (((w7.setCell ⟨w.heap.size + 1, 0, none⟩ sa).setCell ⟨w.heap.size + 1, 1, none⟩ sb).setCell ⟨w.heap.size + 1, 2, none⟩ sc).cell? ⟨g6, kk * 6, none⟩ = some (.int .i64 gr) ∧ (((w7.setCell ⟨w.heap.size + 1, 0, none⟩ sa).setCell ⟨w.heap.size + 1, 1, none⟩ sb).setCell ⟨w.heap.size + 1, 2, none⟩ sc).cell? ⟨g6, kk * 6 + 1, none⟩ = some (.string (mk gp)))); clear hps7 hqs7 hf7 hd7 hb7))
        all_goals
          generalize diskRem ⟨fs, c, ds⟩ (kk : Int) k = res at *
          clear x0 x1 x2 t0 y0 y1
          go_wp2_with fail
          refine bodyPost_ret (v := .tuple #[.agg #[.slice a7 ps7.length c7, .int .i64 res.1.clock, .slice b7 qs7.length d7], .bool res.2]) (by simp [results, Try.results12, go_sem, r0, r1, r2]) rfl ?_
          refine ⟨_, ps7, _, qs7, rfl, Hps7.out, Hqs7.out, ?_, ?_, ?_⟩
          · exact OwnFils.mono (B := Wb.heap.size) (((Hf7.out.set_low (by dsimp only; omega) _).set_low (by dsimp only; omega) _).set_low (by dsimp only; omega) _) (by omega)
          · exact OwnDirs.mono (B := Wb.heap.size) (((Hd7.out.set_low (by dsimp only; omega) _).set_low (by dsimp only; omega) _).set_low (by dsimp only; omega) _) (by omega)
          · have hbw := (HBw.out.trans (HB6.out.mono HBw.out.size)).trans (Hb7.out.mono (by omega))
            (repeat (with_reducible first | exact Below.refl _ _ | assumption | refine ba ?_ _ | refine bd ?_ | refine bdN ?_ _ | refine bs ?_ (by first | exact Nat.le_refl _ | (dsimp only; omega) | (simp; done)) _ | refine bt ?_ (by assumption)))
end Go.Proofs.Ytgecemngfpgcoaa
