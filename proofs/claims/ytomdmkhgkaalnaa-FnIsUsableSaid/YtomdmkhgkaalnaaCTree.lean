/- Contracts of CompileTree, of both sides. -/
import Derived.Test.YtomdmkhgkaalnaaCompile
import Derived.Test.YtomdmkhgkaalnaaHasF
import Derived.Test.YtomdmkhgkaalnaaTrees
import Derived.Test.YtomdmkhgkaalnaaDirs
set_option linter.unusedVariables false
set_option linter.unusedSimpArgs false
namespace Go.Proofs.Ytomdmkhgkaalnaa
open Go.RowKit Go.Proofs.Ytomdmkhgkaalnaa.Nm

theorem cbods_grown {w w' : World} {B : Nat} {qs : List (Cmp × Value)} {row : Option Nat} (h : OwnCmpBodies w B qs) (hg : w.grownBy w' row) (hne : ∀ b, row = some b → ∀ p ∈ qs, p.2.ownBlock ≠ some b) : OwnCmpBodies w' B qs :=
  h.heap (fun b _ hlt ⟨p, hp, hb⟩ => hg.block b hlt (fun e => hne b e.symm p hp hb))
/-- One more of what is compiled, with its own body, behind others. -/
theorem cmps_snoc {wr W w7 : World} {B : Nat} {ov v7 : Value} {qs : List (Cmp × Value)} {q : Cmp × Value} (h : OwnCmps wr B ov qs) (hb : Below wr.heap.size wr W) (hB : B ≤ wr.heap.size)
    (hq : W.ownsRow wr.heap.size 124 5 q.2 q.1.body.length (q.1.body.flatMap stmCells)) (hg : W.grownBy w7 ov.ownBlock)
    (h7 : w7.ownsRow B 53 8 v7 (qs.length + 1) (qs.flatMap cmpCells ++ cmpCells q)) : OwnCmps w7 B v7 (qs ++ [q]) := by
  refine ⟨by simpa using h7, ?_⟩
  have h1 := OwnCmpBodies.snoc h.2 hb hB hq
  exact cbods_grown h1 hg (fun b hb' p hp => own_types (by decide) (owns_below h.1 hb) (h1.1 p hp) hb')
theorem newCmps_no {xs : List Cmp} {w w' : World} (h : xs = []) (hb : Below w.heap.size w w') : NewCmps xs w (.returned (.slice none 0 0)) w' := by
  subst h; exact ⟨_, [], rfl, rfl, ⟨World.ownsRow_nil _ _ _ _, OwnCmpBodies.nil _ _⟩, hb⟩
theorem compileTree_no {t : List Fil} {m : Int} (h : (okTree t && inr m 0 2) = false) : compileTree t m = [] := by unfold compileTree; rw [h]; rfl
theorem compileTree_yes {t : List Fil} {m : Int} (h1 : okTree t = true) (h2 : inr m 0 2 = true) : compileTree t m = t.map (fun f => compiled f m) := by unfold compileTree; rw [h1, h2]; rfl
theorem compileTree_fine (t : List Fil) (m : Int) : (∀ c ∈ compileTree t m, okBody c.body = true) ∧ (compileTree t m).length ≤ 12 := by
  unfold compileTree
  split
  · rename_i h
    simp only [Bool.and_eq_true] at h
    have h1 := okTree_all h.1
    refine ⟨fun c hc => ?_, by rw [List.length_map]; exact h1.2.2⟩
    obtain ⟨f, hf, rfl⟩ := List.mem_map.1 hc
    exact okFil_body (List.all_eq_true.1 h1.1 f hf)
  · simp
theorem okTree_in {t : List Fil} (h : okTree t = true) {f : Fil} (hf : f ∈ t) : okFil f = true := (okTree_all h).1 |> fun h1 => List.all_eq_true.1 h1 f hf
theorem cmp_one (q : Cmp × Value) (hv : ∃ a n c, q.2 = .slice a n c) : ∀ u ∈ cmpCells q, u.oneCell' = true := fun u h => by
  obtain ⟨a, n, c, e⟩ := hv
  simp only [cmpCells, List.mem_cons, List.not_mem_nil, or_false] at h
  rcases h with rfl | rfl | rfl | rfl | rfl | rfl | rfl | rfl
  all_goals first | rfl | (rw [e]; rfl)
theorem ct_cells (w : World) (cs : Array Value) (T : TypeId) (b : Nat) (hb : b = w.heap.size) : ∀ (j : Nat) (u : Value), cs.toList[j]? = some u → (w.alloc (.cells cs T)).cell? ((⟨b, 0, none⟩ : Addr).add j) = some u := by
  subst hb
  intro j u hu
  have e : (w.alloc (.cells cs T)).heap[w.heap.size]? = some (.cells cs T (0, 0)) := by
    show (w.heap.push (Obj.cells cs T (0, 0)))[w.heap.size]? = _
    simp
  have ha : (⟨w.heap.size, 0, none⟩ : Addr).add j = ⟨w.heap.size, j, none⟩ := by unfold Addr.add; split <;> simp_all
  rw [ha]
  simp only [World.cell?, e]
  simpa using hu
theorem ct_first {w wr W w7 : World} {cs : Array Value} {T : TypeId} {row : Option Nat} (h : Boxed w cs T wr) (hb : Below wr.heap.size wr W) (hg : W.grownBy w7 row) (hr : ∀ g, row = some g → w.heap.size + 1 ≤ g) : Boxed w cs T w7 :=
  (h.step hb).grown hg (h.step hb).size (fun g e => by simpa using hr g e)

set_option maxRecDepth 100000 in
set_option maxHeartbeats 4000000 in
theorem impl_CompileTree (v : Value) (fs : List Fil) (ps : List (Fil × Value)) (m : Int) (B : Nat) (w : World) (h : RowsFB w B v ps) (hps : ps.map (·.1) = fs) (hz : ShortT 1048576 fs) (hl : filsCost' fs) :
    Calls Try.prog 45 #[.agg #[v], .int .i64 m] w (NewCmps (compileTree fs m) w) := by
  subst hps
  obtain ⟨i0, hi, hz0, hz1, hz2⟩ := info_parts infoCmp
  have Hi := Lib.hid hi
  have Hz0 := Lib.hid hz0
  have Hz1 := Lib.hid hz1
  have Hz2 := Lib.hid hz2
  have H := Lib.hid h
  have Hz := Lib.hid hz
  have Hl := Lib.hid hl
  have HF := Lib.hid (h.fils (D := fun _ => True) (fun _ _ => trivial))
  have Hz8 := Lib.hid (shortT_mono (B := 8000000) (by omega) hz)
  obtain ⟨aa, ca, rfl⟩ := h.len
  clear h hz hl hi hz0 hz1 hz2
  have Hb0 := Lib.hid (Boxed.start w #[.slice aa ps.length ca] 33)
  cases h1 : okTree (ps.map (·.1))
  · have H1 := Lib.hid h1
    have Hs := Lib.hid (compileTree_no (t := ps.map (·.1)) (m := m) (by rw [h1]; rfl))
    clear h1
    go_enter Try.func45, Try.ntmps45
    go_wp2_with (go_at_call 51; refine (impl_ValidTree _ _ _ _ (HF.out.below (by (repeat (with_reducible first | exact Below.refl _ _ | assumption | refine ba ?_ _ | refine bd ?_ | refine bdN ?_ _ | refine bs ?_ (by first | exact Nat.le_refl _ | (dsimp only; omega) | (simp; done)) _ | refine bt ?_ (by assumption))))) Hz8.out).mono ?_; rintro _ w5 ⟨rfl, hb5⟩; rw [H1.out])
    go_ret
    exact newCmps_no Hs.out (by (repeat (with_reducible first | exact Below.refl _ _ | assumption | refine ba ?_ _ | refine bd ?_ | refine bdN ?_ _ | refine bs ?_ (by first | exact Nat.le_refl _ | (dsimp only; omega) | (simp; done)) _ | refine bt ?_ (by assumption))))
  cases h2 : inr m 0 2
  · have H1 := Lib.hid h1
    have H2 := Lib.hid h2
    have Hs := Lib.hid (compileTree_no (t := ps.map (·.1)) (m := m) (by rw [h2, Bool.and_false]))
    clear h1 h2
    go_enter Try.func45, Try.ntmps45
    go_wp2_with (first
      | (go_at_call 51; refine (impl_ValidTree _ _ _ _ (HF.out.below (by (repeat (with_reducible first | exact Below.refl _ _ | assumption | refine ba ?_ _ | refine bd ?_ | refine bdN ?_ _ | refine bs ?_ (by first | exact Nat.le_refl _ | (dsimp only; omega) | (simp; done)) _ | refine bt ?_ (by assumption))))) Hz8.out).mono ?_; rintro _ w5 ⟨rfl, hb5⟩; rw [H1.out])
      | (go_at_call 100; refine (impl_validMode m _).mono ?_; rintro _ _ ⟨rfl, rfl⟩; rw [H2.out]))
    go_ret
    exact newCmps_no Hs.out (by (repeat (with_reducible first | exact Below.refl _ _ | assumption | refine ba ?_ _ | refine bd ?_ | refine bdN ?_ _ | refine bs ?_ (by first | exact Nat.le_refl _ | (dsimp only; omega) | (simp; done)) _ | refine bt ?_ (by assumption))))
  have H1 := Lib.hid h1
  have H2 := Lib.hid h2
  have Hs := Lib.hid (compileTree_yes h1 h2)
  have h12 : ps.length ≤ 12 := by have := (okTree_all h1).2.2; simpa using this
  have Hin := Lib.hid (fun f hf => okTree_in h1 (f := f) hf)
  clear h1 h2
  go_enter Try.func45, Try.ntmps45
  go_wp2_with (first
    | (go_at_call 51; refine (impl_ValidTree _ _ _ _ (HF.out.below (by (repeat (with_reducible first | exact Below.refl _ _ | assumption | refine ba ?_ _ | refine bd ?_ | refine bdN ?_ _ | refine bs ?_ (by first | exact Nat.le_refl _ | (dsimp only; omega) | (simp; done)) _ | refine bt ?_ (by assumption))))) Hz8.out).mono ?_; rintro _ w5 ⟨rfl, hb5⟩; rw [H1.out]; have Hx5 := Lib.hid (Hb0.out.step hb5); have x0 : w5.cell? ⟨w.heap.size, 0, none⟩ = some (.slice aa ps.length ca) := Hx5.out.cell 0)
    | (go_at_call 100; refine (impl_validMode m _).mono ?_; rintro _ _ ⟨rfl, rfl⟩; rw [H2.out]))
  clear x0 hb5
  go_loopw [5, 19] (fun ov iv wr => ∃ (k : Nat) (qs : List (Cmp × Value)), k ≤ ps.length ∧ iv = .int .i64 k ∧ qs.map (·.1) = ((ps.map (·.1)).take k).map (fun f => compiled f m) ∧ OwnCmps wr (w.heap.size + 1) ov qs ∧ Boxed w #[.slice aa ps.length ca] 33 wr) (fun _ iv _ => ps.length - (intOf iv).toNat)
  case atStart => exact ⟨0, [], by omega, rfl, rfl, ⟨World.ownsRow_nil _ _ _ _, OwnCmpBodies.nil _ _⟩, Hx5.out⟩
  case round =>
    obtain ⟨k, qs, hk, rfl, hqs, hown, hbx⟩ := hrel
    obtain ⟨oa, oc, rfl⟩ := hown.len
    have hbel := hbx.below
    have hsz := hbx.lt
    have hql : qs.length ≤ 12 := by
      have h := congrArg List.length hqs
      simp at h
      omega
    have Hqs := Lib.hid hqs
    have Hown := Lib.hid hown
    have Hbx := Lib.hid hbx
    clear hqs hown hbx Hx5
    by_cases hlt : k < ps.length
    · have hrow := (H.out.below hbel).1
      obtain ⟨g, cap, e1, hg, hg2⟩ := hrow.form (by omega)
      simp only [Value.slice.injEq] at e1
      obtain ⟨rfl, _, rfl⟩ := e1
      obtain ⟨⟨c0, c1, c2, c3, c4, c5⟩, _⟩ := own6 hrow k hlt
      have Hbody := Lib.hid ((H.out.below hbel).2.1 _ (List.getElem_mem hlt))
      have hmem : ps[k].1 ∈ ps.map (·.1) := List.mem_map.2 ⟨_, List.getElem_mem hlt, rfl⟩
      have Hzk := Lib.hid (Hz.out _ hmem)
      have hlk := Hl.out.2 _ hmem
      have Hok := Lib.hid (Hin.out _ hmem)
      have Hsn := Lib.hid (show ((ps.map (·.1)).take (k + 1)).map (fun f => compiled f m) = ((ps.map (·.1)).take k).map (fun f => compiled f m) ++ [compiled ps[k].1 m] by
        rw [List.take_succ_eq_append_getElem (by simpa using hlt), List.map_append]; simp)
      obtain ⟨p, hp⟩ : ∃ p, p = ps[k] := ⟨_, rfl⟩
      rw [← hp] at c0 c1 c2 c3 c4 c5 Hbody Hzk Hok Hsn hlk
      clear hp hrow hg hg2 hmem
      obtain ⟨⟨fr, fp, fn, fi, fst, fb⟩, bv⟩ := p
      dsimp only at c0 c1 c2 c3 c4 c5 Hbody Hzk Hok Hsn hlk
      obtain ⟨ab, cb, rfl⟩ := owns_shape Hbody.out
      have Hcomp := Lib.hid (compile_yes Hok.out H2.out)
      have Hb5 := Lib.hid (show Below wr.heap.size wr (wr.alloc (.cells #[.int .i64 fr, .string (mk fp), .string (mk fn), .bool fi, .int .i64 fst, .slice ab fb.length cb] 55)) by (repeat (with_reducible first | exact Below.refl _ _ | assumption | refine ba ?_ _ | refine bd ?_ | refine bdN ?_ _ | refine bs ?_ (by first | exact Nat.le_refl _ | (dsimp only; omega) | (simp; done)) _ | refine bt ?_ (by assumption))))
      have Hbe := Lib.hid hbel
      have hk1 : (k : Int) < (ps.length : Int) := by omega
      have hk0 : (0 : Int) ≤ (k : Int) := by omega
      clear hbel
      go_wp2_with fail
      refine (impl_CompileFile fr fst fp fn fi _ fb m 0 _ (owns_mono (owns_below Hbody.out Hb5.out) (Nat.zero_le _)) Hzk.out hlk).mono ?_
      rintro _ w6 ⟨v6, rfl, hown6, hb6⟩
      rw [Hcomp.out] at hown6 ⊢
      unfold compiled at hown6 ⊢
      dsimp only at hown6 ⊢
      obtain ⟨a6, c6, rfl⟩ := owns_shape hown6
      have Hb6 := Lib.hid (bt Hb5.out hb6)
      have hz6 := Hb6.out.size
      have Hown6 := Lib.hid (owns_mono hown6 Hb5.out.size)
      clear hown6 hb6 c0 c1 c2 c3 c4 c5
      go_wp2_with (at_builtin; refine wpList_append_own _ rfl _ _ 28 rfl (w.heap.size + 1) 53 i0 _ 8 88 Try.underlying28 Hi.out Hz0.out Hz1.out Hz2.out rfl (by decide) _ qs.length _ rfl ((owns_below Hown.out.1 Hb6.out).alloc _) ⟨_, 0, none⟩ 1 1 (cmpCells ((⟨fr, modName ⟨fr, fp, fn, fi, fst, fb⟩, fi, m, fst, (sizeSum fb : Nat), hashOf fb, fb⟩ : Cmp), Value.slice a6 fb.length c6)) rfl rfl ?_ (cmp_one _ ⟨_, _, _, rfl⟩) (by unfold maxLen; omega) (by omega) (by simp; omega) ?_; (exact ct_cells _ (cmpCells ((⟨fr, modName ⟨fr, fp, fn, fi, fst, fb⟩, fi, m, fst, (sizeSum fb : Nat), hashOf fb, fb⟩ : Cmp), Value.slice a6 fb.length c6)).toArray _ _ (by first | rfl | simp)); intro v7 w7 hown7 hgrow7 hnil7)
      have HbW := Lib.hid (show Below wr.heap.size wr (w6.alloc (.cells (cmpCells ((⟨fr, modName ⟨fr, fp, fn, fi, fst, fb⟩, fi, m, fst, (sizeSum fb : Nat), hashOf fb, fb⟩ : Cmp), Value.slice a6 fb.length c6)).toArray 53)) from ba Hb6.out _)
      have Hx7 := Lib.hid (ct_first Hbx.out HbW.out hgrow7 (fun g hg => (Hown.out.1.lt g hg).1))
      have Hf7 := Lib.hid (cmps_snoc (q := ((⟨fr, modName ⟨fr, fp, fn, fi, fst, fb⟩, fi, m, fst, (sizeSum fb : Nat), hashOf fb, fb⟩ : Cmp), Value.slice a6 fb.length c6)) Hown.out HbW.out (by omega) (Hown6.out.alloc _) hgrow7 hown7)
      have Hmp7 := Lib.hid (show (qs ++ [((⟨fr, modName ⟨fr, fp, fn, fi, fst, fb⟩, fi, m, fst, (sizeSum fb : Nat), hashOf fb, fb⟩ : Cmp), Value.slice a6 fb.length c6)]).map (·.1) = ((ps.map (·.1)).take (k + 1)).map (fun f => compiled f m) by rw [List.map_append, Hqs.out, Hsn.out]; rfl)
      clear hown7 hgrow7 hnil7
      go_roundw
      case rel => exact ⟨k + 1, _, by omega, by go_num, Hmp7.out, Hf7.out, Hx7.out⟩
      case measure => simp [intOf]; omega
    · obtain rfl : k = ps.length := by omega
      have Hf := Lib.hid (show qs.map (·.1) = compileTree (ps.map (·.1)) m by rw [Hqs.out, Hs.out, List.take_of_length_le (by simp)])
      go_wp2_with fail
      go_ret
      exact ⟨_, qs, rfl, Hf.out, Hown.out.mono (by omega), hbel⟩
set_option maxRecDepth 100000 in
set_option maxHeartbeats 4000000 in
theorem spec_CompileTree (v : Value) (fs : List Fil) (ps : List (Fil × Value)) (m : Int) (B : Nat) (w : World) (h : RowsFB w B v ps) (hps : ps.map (·.1) = fs) (hz : ShortT 1048576 fs) (hl : filsCost' fs) :
    Calls Try.prog 46 #[.agg #[v], .int .i64 m] w (NewCmps (compileTree fs m) w) := by
  subst hps
  obtain ⟨i0, hi, hz0, hz1, hz2⟩ := info_parts infoCmp
  have Hi := Lib.hid hi
  have Hz0 := Lib.hid hz0
  have Hz1 := Lib.hid hz1
  have Hz2 := Lib.hid hz2
  have H := Lib.hid h
  have Hz := Lib.hid hz
  have Hl := Lib.hid hl
  have HF := Lib.hid (h.fils (D := fun _ => True) (fun _ _ => trivial))
  have Hz8 := Lib.hid (shortT_mono (B := 3000000) (by omega) hz)
  obtain ⟨aa, ca, rfl⟩ := h.len
  clear h hz hl hi hz0 hz1 hz2
  have Hb0 := Lib.hid (Boxed.start w #[.slice aa ps.length ca] 33)
  cases h1 : okTree (ps.map (·.1))
  · have H1 := Lib.hid h1
    have Hs := Lib.hid (compileTree_no (t := ps.map (·.1)) (m := m) (by rw [h1]; rfl))
    clear h1
    go_enter Try.func46, Try.ntmps46
    go_wp2_with (go_at_call 59; refine (spec_validTree _ _ _ _ (HF.out.below (by (repeat (with_reducible first | exact Below.refl _ _ | assumption | refine ba ?_ _ | refine bd ?_ | refine bdN ?_ _ | refine bs ?_ (by first | exact Nat.le_refl _ | (dsimp only; omega) | (simp; done)) _ | refine bt ?_ (by assumption))))) Hz8.out).mono ?_; rintro _ w5 ⟨rfl, hb5⟩; rw [H1.out])
    go_ret
    exact newCmps_no Hs.out (by (repeat (with_reducible first | exact Below.refl _ _ | assumption | refine ba ?_ _ | refine bd ?_ | refine bdN ?_ _ | refine bs ?_ (by first | exact Nat.le_refl _ | (dsimp only; omega) | (simp; done)) _ | refine bt ?_ (by assumption))))
  cases h2 : inr m 0 2
  · have H1 := Lib.hid h1
    have H2 := Lib.hid h2
    have Hs := Lib.hid (compileTree_no (t := ps.map (·.1)) (m := m) (by rw [h2, Bool.and_false]))
    clear h1 h2
    go_enter Try.func46, Try.ntmps46
    go_wp2_with (first
      | (go_at_call 59; refine (spec_validTree _ _ _ _ (HF.out.below (by (repeat (with_reducible first | exact Below.refl _ _ | assumption | refine ba ?_ _ | refine bd ?_ | refine bdN ?_ _ | refine bs ?_ (by first | exact Nat.le_refl _ | (dsimp only; omega) | (simp; done)) _ | refine bt ?_ (by assumption))))) Hz8.out).mono ?_; rintro _ w5 ⟨rfl, hb5⟩; rw [H1.out])
      | (go_at_call 104; refine (spec_inRange' m 0 2 _).mono ?_; rintro _ _ ⟨rfl, rfl⟩; rw [H2.out]))
    go_ret
    exact newCmps_no Hs.out (by (repeat (with_reducible first | exact Below.refl _ _ | assumption | refine ba ?_ _ | refine bd ?_ | refine bdN ?_ _ | refine bs ?_ (by first | exact Nat.le_refl _ | (dsimp only; omega) | (simp; done)) _ | refine bt ?_ (by assumption))))
  have H1 := Lib.hid h1
  have H2 := Lib.hid h2
  have Hs := Lib.hid (compileTree_yes h1 h2)
  have h12 : ps.length ≤ 12 := by have := (okTree_all h1).2.2; simpa using this
  have Hin := Lib.hid (fun f hf => okTree_in h1 (f := f) hf)
  clear h1 h2
  go_enter Try.func46, Try.ntmps46
  go_wp2_with (first
    | (go_at_call 59; refine (spec_validTree _ _ _ _ (HF.out.below (by (repeat (with_reducible first | exact Below.refl _ _ | assumption | refine ba ?_ _ | refine bd ?_ | refine bdN ?_ _ | refine bs ?_ (by first | exact Nat.le_refl _ | (dsimp only; omega) | (simp; done)) _ | refine bt ?_ (by assumption))))) Hz8.out).mono ?_; rintro _ w5 ⟨rfl, hb5⟩; rw [H1.out]; have Hx5 := Lib.hid (Hb0.out.step hb5); have hz5 := Hx5.out.lt)
    | (go_at_call 104; refine (spec_inRange' m 0 2 _).mono ?_; rintro _ _ ⟨rfl, rfl⟩; rw [H2.out]))
  clear hb5
  go_loopw [5, 6] (fun ov iv wr => ∃ (k : Nat) (qs : List (Cmp × Value)), k ≤ ps.length ∧ iv = .int .i64 k ∧ qs.map (·.1) = ((ps.map (·.1)).take k).map (fun f => compiled f m) ∧ OwnCmps wr (w.heap.size + 1) ov qs ∧ Boxed w #[.slice aa ps.length ca] 33 wr) (fun _ iv _ => ps.length - (intOf iv).toNat)
  case atStart => exact ⟨0, [], by omega, rfl, rfl, ⟨World.ownsRow_made (base := w.heap.size + 1) (size := 8) (e := 53) _ #[] 0 (by omega) (by unfold maxLen; omega) (by simp), OwnCmpBodies.nil _ _⟩, Hx5.out.step (ba (Below.refl _ _) _)⟩
  case round =>
    obtain ⟨k, qs, hk, rfl, hqs, hown, hbx⟩ := hrel
    obtain ⟨oa, oc, rfl⟩ := hown.len
    have hbel := hbx.below
    have hsz := hbx.lt
    have x0 : wr.cell? ⟨w.heap.size, 0, none⟩ = some (.slice aa ps.length ca) := hbx.cell 0
    have hql : qs.length ≤ 12 := by
      have h := congrArg List.length hqs
      simp at h
      omega
    have Hqs := Lib.hid hqs
    have Hown := Lib.hid hown
    have Hbx := Lib.hid hbx
    clear hqs hown hbx Hx5 hz5
    by_cases hlt : k < ps.length
    · have hrow := (H.out.below hbel).1
      obtain ⟨g, cap, e1, hg, hg2⟩ := hrow.form (by omega)
      simp only [Value.slice.injEq] at e1
      obtain ⟨rfl, _, rfl⟩ := e1
      obtain ⟨⟨c0, c1, c2, c3, c4, c5⟩, _⟩ := own6 hrow k hlt
      have Hbody := Lib.hid ((H.out.below hbel).2.1 _ (List.getElem_mem hlt))
      have hmem : ps[k].1 ∈ ps.map (·.1) := List.mem_map.2 ⟨_, List.getElem_mem hlt, rfl⟩
      have Hzk := Lib.hid (Hz.out _ hmem)
      have hlk := Hl.out.2 _ hmem
      have Hok := Lib.hid (Hin.out _ hmem)
      have Hsn := Lib.hid (show ((ps.map (·.1)).take (k + 1)).map (fun f => compiled f m) = ((ps.map (·.1)).take k).map (fun f => compiled f m) ++ [compiled ps[k].1 m] by
        rw [List.take_succ_eq_append_getElem (by simpa using hlt), List.map_append]; simp)
      obtain ⟨p, hp⟩ : ∃ p, p = ps[k] := ⟨_, rfl⟩
      rw [← hp] at c0 c1 c2 c3 c4 c5 Hbody Hzk Hok Hsn hlk
      clear hp hrow hg hg2 hmem
      obtain ⟨⟨fr, fp, fn, fi, fst, fb⟩, bv⟩ := p
      dsimp only at c0 c1 c2 c3 c4 c5 Hbody Hzk Hok Hsn hlk
      obtain ⟨ab, cb, rfl⟩ := owns_shape Hbody.out
      have Hobody := Lib.hid (show okBody fb = true from okFil_body Hok.out)
      have Hb5 := Lib.hid (Below.refl wr.heap.size wr)
      have Hbe := Lib.hid hbel
      have hk1 : (k : Int) < (ps.length : Int) := by omega
      have hk0 : (0 : Int) ≤ (k : Int) := by omega
      clear hbel
      go_wp2_with fail
      refine (spec_compiled fr fst fp fn fi _ fb m 0 _ (owns_mono (owns_below Hbody.out Hb5.out) (Nat.zero_le _)) Hzk.out hlk Hobody.out).mono ?_
      rintro _ w6 ⟨v6, rfl, hown6, hb6⟩
      unfold compiled at hown6 ⊢
      dsimp only at hown6 ⊢
      obtain ⟨a6, c6, rfl⟩ := owns_shape hown6
      clear x0
      have Hb6 := Lib.hid (bt Hb5.out hb6)
      have hz6 := Hb6.out.size
      have Hown6 := Lib.hid (owns_mono hown6 Hb5.out.size)
      clear hown6 hb6 c0 c1 c2 c3 c4 c5
      go_wp2_with (at_builtin; refine wpList_append_own _ rfl _ _ 28 rfl (w.heap.size + 1) 53 i0 _ 8 88 Try.underlying28 Hi.out Hz0.out Hz1.out Hz2.out rfl (by decide) _ qs.length _ rfl ((owns_below Hown.out.1 Hb6.out).alloc _) ⟨_, 0, none⟩ 1 1 (cmpCells ((⟨fr, modName ⟨fr, fp, fn, fi, fst, fb⟩, fi, m, fst, (sizeSum fb : Nat), hashOf fb, fb⟩ : Cmp), Value.slice a6 fb.length c6)) rfl rfl ?_ (cmp_one _ ⟨_, _, _, rfl⟩) (by unfold maxLen; omega) (by omega) (by simp; omega) ?_; (exact ct_cells _ (cmpCells ((⟨fr, modName ⟨fr, fp, fn, fi, fst, fb⟩, fi, m, fst, (sizeSum fb : Nat), hashOf fb, fb⟩ : Cmp), Value.slice a6 fb.length c6)).toArray _ _ (by first | rfl | simp)); intro v7 w7 hown7 hgrow7 hnil7)
      have HbW := Lib.hid (show Below wr.heap.size wr (w6.alloc (.cells (cmpCells ((⟨fr, modName ⟨fr, fp, fn, fi, fst, fb⟩, fi, m, fst, (sizeSum fb : Nat), hashOf fb, fb⟩ : Cmp), Value.slice a6 fb.length c6)).toArray 53)) from ba Hb6.out _)
      have Hx7 := Lib.hid (ct_first Hbx.out HbW.out hgrow7 (fun g hg => (Hown.out.1.lt g hg).1))
      have Hf7 := Lib.hid (cmps_snoc (q := ((⟨fr, modName ⟨fr, fp, fn, fi, fst, fb⟩, fi, m, fst, (sizeSum fb : Nat), hashOf fb, fb⟩ : Cmp), Value.slice a6 fb.length c6)) Hown.out HbW.out (by omega) (Hown6.out.alloc _) hgrow7 hown7)
      have Hmp7 := Lib.hid (show (qs ++ [((⟨fr, modName ⟨fr, fp, fn, fi, fst, fb⟩, fi, m, fst, (sizeSum fb : Nat), hashOf fb, fb⟩ : Cmp), Value.slice a6 fb.length c6)]).map (·.1) = ((ps.map (·.1)).take (k + 1)).map (fun f => compiled f m) by rw [List.map_append, Hqs.out, Hsn.out]; rfl)
      clear hown7 hgrow7 hnil7
      go_roundw
      case rel => exact ⟨k + 1, _, by omega, by go_num, Hmp7.out, Hf7.out, Hx7.out⟩
      case measure => simp [intOf]; omega
    · obtain rfl : k = ps.length := by omega
      have Hf := Lib.hid (show qs.map (·.1) = compileTree (ps.map (·.1)) m by rw [Hqs.out, Hs.out, List.take_of_length_le (by simp)])
      go_wp2_with fail
      go_ret
      exact ⟨_, qs, rfl, Hf.out, Hown.out.mono (by omega), hbel⟩
end Go.Proofs.Ytomdmkhgkaalnaa
