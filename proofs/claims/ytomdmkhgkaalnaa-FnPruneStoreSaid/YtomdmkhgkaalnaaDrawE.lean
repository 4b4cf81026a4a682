/- The function that draws a store and a tree, which may lack its first file, for a law. -/
import Derived.Test.YtomdmkhgkaalnaaDrawL
set_option linter.unusedVariables false
set_option linter.unusedSimpArgs false
namespace Go.Proofs.Ytomdmkhgkaalnaa
open Go.RowKit Go.Proofs.Ytomdmkhgkaalnaa.Nm

/-- The slice v reads as the files of ps, whose bodies are rows from block B on. -/
def TreeR (w : World) (B : Nat) (v : Value) (ps : List (Fil × Value)) : Prop :=
  (∃ a cap, v = .slice a ps.length cap ∧ ps.length ≤ cap ∧ cap ≤ maxLen) ∧ (∀ p ∈ ps, w.ownsRow B 124 5 p.2 p.1.body.length (p.1.body.flatMap stmCells)) ∧
  (0 < ps.length → ∃ g off cap, v = .slice (some ⟨g, off, none⟩) ps.length cap ∧ g < w.heap.size ∧ ∀ k (h : k < ps.length),
    w.cell? ⟨g, off + k * 6, none⟩ = some (.int .i64 ps[k].1.root) ∧ w.cell? ⟨g, off + k * 6 + 1, none⟩ = some (.string (mk ps[k].1.pack)) ∧ w.cell? ⟨g, off + k * 6 + 2, none⟩ = some (.string (mk ps[k].1.name)) ∧
    w.cell? ⟨g, off + k * 6 + 3, none⟩ = some (.bool ps[k].1.init) ∧ w.cell? ⟨g, off + k * 6 + 4, none⟩ = some (.int .i64 ps[k].1.stamp) ∧ w.cell? ⟨g, off + k * 6 + 5, none⟩ = some ps[k].2)
theorem TreeR.len {w : World} {B : Nat} {v : Value} {ps : List (Fil × Value)} (h : TreeR w B v ps) : ∃ a cap, v = .slice a ps.length cap := by
  obtain ⟨⟨a, c, e, _⟩, _⟩ := h
  exact ⟨a, c, e⟩
theorem TreeR.below {w w' : World} {B : Nat} {v : Value} {ps : List (Fil × Value)} (h : TreeR w B v ps) (hb : Below w.heap.size w w') : TreeR w' B v ps := by
  refine ⟨h.1, fun p hp => owns_below (h.2.1 p hp) hb, fun h0 => ?_⟩
  obtain ⟨g, off, cap, e, hg, hc⟩ := h.2.2 h0
  refine ⟨g, off, cap, e, Nat.lt_of_lt_of_le hg hb.size, fun k hk => ?_⟩
  have hcell : ∀ o, w'.cell? ⟨g, o, none⟩ = w.cell? ⟨g, o, none⟩ := fun o => hb.cell (p := ⟨g, o, none⟩) hg
  simp only [hcell]
  exact hc k hk
theorem TreeR.fils {w : World} {B : Nat} {v : Value} {ps : List (Fil × Value)} (h : TreeR w B v ps) : FilsIn w (fun _ => True) v (ps.map (·.1)) := by
  obtain ⟨⟨a, cap, e, h1, h2⟩, hb, hc⟩ := h
  refine ⟨a, cap, by rw [List.length_map]; exact e, by rw [List.length_map]; exact h1, h2, fun h0 => ?_⟩
  rw [List.length_map] at h0
  obtain ⟨g, off, cap', e', hg, hk⟩ := hc h0
  rw [e] at e'
  simp only [Value.slice.injEq] at e'
  refine ⟨g, off, e'.1, trivial, hg, fun i hi => ?_⟩
  rw [List.length_map] at hi
  simp only [List.getElem_map]
  exact ⟨ps[i].2, StmsIn.of_owns (hb _ (List.getElem_mem hi)) (fun _ _ => trivial), hk i hi⟩
/-- Own files lie so .. -/
theorem TreeR.of {w : World} {B : Nat} {v : Value} {ps : List (Fil × Value)} (h : OwnFils w B v ps) : TreeR w B v ps := by
  obtain ⟨a, cap, e, h1, h2⟩ := (h.fils (D := fun _ => True) (fun _ _ => trivial)).len
  rw [List.length_map] at e h1
  refine ⟨⟨a, cap, e, h1, h2⟩, h.2.1, fun h0 => ?_⟩
  obtain ⟨g, cap', e1, hg, hg2⟩ := h.1.form h0
  subst e1
  refine ⟨g, 0, cap', rfl, (h.1.lt g rfl).2, fun k hk => ?_⟩
  obtain ⟨hc, _⟩ := own6 h.1 k hk
  simp only [Nat.zero_add]
  exact hc
/-- .. and so do they without the first one. -/
theorem TreeR.tail {w : World} {B g n cap : Nat} {p0 : Fil × Value} {tl : List (Fil × Value)} {a : Option Addr} (hn : n = tl.length + 1) (h : OwnFils w B (.slice (some ⟨g, 0, none⟩) n cap) (p0 :: tl)) (hcap : n ≤ cap) (hm : cap ≤ maxLen) (ha : 0 < tl.length → a = some ⟨g, 6, none⟩) :
    TreeR w B (.slice a (n - 1) (cap - 1)) tl := by
  subst hn
  refine ⟨⟨a, cap - 1, rfl, by omega, by omega⟩, fun p hp => h.2.1 p (List.mem_cons_of_mem _ hp), fun h0 => ?_⟩
  rw [ha h0]
  refine ⟨g, 6, cap - 1, rfl, (h.1.lt g rfl).2, fun k hk => ?_⟩
  obtain ⟨hc, _⟩ := own6 h.1 (k + 1) (by simpa using hk)
  rw [show (k + 1) * 6 = 6 + k * 6 by omega] at hc
  simpa using hc
theorem OwnFils.drewE {w : World} {B : Nat} {v : Value} {ps : List (Fil × Value)} (h : OwnFils w B v ps) : OwnFils w.drew B v ps := h.below ⟨rfl, rfl, rfl, Nat.le_refl _, fun _ _ => rfl⟩
set_option maxRecDepth 100000 in
set_option maxHeartbeats 4000000 in
theorem spec_DrawPruneStore (a : Option Addr) (n cap : Nat) (w : World) (hc : Code w w.heap.size a n cap) :
    Calls Try.prog 54 #[.slice a n cap] w fun e w' => ∃ lv qs v ps, e = .returned (.tuple #[lv, .agg #[v]]) ∧ StoreD w w' lv qs ∧ TreeR w' w.heap.size v ps ∧ ShortT 8 (ps.map (·.1)) ∧ ps.length ≤ 10 ∧ (∀ p ∈ ps, p.1.body.length ≤ 4) ∧ Below w.heap.size w w' := by
  go_enter Try.func54, Try.ntmps54
  go_wp2_with fail
  refine (spec_newReader a n cap _ (code_alloc hc _)).mono ?_
  rintro e w1 ⟨rfl, hr, hb⟩
  have hz := hb.size
  have Hb1 := Lib.hid (show Below (w.heap.size + 1) (w.alloc (.cells #[.slice none 0 0] 33)) w1 from by simpa using hb)
  have hz1 : w.heap.size + 1 ≤ w1.heap.size := by simp at hz; omega
  simp only [World.size_alloc] at hr hz ⊢
  have hRlt := hr.lt
  clear hb
  go_wp2_with fail
  refine (spec_anyStore _ 0 _ hr (by omega)).mono ?_
  rintro e w2 ⟨lv, qs, tv, ps, rfl, hlist, hfine, hl, htree, hsh, hp10, hb4, q2, hq2, hr2, hg2⟩
  obtain ⟨la, lc, rfl⟩ := hlist.len
  obtain ⟨oa, oc, rfl⟩ := len1D htree
  have L2 := Lib.hid (hlist.below (ba (Below.refl _ _) (.cells #[.slice oa ps.length oc] 33)))
  have T2 := Lib.hid (htree.below (ba (Below.refl _ _) (.cells #[.slice oa ps.length oc] 33)))
  have Hfine := Lib.hid hfine
  have Hsh := Lib.hid (shortT_pairs.1 hsh)
  have Hb4 := Lib.hid hb4
  have hz2 := hg2.size
  have X2 : Dst w1 (w.heap.size + 1) w2.heap.size #[.slice oa ps.length oc] (w2.alloc (.cells #[.slice oa ps.length oc] 33)) := by
    obtain ⟨h1, h2, h3, h4, h5⟩ := Dst.start (w := w2) hr2.lt #[.slice oa ps.length oc] 33
    exact ⟨h1, h2, gb_trans hg2 h3, h4, by omega⟩
  have HX2 := Lib.hid X2
  have hr2' := hr2.alloc (.cells #[.slice oa ps.length oc] 33)
  have hR2 := hr2.lt
  have Hlow := Lib.hid (fun b (hb : (Value.slice oa ps.length oc).ownBlock = some b ∨ ∃ q ∈ ps, q.2.ownBlock = some b) => (show b < w2.heap.size by rcases hb with hb | ⟨q, hq, hb⟩; exact (owns_block htree.1 hb).2; exact (owns_block (htree.2.1 q hq) hb).2))
  have HlowL := Lib.hid (fun b (hb : (Value.slice la qs.length lc).ownBlock = some b ∨ ∃ q ∈ qs, q.2.ownBlock = some b) => (show b < w2.heap.size by rcases hb with hb | ⟨q, hq, hb⟩; exact (owns_block hlist.1 hb).2; exact (owns_block (hlist.2.1 q hq) hb).2))
  obtain ⟨ta, tc, te, hcap, hmax⟩ := (htree.fils (D := fun _ => True) (fun _ _ => trivial)).len
  rw [List.length_map] at te hcap
  simp only [Value.slice.injEq] at te
  have hoc : oc = tc := te.2.2
  subst hoc
  clear te
  clear hlist hfine htree hsh hb4 hg2 X2 hr hr2
  obtain ⟨n0, hn0⟩ : ∃ n0, n0 = ps.length := ⟨_, rfl⟩
  obtain ⟨ql, hql⟩ : ∃ ql, ql = qs.length := ⟨_, rfl⟩
  have Hn0 := Lib.hid hn0
  have Hql := Lib.hid hql
  rw [← hn0] at T2 HX2 hr2' hp10 Hlow hcap L2 ⊢
  rw [← hql] at L2 hl HlowL ⊢
  clear hn0 hql
  obtain ⟨X, hX⟩ : ∃ X, X = w2.heap.size := ⟨_, rfl⟩
  obtain ⟨w4, hw4⟩ : ∃ w4, w4 = w2.alloc (.cells #[.slice oa n0 oc] 33) := ⟨_, rfl⟩
  rw [← hw4] at L2 T2 HX2 hr2'
  rw [← hX] at HX2 hz2 hR2 Hlow HlowL
  have HW4 := Lib.hid hw4
  have HXs := Lib.hid hX
  have x0 : w4.cell? ⟨X, 0, none⟩ = some (.slice oa n0 oc) := HX2.out.1.2 0
  have xf : w4.frozen? ⟨X, 0, none⟩ = false := HX2.out.2.1 0
  have hXw : X ≠ w.heap.size := by omega
  have hwX : w.heap.size ≠ X := by omega
  clear hw4 hX
  -- what is answered, from the world ahead of the last store on
  have Fin := Lib.hid (show ∀ (w' : World) (v' : Value) (rs : List (Fil × Value)), (∀ u : Value, TreeR ((w'.setCell ⟨w.heap.size, 0, none⟩ u).drew) w.heap.size v' rs) → (∀ p ∈ rs, p ∈ ps) → rs.length ≤ 10 → RowsC8 w' w1.heap.size (.slice la ql lc) qs → Dst w1 (w.heap.size + 1) X #[v'] w' →
      ∃ lv qs v ps, Ending.returned (.tuple #[.slice la ql lc, .agg #[v']]) = .returned (.tuple #[lv, .agg #[v]]) ∧ StoreD w ((w'.setCell ⟨w.heap.size, 0, none⟩ v').drew) lv qs ∧ TreeR ((w'.setCell ⟨w.heap.size, 0, none⟩ v').drew) w.heap.size v ps ∧ ShortT 8 (ps.map (·.1)) ∧ ps.length ≤ 10 ∧ (∀ p ∈ ps, p.1.body.length ≤ 4) ∧ Below w.heap.size w ((w'.setCell ⟨w.heap.size, 0, none⟩ v').drew) from fun w' v' rs h1 h2 h3 h4 h5 =>
    ⟨_, qs, _, rs, rfl, ⟨((h4.set_low (p := ⟨w.heap.size, 0, none⟩) (by dsimp only; omega) v').drewJ).mono (by omega), Hfine.out, by have := Hql.out; omega⟩, h1 v', shortT_pairs.2 (fun p hp => Hsh.out p (h2 p hp)), h3, fun p hp => Hb4.out p (h2 p hp), by
      have h6 : Below (w.heap.size + 1) (w.alloc (.cells #[.slice none 0 0] 33)) w' := below_gb Hb1.out (by omega) (by omega) h5.2.2.1
      have X3 : Boxed w #[.slice none 0 0] 33 w' := by unfold Boxed; simpa using h6
      exact bd (bs X3.below (Nat.le_refl _) _)⟩)
  have Res := Lib.hid (show ∀ w' : World, w1.grownBy w' (some (w.heap.size + 1)) → w'.cell? ⟨w.heap.size, 0, none⟩ = some (.slice none 0 0) ∧ w'.frozen? ⟨w.heap.size, 0, none⟩ = false from fun w' hg => by
    have h6 : Below (w.heap.size + 1) (w.alloc (.cells #[.slice none 0 0] 33)) w' := below_gb Hb1.out (by omega) (by omega) hg
    have X3 : Boxed w #[.slice none 0 0] 33 w' := by unfold Boxed; simpa using h6
    exact ⟨X3.cell 0, by have := X3.frozen (p := ⟨w.heap.size, 0, none⟩) (by simp); rw [this]; simp [go_sem]⟩)
  have Whole := Lib.hid (show ∀ w' : World, OwnFils w' w1.heap.size (.slice oa n0 oc) ps → ∀ u : Value, TreeR ((w'.setCell ⟨w.heap.size, 0, none⟩ u).drew) w.heap.size (.slice oa n0 oc) ps from fun w' h u =>
    TreeR.of (((h.set_low (p := ⟨w.heap.size, 0, none⟩) (by dsimp only; omega) u).drewE).mono (by omega)))
  go_upto_region 3 with fail
  rw [← HW4.out, ← HXs.out]
  by_cases h0 : n0 = 0
  · subst h0
    obtain ⟨z0, zf0⟩ := Res.out _ HX2.out.2.2.1
    go_wp2_with fail
    go_region
    go_wp2_with fail
    exact bodyPost_ret (v := .tuple #[.slice la ql lc, .agg #[.slice oa 0 oc]]) (by simp [results, Try.results54, go_sem, *]) rfl (Fin.out w4 _ ps (Whole.out _ T2.out) (fun p hp => hp) (by have := Hn0.out; omega) L2.out HX2.out)
  have h0i : (0 : Int) < (n0 : Int) := by omega
  go_wp2_with fail
  refine (reader_pick _ q2 2 _ hr2' (by omega) (by omega)).mono ?_
  rintro e w5 ⟨j, rfl, hj0, hj, hr5, hg5⟩
  have L5 := Lib.hid (L2.out.gb hg5 (by omega))
  have T5 := Lib.hid (T2.out.gb hg5 (by omega))
  have X5 := Lib.hid (HX2.out.step hg5)
  clear hg5 hj L2 T2 HX2 hr2' x0 xf
  have x0 : w5.cell? ⟨X, 0, none⟩ = some (.slice oa n0 oc) := X5.out.1.2 0
  have xf : w5.frozen? ⟨X, 0, none⟩ = false := X5.out.2.1 0
  by_cases hj1 : j = 0
  · subst hj1
    have hpl : 0 < ps.length := by have := Hn0.out; omega
    obtain ⟨g, cap', e1, hg, hg2⟩ := T5.out.1.form hpl
    simp only [Value.slice.injEq] at e1
    obtain ⟨rfl, hnn, rfl⟩ := e1
    clear hnn
    have hgX : g < X := Hlow.out g (.inl rfl)
    obtain ⟨p0, tl, hps⟩ : ∃ p0 tl, ps = p0 :: tl := by
      cases ps with
      | nil => simp at hpl
      | cons p0 tl => exact ⟨p0, tl, rfl⟩
    have hn0' : n0 = tl.length + 1 := by have := Hn0.out; rw [this, hps]; rfl
    have q1 : (1 : Int) ≤ (n0 : Int) := by omega
    have q2' : (1 : Int) ≤ (oc : Int) := by omega
    have q3 : 1 ≤ n0 := by omega
    have q4 : 1 ≤ oc := by omega
    obtain ⟨ta, hta, hif⟩ : ∃ ta : Option Addr, (0 < tl.length → ta = some ⟨g, 6, none⟩) ∧ (if oc = 1 then (some ⟨g, 0, none⟩ : Option Addr) else some ⟨g, 6, none⟩) = ta := by
      by_cases h : oc = 1
      · exact ⟨some ⟨g, 0, none⟩, fun hh => by omega, by rw [if_pos h]⟩
      · exact ⟨some ⟨g, 6, none⟩, fun _ => rfl, by rw [if_neg h]⟩
    have Hta := Lib.hid hta
    clear hta
    have T6 := Lib.hid (show OwnFils (w5.setCell ⟨X, 0, none⟩ (.slice ta (n0 - 1) (oc - 1))) w1.heap.size (.slice (some ⟨g, 0, none⟩) n0 oc) ps from T5.out.set_box (fun b hb => by have := Hlow.out b hb; dsimp only; omega) _)
    have L6 := Lib.hid (show RowsC8 (w5.setCell ⟨X, 0, none⟩ (.slice ta (n0 - 1) (oc - 1))) w1.heap.size (.slice la ql lc) qs from RowsC8.set_box L5.out (fun b hb => by have := HlowL.out b hb; dsimp only; omega) _)
    have X6 := Lib.hid (show Dst w1 (w.heap.size + 1) X #[.slice ta (n0 - 1) (oc - 1)] (w5.setCell ⟨X, 0, none⟩ (.slice ta (n0 - 1) (oc - 1))) by have h := X5.out.put 0 (by simp) (.slice ta (n0 - 1) (oc - 1)); simpa using h)
    have Tl := Lib.hid (show ∀ u : Value, TreeR (((w5.setCell ⟨X, 0, none⟩ (.slice ta (n0 - 1) (oc - 1))).setCell ⟨w.heap.size, 0, none⟩ u).drew) w.heap.size (.slice ta (n0 - 1) (oc - 1)) tl from fun u => by
      have h := ((T6.out.set_low (p := ⟨w.heap.size, 0, none⟩) (by dsimp only; omega) u).drewE).mono (show w.heap.size ≤ w1.heap.size by omega)
      rw [hps] at h
      exact TreeR.tail hn0' h hcap hmax Hta.out)
    have Hsub := Lib.hid (fun p (hp : p ∈ tl) => (show p ∈ ps by rw [hps]; exact List.mem_cons_of_mem _ hp))
    have htl : tl.length ≤ 10 := by omega
    clear hps hn0'
    go_upto_region 5 with fail
    obtain ⟨z0, zf0⟩ := Res.out _ X6.out.2.2.1
    obtain ⟨w6, hw6⟩ : ∃ w6, w6 = w5.setCell ⟨X, 0, none⟩ (.slice ta (n0 - 1) (oc - 1)) := ⟨_, rfl⟩
    rw [← hw6] at T6 L6 X6 Tl z0 zf0 ⊢
    clear hw6 x0 xf
    have x0 : w6.cell? ⟨X, 0, none⟩ = some (.slice ta (n0 - 1) (oc - 1)) := X6.out.1.2 0
    go_region
    go_wp2_with fail
    exact bodyPost_ret (v := .tuple #[.slice la ql lc, .agg #[.slice ta (n0 - 1) (oc - 1)]]) (by simp [results, Try.results54, go_sem, *]) rfl (Fin.out w6 _ tl Tl.out Hsub.out htl L6.out X6.out)
  · have hjb : (j == 0) = false := by simpa using hj1
    obtain ⟨z0, zf0⟩ := Res.out _ X5.out.2.2.1
    go_wp2_with fail
    go_region
    go_wp2_with fail
    exact bodyPost_ret (v := .tuple #[.slice la ql lc, .agg #[.slice oa n0 oc]]) (by simp [results, Try.results54, go_sem, *]) rfl (Fin.out w5 _ ps (Whole.out _ T5.out) (fun p hp => hp) (by have := Hn0.out; omega) L5.out X5.out)
end Go.Proofs.Ytomdmkhgkaalnaa
