/- Contract of the model's function that removes a file of a tree. -/
import Derived.Deep.RegionLaw
import Derived.Test.YtgecemngfpgcoaaSAdds2
set_option linter.unusedVariables false
set_option linter.unusedSimpArgs false
namespace Go.Proofs.Ytgecemngfpgcoaa
open Go.RowKit Go.Proofs.Ytgecemngfpgcoaa.Nm

/-- Cells put into a row of one's own. -/
theorem owns_cells {B e size g n cap : Nat} : ∀ (vs : List Value) (o : Nat) (w : World) (xs : List Value), w.ownsRow B e size (.slice (some ⟨g, 0, none⟩) n cap) n xs → o + vs.length ≤ xs.length → (w.setCells g o vs).ownsRow B e size (.slice (some ⟨g, 0, none⟩) n cap) n (xs.take o ++ (vs ++ xs.drop (o + vs.length)))
  | [], o, w, xs, h, _ => by simpa [World.setCells] using h
  | u :: r, o, w, xs, h, hl => by
      have h1 := owns_cells r (o + 1) _ _ (h.stored o u).1 (by simp at hl ⊢; omega)
      have hlt : o < xs.length := by simp at hl; omega
      rw [World.setCells]
      have e1 : (xs.set o u).take (o + 1) = xs.take o ++ [u] := by
        rw [List.set_eq_take_append_cons_drop, if_pos hlt, List.take_append, List.length_take, Nat.min_eq_left (by omega), List.take_take, Nat.min_eq_right (by omega), show o + 1 - o = 1 by omega]
        rfl
      have e2 : (xs.set o u).drop (o + 1 + r.length) = xs.drop (o + (u :: r).length) := by
        rw [List.drop_set_of_lt (by omega)]
        simp; congr 1; omega
      rw [e1, e2] at h1
      simpa using h1
/-- The front of a row of one's own. -/
theorem owns_front {w : World} {B e size g n cap : Nat} {xs : List Value} (h : w.ownsRow B e size (.slice (some ⟨g, 0, none⟩) n cap) n xs) (i : Nat) (hi : i ≤ n) : w.ownsRow B e size (.slice (some ⟨g, 0, none⟩) i cap) i (xs.take (i * size)) := by
  have hm : i * size ≤ n * size := Nat.mul_le_mul_right _ hi
  refine ⟨by rw [List.length_take, h.1]; omega, .inr ?_⟩
  rcases h.2 with ⟨h', _⟩ | ⟨g', cap', cur, h', hb, hg, hnc, hcm, hcs, htake⟩
  · simp at h'
  · simp only [Value.slice.injEq, Option.some.injEq, Addr.mk.injEq, and_true, true_and] at h'
    obtain ⟨rfl, rfl⟩ := h'
    refine ⟨g, cap, cur, rfl, hb, hg, by omega, hcm, hcs, ?_⟩
    rw [← htake, List.take_take, Nat.min_eq_left hm]
theorem heap_setCells (b : Nat) : ∀ (vs : List Value) (o : Nat) (w : World) (x : Nat), x ≠ b → (w.setCells b o vs).heap[x]? = w.heap[x]?
  | [], _, _, _, _ => rfl
  | v :: r, o, w, x, h => by rw [World.setCells, heap_setCells b r _ _ x h]; exact Below.heap_setCell w _ v x h
theorem below_setCells {b : Nat} {w0 : World} : ∀ (vs : List Value) (o : Nat) (w : World), Below w0.heap.size w0 w → w0.heap.size ≤ b → Below w0.heap.size w0 (w.setCells b o vs)
  | [], _, _, h, _ => h
  | v :: r, o, w, h, hb => by rw [World.setCells]; exact below_setCells r _ _ (bs h hb _) hb
theorem size_setCells (b : Nat) : ∀ (vs : List Value) (o : Nat) (w : World), (w.setCells b o vs).heap.size = w.heap.size
  | [], _, _ => rfl
  | v :: r, o, w => by rw [World.setCells, size_setCells b r]; simp
theorem remFil_no1 {t : List Fil} {i : Int} (h : okTree t = false) : remFil t i = ([], false) := by unfold remFil; rw [h]; rfl
theorem remFil_no2 {t : List Fil} {i : Int} (h : inr i 0 ((t.length : Int) - 1) = false) : remFil t i = ([], false) := by unfold remFil; rw [h]; simp
theorem remFil_all {t : List Fil} {k : Nat} (h1 : okTree t = true) (h2 : inr (k : Int) 0 ((t.length : Int) - 1) = true) : remFil t k = (t.eraseIdx k, true) := by unfold remFil; rw [h1, h2]; rfl
/-- The files behind number k are put where it begins. -/
theorem fils_erase {w : World} {B g cap : Nat} {qs : List (Fil × Value)} {k : Nat} (hk : k < qs.length) (h : OwnFils w B (.slice (some ⟨g, 0, none⟩) qs.length cap) qs) :
    OwnFils (w.setCells g (k * 6) ((qs.drop (k + 1)).flatMap filCells)) B (.slice (some ⟨g, 0, none⟩) (qs.eraseIdx k).length cap) (qs.eraseIdx k) := by
  have hA := fm_take_len filCells 6 qs k hk filCells_len
  have hD : ((qs.drop (k + 1)).flatMap filCells).length = (qs.length - (k + 1)) * 6 := by rw [fm_len filCells 6 _ filCells_len, List.length_drop]
  have hX : (qs.flatMap filCells).length = qs.length * 6 := fm_len filCells 6 _ filCells_len
  have hl : (qs.eraseIdx k).length = qs.length - 1 := List.length_eraseIdx_of_lt hk
  have h1 := owns_front (owns_cells _ (k * 6) _ _ h.1 (by rw [hD, hX]; omega)) (qs.length - 1) (by omega)
  have hne : ∀ p ∈ qs, ∀ b, p.2.ownBlock = some b → b ≠ g := fun p hp b hb e => by
    subst e; exact own_types (by decide) (h.2.1 p hp) h.1 hb rfl
  refine ⟨?_, fun p hp => owns_heap (h.2.1 p (List.mem_of_mem_eraseIdx hp)) (fun b hb => heap_setCells g _ _ _ _ (hne p (List.mem_of_mem_eraseIdx hp) b hb)), h.2.2.sublist (List.eraseIdx_sublist _ _)⟩
  rw [hl]
  have e : (((qs.flatMap filCells).take (k * 6) ++ ((qs.drop (k + 1)).flatMap filCells ++ (qs.flatMap filCells).drop (k * 6 + ((qs.drop (k + 1)).flatMap filCells).length))).take ((qs.length - 1) * 6)) = (qs.eraseIdx k).flatMap filCells := by
    rw [fm_split filCells qs k hk, List.take_left' hA, ← List.append_assoc, List.take_left' (by rw [List.length_append, hA, hD]; omega), List.eraseIdx_eq_take_drop_succ, List.flatMap_append]
  rw [← e]
  exact h1
set_option maxRecDepth 100000 in
set_option maxHeartbeats 8000000 in
theorem spec_RemoveFile (v : Value) (ps : List (Fil × Value)) (i : Int) (w : World) (h : RowsF w v ps) (hz : ShortT 2000000 (ps.map (·.1))) (hl : ps.length ≤ 2000000) (hbl : ∀ p ∈ ps, p.1.body.length ≤ 1048576) :
    Calls Try.prog 47 #[.agg #[v], .int .i64 i] w (NewTreeB (remFil (ps.map (·.1)) i) w) := by
  obtain ⟨i0, hi0, hz0, hz1, hz2⟩ := info_parts infoFil
  have Hi0 := Lib.hid hi0
  have Hz1 := Lib.hid hz1
  have H := Lib.hid h
  have Hbl := Lib.hid hbl
  have Hz := Lib.hid (show ShortT 3000000 (ps.map (·.1)) from fun f hf => shortF_mono (by omega) (hz f hf))
  have Hf := Lib.hid h.fils
  have hlen : (ps.map (·.1)).length = ps.length := List.length_map ..
  obtain ⟨aa, ca, rfl⟩ := h.len
  obtain ⟨fs, hfs⟩ : ∃ fs, fs = ps.map (·.1) := ⟨_, rfl⟩
  rw [← hfs] at Hz Hf hlen ⊢
  have Hfs := Lib.hid hfs
  have Hx0 := Lib.hid (Boxed2.start w #[.slice aa ps.length ca] 25 #[.slice none 0 0] 25)
  have Hii := Lib.hid (show (fs.length : Int) - 1 = (ps.length : Int) - 1 by omega)
  clear h hbl hz hfs hi0 hz0 hz1 hz2
  cases h1 : okTree fs
  · have Hno := Lib.hid (remFil_no1 (t := fs) (i := i) h1)
    have H1 := Lib.hid h1
    clear h1
    go_enter Try.func47, Try.ntmps47
    go_wp2_with fail
    refine (spec_validTree _ fs _ _ (Hf.out.below (by (repeat (with_reducible first | exact Below.refl _ _ | assumption | refine ba ?_ _ | refine bd ?_ | refine bdN ?_ _ | refine bs ?_ (by first | exact Nat.le_refl _ | (dsimp only; omega) | (simp; done)) _ | refine bt ?_ (by assumption))))) Hz.out).mono ?_
    rintro _ w5 ⟨rfl, hb5⟩
    rw [H1.out]
    have Hx5 := Lib.hid (Hx0.out.step hb5)
    have a5 : w5.cell? ⟨w.heap.size, 0, none⟩ = some (.slice aa ps.length ca) := Hx5.out.one.cell 0
    have q0 : w5.cell? ⟨w.heap.size + 1, 0, none⟩ = some (.slice none 0 0) := Hx5.out.cell 0
    have f0 : w5.frozen? ⟨w.heap.size + 1, 0, none⟩ = false := (by have := box_free Hx5.out.two 0; simpa using this)
    have s5 := Hx5.out.lt
    clear hb5
    go_wp2_with fail
    have hbw := Hx5.out.below
    exact bodyPost_ret (v := .tuple #[.agg #[.slice none 0 0], .bool false]) (by simp [results, Try.results47, go_sem, *]) rfl (treeB_no Hno.out (by (repeat (with_reducible first | exact Below.refl _ _ | assumption | refine ba ?_ _ | refine bd ?_ | refine bdN ?_ _ | refine bs ?_ (by first | exact Nat.le_refl _ | (dsimp only; omega) | (simp; done)) _ | refine bt ?_ (by assumption)))))
  cases h2 : inr i 0 ((fs.length : Int) - 1)
  · have Hno := Lib.hid (remFil_no2 (t := fs) (i := i) h2)
    have H1 := Lib.hid h1
    have H2 := Lib.hid h2
    clear h1 h2
    go_enter Try.func47, Try.ntmps47
    go_wp2_with fail
    refine (spec_validTree _ fs _ _ (Hf.out.below (by (repeat (with_reducible first | exact Below.refl _ _ | assumption | refine ba ?_ _ | refine bd ?_ | refine bdN ?_ _ | refine bs ?_ (by first | exact Nat.le_refl _ | (dsimp only; omega) | (simp; done)) _ | refine bt ?_ (by assumption))))) Hz.out).mono ?_
    rintro _ w5 ⟨rfl, hb5⟩
    rw [H1.out]
    have Hx5 := Lib.hid (Hx0.out.step hb5)
    have a5 : w5.cell? ⟨w.heap.size, 0, none⟩ = some (.slice aa ps.length ca) := Hx5.out.one.cell 0
    have q0 : w5.cell? ⟨w.heap.size + 1, 0, none⟩ = some (.slice none 0 0) := Hx5.out.cell 0
    have f0 : w5.frozen? ⟨w.heap.size + 1, 0, none⟩ = false := (by have := box_free Hx5.out.two 0; simpa using this)
    have s5 := Hx5.out.lt
    clear hb5
    go_wp2_with fail
    refine (spec_inRange' i 0 ((ps.length : Int) - 1) _).mono ?_
    rintro _ _ ⟨rfl, rfl⟩
    rw [← Hii.out, H2.out]
    go_wp2_with fail
    have hbw := Hx5.out.below
    exact bodyPost_ret (v := .tuple #[.agg #[.slice none 0 0], .bool false]) (by simp [results, Try.results47, go_sem, *]) rfl (treeB_no Hno.out (by (repeat (with_reducible first | exact Below.refl _ _ | assumption | refine ba ?_ _ | refine bd ?_ | refine bdN ?_ _ | refine bs ?_ (by first | exact Nat.le_refl _ | (dsimp only; omega) | (simp; done)) _ | refine bt ?_ (by assumption)))))
  obtain ⟨k, hk, rfl⟩ := inr_nat h2
  have Hall := Lib.hid (remFil_all h1 h2)
  have hkp : k < ps.length := by omega
  have H1 := Lib.hid h1
  have H2 := Lib.hid h2
  clear h1 h2
  go_enter Try.func47, Try.ntmps47
  go_wp2_with fail
  refine (spec_validTree _ fs _ _ (Hf.out.below (by (repeat (with_reducible first | exact Below.refl _ _ | assumption | refine ba ?_ _ | refine bd ?_ | refine bdN ?_ _ | refine bs ?_ (by first | exact Nat.le_refl _ | (dsimp only; omega) | (simp; done)) _ | refine bt ?_ (by assumption))))) Hz.out).mono ?_
  rintro _ w5 ⟨rfl, hb5⟩
  rw [H1.out]
  have Hx5 := Lib.hid (Hx0.out.step hb5)
  have a5 : w5.cell? ⟨w.heap.size, 0, none⟩ = some (.slice aa ps.length ca) := Hx5.out.one.cell 0
  clear hb5
  go_wp2_with fail
  refine (spec_inRange' (k : Int) 0 ((ps.length : Int) - 1) _).mono ?_
  rintro _ _ ⟨rfl, rfl⟩
  rw [← Hii.out, H2.out]
  go_wp2_with fail
  refine (spec_copyTree _ ps _ (H.out.below (bt Hx5.out.below (by (repeat (with_reducible first | exact Below.refl _ _ | assumption | refine ba ?_ _ | refine bd ?_ | refine bdN ?_ _ | refine bs ?_ (by first | exact Nat.le_refl _ | (dsimp only; omega) | (simp; done)) _ | refine bt ?_ (by assumption)))))) hl Hbl.out).mono ?_
  rintro _ w7 ⟨v7, qs, rfl, hqs, hown7, hb7⟩
  rw [← Hfs.out] at hqs
  have hql : qs.length = ps.length := by have h := congrArg List.length hqs; simp at h; omega
  obtain ⟨g, cap, rfl, hg1, hg2⟩ := hown7.1.form (by omega)
  have Hx7 := Lib.hid (Hx5.out.step (show Below w5.heap.size w5 w7 by (repeat (with_reducible first | exact Below.refl _ _ | assumption | refine ba ?_ _ | refine bd ?_ | refine bdN ?_ _ | refine bs ?_ (by first | exact Nat.le_refl _ | (dsimp only; omega) | (simp; done)) _ | refine bt ?_ (by assumption)))))
  have hcl : qs.length ≤ cap ∧ cap ≤ 9223372036854775807 := by
    rcases hown7.1.2 with ⟨h', _⟩ | ⟨g', cap', cur, h', hb, hg, hnc, hcm, hcs, htake⟩
    · simp at h'
    · simp only [Value.slice.injEq, Option.some.injEq, Addr.mk.injEq, and_true, true_and] at h'
      obtain ⟨rfl, rfl⟩ := h'
      exact ⟨hnc, by unfold maxLen at hcm; omega⟩
  obtain ⟨hcap, hcm⟩ := hcl
  have Hown7 := Lib.hid (hown7.mono (show Below w5.heap.size w5 _ by (repeat (with_reducible first | exact Below.refl _ _ | assumption | refine ba ?_ _ | refine bd ?_ | refine bdN ?_ _ | refine bs ?_ (by first | exact Nat.le_refl _ | (dsimp only; omega) | (simp; done)) _ | refine bt ?_ (by assumption)))).size)
  clear hown7 hb7 a5
  have Hqs := Lib.hid hqs
  have Hql := Lib.hid hql
  rw [hql] at hcap
  rw [hql]
  clear hqs hql
  obtain ⟨W1, hW1⟩ : ∃ W1, W1 = w7.alloc (.cells #[.slice (some ⟨g, 0, none⟩) ps.length cap] 25) := ⟨_, rfl⟩
  have HW1 := Lib.hid hW1
  obtain ⟨news, hnews⟩ : ∃ l, l = (qs.drop (k + 1)).flatMap filCells := ⟨_, rfl⟩
  have hnl : news.length = (ps.length - (k + 1)) * 6 := by rw [hnews, fm_len filCells 6 _ filCells_len, List.length_drop, Hql.out]
  have HO1 := Lib.hid (show OwnFils W1.drew w5.heap.size (.slice (some ⟨g, 0, none⟩) qs.length cap) qs by rw [hW1]; exact Hown7.out.below (by (repeat (with_reducible first | exact Below.refl _ _ | assumption | refine ba ?_ _ | refine bd ?_ | refine bdN ?_ _ | refine bs ?_ (by first | exact Nat.le_refl _ | (dsimp only; omega) | (simp; done)) _ | refine bt ?_ (by assumption)))))
  have HE1 := Lib.hid (show OwnFils (W1.drew.setCells g (k * 6) news) w5.heap.size (.slice (some ⟨g, 0, none⟩) (k + (ps.length - (k + 1))) cap) (qs.eraseIdx k) by
    have h := fils_erase (by have := Hql.out; omega : k < qs.length) HO1.out
    rw [← hnews, List.length_eraseIdx_of_lt (by have := Hql.out; omega), show qs.length - 1 = k + (ps.length - (k + 1)) by have := Hql.out; omega] at h
    exact h)
  have hcell : ∀ j u, (qs.flatMap filCells)[j]? = some u → W1.drew.cell? ⟨g, j, none⟩ = some u ∧ W1.drew.frozen? ⟨g, j, none⟩ = false := fun j u h => by
    have hj := (List.getElem?_eq_some_iff.1 h).1
    have h1 := HO1.out.1.cellAt j (by rw [← HO1.out.1.1]; exact hj)
    exact ⟨h1.trans h, HO1.out.1.frozenAt j⟩
  have hal : (qs.flatMap filCells).length = ps.length * 6 := by rw [fm_len filCells 6 _ filCells_len, Hql.out]
  have hget : ∀ j, j < news.length → news[j]? = (qs.flatMap filCells)[(k + 1) * 6 + j]? := fun j hj => by
    have e : qs.flatMap filCells = (qs.take (k + 1)).flatMap filCells ++ news := by rw [hnews, ← List.flatMap_append, List.take_append_drop]
    have e2 : ((qs.take (k + 1)).flatMap filCells).length = (k + 1) * 6 := by rw [fm_len filCells 6 _ filCells_len, List.length_take, Nat.min_eq_left (by have := Hql.out; omega)]
    rw [e, List.getElem?_append_right (by omega), e2, Nat.add_sub_cancel_left]
  obtain ⟨A, hA, Hn⟩ : ∃ A : Addr, (if cap = k + 1 then some (⟨g, 0, none⟩ : Addr) else some ⟨g, (k + 1) * 6, none⟩) = some A ∧ Hid (∀ j u, news[j]? = some u → W1.drew.cell? (A.add j) = some u) := by
    by_cases h : cap = k + 1
    · refine ⟨⟨g, 0, none⟩, by simp [h], fun j u hu => ?_⟩
      have h0 : news.length = 0 := by rw [hnl]; omega
      rw [List.length_eq_zero_iff.1 h0] at hu
      simp at hu
    · refine ⟨⟨g, (k + 1) * 6, none⟩, by simp [h], fun j u hu => ?_⟩
      have hj := (List.getElem?_eq_some_iff.1 hu).1
      rw [hget j hj] at hu
      rw [Addr.add_lit]
      exact (hcell _ _ hu).1
  have s1 := Lib.hid hnl
  have s2 := Lib.hid (show ∀ u ∈ news, u.oneCell' = true from by
    intro u hu
    rw [hnews] at hu
    obtain ⟨q, hq, hu⟩ := List.mem_flatMap.1 hu
    obtain ⟨x, y, z, hv⟩ := rowsF_slices (RowsF.of Hown7.out) q (List.mem_of_mem_drop hq)
    simp [filCells, hv] at hu
    rcases hu with rfl | rfl | rfl | rfl | rfl | rfl <;> rfl)
  have s3 := Lib.hid (show ∀ j, j < news.length → (W1.drew.cell? ⟨g, 0 + k * 6 + j, none⟩).isSome = true ∧ W1.drew.frozen? ⟨g, 0 + k * 6 + j, none⟩ = false from fun j hj => by
    rw [hnl] at hj
    rw [Nat.zero_add]
    obtain ⟨u, hu⟩ : ∃ u, (qs.flatMap filCells)[k * 6 + j]? = some u := ⟨_, List.getElem?_eq_getElem (by rw [hal]; omega)⟩
    exact ⟨by rw [(hcell _ _ hu).1]; rfl, (hcell _ _ hu).2⟩)
  have hne : g ≠ w7.heap.size := by omega
  have HW2 := Lib.hid (show Below w.heap.size w (W1.drew.setCells g (0 + k * 6) news) from below_setCells _ _ _ (by rw [hW1]; have := Hx7.out.below; (repeat (with_reducible first | exact Below.refl _ _ | assumption | refine ba ?_ _ | refine bd ?_ | refine bdN ?_ _ | refine bs ?_ (by first | exact Nat.le_refl _ | (dsimp only; omega) | (simp; done)) _ | refine bt ?_ (by assumption)))) (by have := Hx5.out.lt; omega))
  have hout : ∀ (x j : Nat), x ≠ g → (W1.drew.setCells g (0 + k * 6) news).cell? ⟨x, j, none⟩ = W1.cell? ⟨x, j, none⟩ := fun x j hx => by
    rw [World.cell?_setCells_out g _ _ _ _ (fun hb => absurd hb hx)]; rfl
  have k0 : W1.cell? ⟨w7.heap.size, 0, none⟩ = some (.slice (some ⟨g, 0, none⟩) ps.length cap) := by rw [hW1]; simp [go_sem]
  have e0 : (W1.drew.setCells g (0 + k * 6) news).frozen? ⟨w7.heap.size, 0, none⟩ = false := by rw [World.frozen?_setCells, hW1]; simp [go_sem]
  have k1 := (hout w7.heap.size 0 (Ne.symm hne)).trans k0
  have hg5 : w.heap.size + 2 ≤ g := by have := Hx5.out.lt; have := (Hown7.out.1.lt g rfl).1; omega
  have q0 := (hout (w.heap.size + 1) 0 (by omega)).trans (show W1.cell? ⟨w.heap.size + 1, 0, none⟩ = some (.slice none 0 0) from by rw [hW1]; exact ((Below.refl _ w7 : Below _ w7 w7) |> fun h => ba h _).cell (p := ⟨w.heap.size + 1, 0, none⟩) Hx7.out.lt |>.trans (Hx7.out.cell 0))
  have f0 : (W1.drew.setCells g (0 + k * 6) news).frozen? ⟨w.heap.size + 1, 0, none⟩ = false := by
    rw [World.frozen?_setCells, hW1]
    exact ((ba (Below.refl w7.heap.size w7) _).frozen (p := ⟨w.heap.size + 1, 0, none⟩) Hx7.out.lt).trans (by have := box_free Hx7.out.two 0; simpa using this)
  have hwr : IntKind.i64.wrap ((k : Int) + 1) = (k : Int) + 1 := by rw [IntKind.wrap_i64]; omega
  have hp0 : (0 : Int) ≤ (k : Int) + 1 := by omega
  have hp1 : (k : Int) + 1 ≤ (ps.length : Int) := by omega
  have hp2 : ((k : Int) + 1).toNat = k + 1 := by omega
  have hic : k ≤ cap := by omega
  have hroom : k + (ps.length - (k + 1)) ≤ cap := by omega
  have hne2 : w.heap.size + 1 ≠ w7.heap.size := by have := Hx7.out.lt; omega
  have hs2 : w.heap.size + 1 < w7.heap.size := Hx7.out.lt
  have hz2 : (W1.drew.setCells g (0 + k * 6) news).heap.size = w7.heap.size + 1 := by rw [size_setCells, hW1]; simp
  rw [Nat.zero_add] at k1 e0 q0 f0 hz2
  have HW3 := Lib.hid (show Below w.heap.size w (W1.drew.setCells g (k * 6) news) by have h := HW2.out; rw [Nat.zero_add] at h; exact h)
  have Hlt := Lib.hid (show ∀ b, BlkF (.slice (some ⟨g, 0, none⟩) (k + (ps.length - (k + 1))) cap) (qs.eraseIdx k) b → w5.heap.size ≤ b ∧ b < w7.heap.size from fun b hb => by
    refine blkF_ge Hown7.out.1 (fun p hp => ⟨_, _, _, _, Hown7.out.2.1 p hp⟩) b ?_
    rcases hb with hb | ⟨q, hq, hb⟩
    · exact .inl hb
    · exact .inr ⟨q, List.mem_of_mem_eraseIdx hq, hb⟩)
  have Hem := Lib.hid (show (qs.eraseIdx k).map (·.1) = fs.eraseIdx k by rw [List.eraseIdx_eq_take_drop_succ, List.map_append, List.map_take, List.map_drop, Hqs.out, ← List.eraseIdx_eq_take_drop_succ])
  clear hW1 hnews hnl hcell hal hget hout hg1 hg2 hg5
  go_wp2_with fail
  rw [← HW1.out]
  go_region_law (refine step_append_room rfl (.tmp 25) (.tmp 30) 23 rfl 36 i0 6 Try.underlying23 Hi0.out Hz1.out g 0 k cap (by simp [Act.eval, Act.put]) A (ps.length - (k + 1)) (cap - (k + 1)) news (by simp [Act.eval, Act.put]) s1.out Hn.out s2.out hroom s3.out ?_)
  all_goals
    go_wp2_with fail
    refine bodyPost_ret (v := .tuple #[.agg #[.slice (some ⟨g, 0, none⟩) (k + (ps.length - (k + 1))) cap], .bool true]) (by simp [results, Try.results47, go_sem, *]) rfl ?_
    rw [Hall.out]
    have h5 := Hx5.out.lt
    refine ⟨_, qs.eraseIdx k, rfl, Hem.out, ?_, ?_⟩
    · refine (fils_set_other (p := ⟨w.heap.size + 1, 0, none⟩) (fils_set_other (p := ⟨w7.heap.size, 0, none⟩) HE1.out ?_ _) ?_ _).mono (by omega)
      · intro b hb; have := Hlt.out b hb; dsimp only; omega
      · intro b hb; have := Hlt.out b hb; dsimp only; omega
    · exact bs (bs HW3.out (by dsimp only; omega) _) (by dsimp only; omega) _
/-- In the words of the exact law. -/
theorem spec_RemoveFileX (v : Value) (fs : List Fil) (ps : List (Fil × Value)) (B : Nat) (i : Int) (w : World) (h : OwnFils w B v ps) (e : ps.map (·.1) = fs) (hz : ShortT 2000000 fs) (hc : filsCost' fs) :
    Calls Try.prog 47 #[.agg #[v], .int .i64 i] w (NewTreeB (remFil fs i) w) := by
  subst e
  have h1 := hc.1
  rw [List.length_map] at h1
  exact spec_RemoveFile v ps i w (RowsF.of h) hz (by omega) (fun q hq => hc.2 _ (List.mem_map.2 ⟨q, hq, rfl⟩))
end Go.Proofs.Ytgecemngfpgcoaa
