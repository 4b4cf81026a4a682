/- Contracts of the model's functions that change trees. -/
import Derived.Test.YtgecemngfpgcoaaHasF
set_option linter.unusedVariables false
set_option linter.unusedSimpArgs false
namespace Go.Proofs.Ytgecemngfpgcoaa
open Go.RowKit Go.Proofs.Ytgecemngfpgcoaa.Nm

theorem fils_set_other {w : World} {B : Nat} {v : Value} {qs : List (Fil × Value)} (h : OwnFils w B v qs) {p : Addr} (hp : ∀ b, BlkF v qs b → b ≠ p.block) (u : Value) : OwnFils (w.setCell p u) B v qs :=
  ⟨owns_set_other h.1 (fun b hb => hp b (.inl hb)) u, h.2.heap (fun b _ _ ⟨q, hq, hb⟩ => Below.heap_setCell w p u b (hp b (.inr ⟨q, hq, hb⟩)))⟩
/-- A box of a tree is no block of files. -/
theorem fils_no_box {w : World} {B g : Nat} {v : Value} {qs : List (Fil × Value)} (h : OwnFils w B v qs) {xs : List Value} (hb : w.ownsRow 0 25 1 (.slice (some ⟨g, 0, none⟩) 1 1) 1 xs) : ∀ b, BlkF v qs b → b ≠ g := by
  rintro b (h1 | ⟨q, hq, h1⟩) rfl
  · exact own_types (by decide) h.1 hb h1 rfl
  · exact own_types (by decide) (h.2.1 q hq) hb h1 rfl

theorem addFil_noS {t : List Fil} {f : Fil} (h : okTree t = false) : addFil t f = ([], false) := by unfold addFil; rw [h]; rfl
theorem addFil_yesS {t : List Fil} {f : Fil} (h : okTree t = true) : (if okTree (t ++ [f]) then (t ++ [f], true) else ([], false)) = addFil t f := by unfold addFil; rw [h]; simp
set_option maxRecDepth 100000 in
set_option maxHeartbeats 8000000 in
theorem spec_AddFile (v : Value) (ps : List (Fil × Value)) (r st : Int) (p n : Bs) (i : Bool) (bv : Value) (body : List Stm) (w : World) (h : RowsF w v ps) (hz : ShortT 2000000 (ps.map (·.1))) (hl : ps.length ≤ 2000000) (hbl : ∀ p ∈ ps, p.1.body.length ≤ 1048576) (hb : w.ownsRow 0 138 5 bv body.length (body.flatMap stmCells)) (hbz : ShortF 2000000 ⟨r, p, n, i, st, body⟩) (hbk : body.length ≤ 1048576) :
    Calls Try.prog 63 #[.agg #[v], .agg #[.int .i64 r, .string (mk p), .string (mk n), .bool i, .int .i64 st, bv]] w (NewTreeB (addFil (ps.map (·.1)) ⟨r, p, n, i, st, body⟩) w) := by
  obtain ⟨i0, hi, hz0, hz1, hz2⟩ := info_parts infoFil
  have Hi := Lib.hid hi
  have Hz0 := Lib.hid hz0
  have Hz1 := Lib.hid hz1
  have Hz2 := Lib.hid hz2
  have H := Lib.hid h
  have Hb := Lib.hid hb
  have Hbl := Lib.hid hbl
  have Hz := Lib.hid (show ShortT 3000000 (ps.map (·.1)) from fun f hf => shortF_mono (by omega) (hz f hf))
  have Hzz := Lib.hid (show ShortT 3000000 (ps.map (·.1) ++ [⟨r, p, n, i, st, body⟩]) from fun f hf => by
    rcases List.mem_append.1 hf with h | h
    · exact shortF_mono (by omega) (hz f h)
    · simp at h; subst h; exact shortF_mono (by omega) hbz)
  have Hf := Lib.hid h.fils
  obtain ⟨aa, ca, rfl⟩ := h.len
  obtain ⟨ab, cb, rfl⟩ := owns_shape hb
  clear h hb hbl hz hbz hi hz0 hz1 hz2
  obtain ⟨Wb, hWb⟩ : ∃ Wb, Wb = ((w.alloc (.cells #[.slice aa ps.length ca] 25)).alloc (.cells #[.int .i64 r, .string (mk p), .string (mk n), .bool i, .int .i64 st, .slice ab body.length cb] 36)).alloc (.cells #[.slice none 0 0] 25) := ⟨_, rfl⟩
  have HBw := Lib.hid (show Below w.heap.size w Wb by rw [hWb]; (repeat (with_reducible first | exact Below.refl _ _ | assumption | refine ba ?_ _ | refine bd ?_ | refine bdN ?_ _ | refine bs ?_ (by first | exact Nat.le_refl _ | (dsimp only; omega) | (simp; done)) _ | refine bt ?_ (by assumption))))
  have hWs : Wb.heap.size = w.heap.size + 3 := by rw [hWb]; simp
  have HWs := Lib.hid hWs
  have HX0 := Lib.hid (show BoxC Wb w.heap.size #[.slice aa ps.length ca] by rw [hWb]; exact (BoxC.start w _ _).below (by (repeat (with_reducible first | exact Below.refl _ _ | assumption | refine ba ?_ _ | refine bd ?_ | refine bdN ?_ _ | refine bs ?_ (by first | exact Nat.le_refl _ | (dsimp only; omega) | (simp; done)) _ | refine bt ?_ (by assumption)))))
  have HX1 := Lib.hid (show BoxC Wb (w.heap.size + 1) #[.int .i64 r, .string (mk p), .string (mk n), .bool i, .int .i64 st, .slice ab body.length cb] by rw [hWb]; exact ((BoxC.start (w.alloc (.cells #[.slice aa ps.length ca] 25)) _ _).below (by (repeat (with_reducible first | exact Below.refl _ _ | assumption | refine ba ?_ _ | refine bd ?_ | refine bdN ?_ _ | refine bs ?_ (by first | exact Nat.le_refl _ | (dsimp only; omega) | (simp; done)) _ | refine bt ?_ (by assumption))))).at (by simp))
  have HX2 := Lib.hid (show BoxC Wb (w.heap.size + 1 + 1) #[.slice none 0 0] by rw [hWb]; exact (BoxC.start ((w.alloc (.cells #[.slice aa ps.length ca] 25)).alloc (.cells #[.int .i64 r, .string (mk p), .string (mk n), .bool i, .int .i64 st, .slice ab body.length cb] 36)) _ _).at (by simp))
  have HF2 := Lib.hid (show Wb.frozen? ⟨w.heap.size + 1 + 1, 0, none⟩ = false by rw [hWb]; simp [go_sem])
  have HWe := Lib.hid hWb
  clear hWb hWs
  go_enter Try.func63, Try.ntmps63
  go_wp2_with fail
  rw [← HWe.out]
  refine (spec_copyTree _ ps _ (H.out.below (by have := HBw.out; (repeat (with_reducible first | exact Below.refl _ _ | assumption | refine ba ?_ _ | refine bd ?_ | refine bdN ?_ _ | refine bs ?_ (by first | exact Nat.le_refl _ | (dsimp only; omega) | (simp; done)) _ | refine bt ?_ (by assumption))))) hl Hbl.out).mono ?_
  rintro _ w5 ⟨v5, qs, rfl, hqs, hown5, hb5⟩
  obtain ⟨oa, oc, rfl⟩ := hown5.len
  have Hqs := Lib.hid hqs
  have hql : qs.length ≤ 2000000 := by have h := congrArg List.length hqs; simp at h; omega
  obtain ⟨W1, hW1⟩ : ∃ W1, W1 = w5.alloc (.cells #[.slice oa qs.length oc] 25) := ⟨_, rfl⟩
  have h1s : W1.heap.size = w5.heap.size + 1 := by rw [hW1]; simp
  have Hb1 := Lib.hid (show Below Wb.heap.size Wb W1 by rw [hW1]; exact ba hb5 _)
  have HO1 := Lib.hid (show OwnFils W1 (w.heap.size + 3) (.slice oa qs.length oc) qs by rw [hW1]; exact (hown5.mono (by have := HWs.out; omega)).below (ba (Below.refl _ _) _))
  have HR1 := Lib.hid (show W1.ownsRow 0 25 1 (.slice (some ⟨w5.heap.size, 0, none⟩) 1 1) 1 [.slice oa qs.length oc] by rw [hW1]; exact World.ownsRow_lit (size := 1) w5 #[.slice oa qs.length oc] 1 (Nat.zero_le _) (by unfold maxLen; omega) rfl)
  have HX3 := Lib.hid (show BoxC W1 w5.heap.size #[.slice oa qs.length oc] by rw [hW1]; exact BoxC.start w5 _ _)
  have HF3 := Lib.hid (show W1.frozen? ⟨w5.heap.size, 0, none⟩ = false by rw [hW1]; simp [go_sem])
  have H1e := Lib.hid hW1
  have H1s := Lib.hid h1s
  have Hz5 := Lib.hid (show w.heap.size + 3 ≤ w5.heap.size by have := hb5.size; have := HWs.out; omega)
  obtain ⟨d0, d1, d2, d3, d4, d5⟩ : W1.cell? ⟨w.heap.size + 1, 0, none⟩ = some (.int .i64 r) ∧ W1.cell? ⟨w.heap.size + 1, 1, none⟩ = some (.string (mk p)) ∧ W1.cell? ⟨w.heap.size + 1, 2, none⟩ = some (.string (mk n)) ∧ W1.cell? ⟨w.heap.size + 1, 3, none⟩ = some (.bool i) ∧ W1.cell? ⟨w.heap.size + 1, 4, none⟩ = some (.int .i64 st) ∧ W1.cell? ⟨w.heap.size + 1, 5, none⟩ = some (.slice ab body.length cb) := ⟨(HX1.out.below Hb1.out).2 0, (HX1.out.below Hb1.out).2 1, (HX1.out.below Hb1.out).2 2, (HX1.out.below Hb1.out).2 3, (HX1.out.below Hb1.out).2 4, (HX1.out.below Hb1.out).2 5⟩
  have hO : W1.cell? ⟨w5.heap.size, 0, none⟩ = some (.slice oa qs.length oc) := HX3.out.2 0
  clear hW1 h1s hqs hown5 hb5
  go_wp2_with fail
  rw [← H1e.out]
  have hs1 : w.heap.size + 1 < W1.heap.size := by have := Hz5.out; have := H1s.out; omega
  have hs5 : w5.heap.size < W1.heap.size := by have := H1s.out; omega
  go_region_law (first
      | (go_simp; go_at_call 100; refine (spec_copyFile _ _ _ _ _ _ body _ (owns_below Hb.out (by have := HBw.out; have := Hb1.out; (repeat (with_reducible first | exact Below.refl _ _ | assumption | refine ba ?_ _ | refine bd ?_ | refine bdN ?_ _ | refine bs ?_ (by first | exact Nat.le_refl _ | (dsimp only; omega) | (simp; done)) _ | refine bt ?_ (by assumption))))) hbk).mono ?_; rintro _ w6 ⟨v6, rfl, hown6, hb6⟩; unfold filV; dsimp only; obtain ⟨a6, c6, hv6⟩ := owns_shape hown6; subst hv6; have Hown6 := Lib.hid (owns_mono hown6 (show Below W1.heap.size W1 _ by (repeat (with_reducible first | exact Below.refl _ _ | assumption | refine ba ?_ _ | refine bd ?_ | refine bdN ?_ _ | refine bs ?_ (by first | exact Nat.le_refl _ | (dsimp only; omega) | (simp; done)) _ | refine bt ?_ (by assumption)))).size); have Hb6 := Lib.hid (show Below W1.heap.size W1 w6 by (repeat (with_reducible first | exact Below.refl _ _ | assumption | refine ba ?_ _ | refine bd ?_ | refine bdN ?_ _ | refine bs ?_ (by first | exact Nat.le_refl _ | (dsimp only; omega) | (simp; done)) _ | refine bt ?_ (by assumption)))); have hO6 : w6.cell? ⟨w5.heap.size, 0, none⟩ = some (.slice oa qs.length oc) := (Hb6.out.cell (p := ⟨w5.heap.size, 0, none⟩) hs5).trans hO; have hz6 : W1.heap.size ≤ w6.heap.size := Hb6.out.size; have hy6 : w5.heap.size < w6.heap.size := (by omega); clear hown6)
      | (refine step_append_both rfl (.tmp 10) (.tmp 13) 23 rfl (w.heap.size + 3) 36 i0 _ 6 80 Try.underlying23 Hi.out Hz0.out Hz1.out Hz2.out rfl (by decide) (.slice oa qs.length oc) qs.length (qs.flatMap filCells) (by simp [Act.eval, Act.put]) ((owns_below HO1.out.1 Hb6.out).alloc _) w6.heap.size (.slice (some ⟨w6.heap.size, 0, none⟩) 1 1) 1 (filCells ((⟨r, p, n, i, st, body⟩ : Fil), Value.slice a6 body.length c6)) (by simp [Act.eval, Act.put]) (World.ownsRow_lit (size := 6) w6 (filCells ((⟨r, p, n, i, st, body⟩ : Fil), Value.slice a6 body.length c6)).toArray 1 (Nat.le_refl _) (by unfold maxLen; omega) rfl) (fun x hx => by simp [filCells] at hx; rcases hx with rfl | rfl | rfl | rfl | rfl | rfl <;> rfl) (by unfold maxLen; omega) (by omega) (by have := Hz5.out; simp; omega) ?_; intro vA wA hownA hgA; obtain ⟨aA, cA, hvA⟩ := owns_shape hownA; subst hvA; have HfA := Lib.hid (fils_snoc (q := ((⟨r, p, n, i, st, body⟩ : Fil), Value.slice a6 body.length c6)) HO1.out (ba Hb6.out _) (by have := Hz5.out; omega) (Hown6.out.alloc _) hgA hownA); have HbA := Lib.hid (show Below (w.heap.size + 3) W1 wA from ((ba Hb6.out _).mono (by have := Hz5.out; omega)).grown hgA (by have := Hz5.out; simp; omega) (fun k e => (HO1.out.1.lt k e).1)); have HRA := Lib.hid (show wA.ownsRow 0 25 1 (.slice (some ⟨w5.heap.size, 0, none⟩) 1 1) 1 [.slice oa qs.length oc] from owns_heap ((owns_below HR1.out Hb6.out).alloc _) (fun b hb => (by cases hb; exact hgA.block _ (by simp; omega) (fun e => own_types (by decide) HO1.out.1 HR1.out e.symm rfl)))); have hOA : wA.cell? ⟨w5.heap.size, 0, none⟩ = some (.slice oa qs.length oc) := (HRA.out.cellAt 0 (by omega)); have hfA : wA.frozen? ⟨w5.heap.size, 0, none⟩ = false := HRA.out.frozenAt 0; have hzA : w5.heap.size < wA.heap.size := (by have := HbA.out.size; omega); have HZA := Lib.hid (fils_set_other (p := ⟨w5.heap.size, 0, none⟩) HfA.out (fils_no_box HfA.out HRA.out) (.slice aA (qs.length + 1) cA))))
  all_goals
    obtain ⟨W2, hW2⟩ : ∃ W2, W2 = wA.setCell ⟨w5.heap.size, 0, none⟩ (.slice aA (qs.length + 1) cA) := ⟨_, rfl⟩
    have HW2 := Lib.hid hW2
    have hlt5 : w.heap.size + 2 < w5.heap.size := by have := Hz5.out; omega
    have h2c : ∀ b o, b < w5.heap.size → W2.cell? ⟨b, o, none⟩ = wA.cell? ⟨b, o, none⟩ := fun b o hb => by rw [hW2]; exact cell_block (Below.heap_setCell _ _ _ _ (by dsimp only; omega)) o
    have H20 := Lib.hid (show BoxC W2 w.heap.size #[.slice aa ps.length ca] from ⟨by rw [hW2]; simp; omega, fun j => by rw [h2c _ _ (by omega), HbA.out.cell (p := ⟨w.heap.size, j, none⟩) (by dsimp only; omega)]; exact (HX0.out.below Hb1.out).2 j⟩)
    have H22 := Lib.hid (show BoxC W2 (w.heap.size + 1 + 1) #[.slice none 0 0] from ⟨by rw [hW2]; simp; omega, fun j => by rw [h2c _ _ (by omega), HbA.out.cell (p := ⟨w.heap.size + 1 + 1, j, none⟩) (by dsimp only; omega)]; exact (HX2.out.below Hb1.out).2 j⟩)
    have H23 := Lib.hid (show W2.cell? ⟨w5.heap.size, 0, none⟩ = some (.slice aA (qs.length + 1) cA) by rw [hW2]; simp [go_sem, hOA])
    have H2f := Lib.hid (show W2.frozen? ⟨w.heap.size + 1 + 1, 0, none⟩ = false by
      have h1 := (HbA.out.frozen (p := ⟨w.heap.size + 1 + 1, 0, none⟩) (by dsimp only; omega)).trans ((Hb1.out.frozen (p := ⟨w.heap.size + 1 + 1, 0, none⟩) (by have := HWs.out; dsimp only; omega)).trans HF2.out)
      rw [hW2]; simp [go_sem, h1])
    have H2O := Lib.hid (show OwnFils W2 (w.heap.size + 3) (.slice aA (qs.length + 1) cA) (qs ++ [((⟨r, p, n, i, st, body⟩ : Fil), Value.slice a6 body.length c6)]) by rw [hW2]; exact HZA.out)
    have H2z := Lib.hid (show w5.heap.size < W2.heap.size by rw [hW2]; simpa using hzA)
    have H2b := Lib.hid (show Below w.heap.size w W2 by
      have h0 : Below w.heap.size w wA := (HBw.out.trans (Hb1.out.mono HBw.out.size)).trans (HbA.out.mono (by omega))
      rw [hW2]; exact bs h0 (by dsimp only; omega) _)
    have H2m := Lib.hid (show (qs ++ [((⟨r, p, n, i, st, body⟩ : Fil), Value.slice a6 body.length c6)]).map (·.1) = ps.map (·.1) ++ [⟨r, p, n, i, st, body⟩] by rw [List.map_append, Hqs.out]; rfl)
    have H2F := Lib.hid (show FilsIn W2 (fun _ => True) (.slice aA (qs.length + 1) cA) (ps.map (·.1) ++ [⟨r, p, n, i, st, body⟩]) by
      have h := H2O.out.fils (D := fun _ => True) (fun _ _ => trivial)
      rw [H2m.out] at h; exact h)
    have a0 : wA.cell? ⟨w.heap.size, 0, none⟩ = some (.slice aa ps.length ca) := (HbA.out.cell (p := ⟨w.heap.size, 0, none⟩) (by dsimp only; omega)).trans ((HX0.out.below Hb1.out).2 0)
    have hne : w.heap.size < w5.heap.size := by omega
    clear hW2 h2c hO hO6 d0 d1 d2 d3 d4 d5
    go_wp2_with fail
    rw [← HW2.out]
    refine (spec_validTree _ _ _ _ (Hf.out.below (by have := H2b.out; (repeat (with_reducible first | exact Below.refl _ _ | assumption | refine ba ?_ _ | refine bd ?_ | refine bdN ?_ _ | refine bs ?_ (by first | exact Nat.le_refl _ | (dsimp only; omega) | (simp; done)) _ | refine bt ?_ (by assumption))))) Hz.out).mono ?_
    rintro _ w8 ⟨rfl, hb8⟩
    have Hb8 := Lib.hid (show Below W2.heap.size W2 w8 by (repeat (with_reducible first | exact Below.refl _ _ | assumption | refine ba ?_ _ | refine bd ?_ | refine bdN ?_ _ | refine bs ?_ (by first | exact Nat.le_refl _ | (dsimp only; omega) | (simp; done)) _ | refine bt ?_ (by assumption))))
    have q0 : w8.cell? ⟨w.heap.size + 1 + 1, 0, none⟩ = some (.slice none 0 0) := (H22.out.below Hb8.out).2 0
    have f0 : w8.frozen? ⟨w.heap.size + 1 + 1, 0, none⟩ = false := (Hb8.out.frozen (p := ⟨w.heap.size + 1 + 1, 0, none⟩) (by have := H2z.out; dsimp only; omega)).trans H2f.out
    have s8 := (H22.out.below Hb8.out).1
    have o8 : w8.cell? ⟨w5.heap.size, 0, none⟩ = some (.slice aA (qs.length + 1) cA) := (Hb8.out.cell (p := ⟨w5.heap.size, 0, none⟩) H2z.out).trans H23.out
    clear a0 hOA hfA hb8
    cases h1 : okTree (ps.map (·.1))
    · have Hno := Lib.hid (addFil_noS (f := ⟨r, p, n, i, st, body⟩) h1)
      clear h1
      go_wp2_with fail
      have hbw := H2b.out.trans (Hb8.out.mono H2b.out.size)
      exact bodyPost_ret (v := .tuple #[.agg #[.slice none 0 0], .bool false]) (by simp [results, Try.results63, go_sem, *]) rfl (treeB_no Hno.out (by (repeat (with_reducible first | exact Below.refl _ _ | assumption | refine ba ?_ _ | refine bd ?_ | refine bdN ?_ _ | refine bs ?_ (by first | exact Nat.le_refl _ | (dsimp only; omega) | (simp; done)) _ | refine bt ?_ (by assumption)))))
    · have Hyes := Lib.hid (addFil_yesS (f := ⟨r, p, n, i, st, body⟩) h1)
      clear h1
      go_wp2_with fail
      refine (spec_validTree _ _ _ _ (H2F.out.below (bt Hb8.out (by (repeat (with_reducible first | exact Below.refl _ _ | assumption | refine ba ?_ _ | refine bd ?_ | refine bdN ?_ _ | refine bs ?_ (by first | exact Nat.le_refl _ | (dsimp only; omega) | (simp; done)) _ | refine bt ?_ (by assumption)))))) Hzz.out).mono ?_
      rintro _ w9 ⟨rfl, hb9⟩
      have Hb9 := Lib.hid (bt Hb8.out (show Below w8.heap.size w8 w9 by (repeat (with_reducible first | exact Below.refl _ _ | assumption | refine ba ?_ _ | refine bd ?_ | refine bdN ?_ _ | refine bs ?_ (by first | exact Nat.le_refl _ | (dsimp only; omega) | (simp; done)) _ | refine bt ?_ (by assumption)))))
      clear q0 f0 s8 o8 hb9
      have q0 : w9.cell? ⟨w.heap.size + 1 + 1, 0, none⟩ = some (.slice none 0 0) := (H22.out.below Hb9.out).2 0
      have f0 : w9.frozen? ⟨w.heap.size + 1 + 1, 0, none⟩ = false := (Hb9.out.frozen (p := ⟨w.heap.size + 1 + 1, 0, none⟩) (by have := H2z.out; dsimp only; omega)).trans H2f.out
      have s9 := (H22.out.below Hb9.out).1
      have o9 : w9.cell? ⟨w5.heap.size, 0, none⟩ = some (.slice aA (qs.length + 1) cA) := (Hb9.out.cell (p := ⟨w5.heap.size, 0, none⟩) H2z.out).trans H23.out
      have hbw := H2b.out.trans (Hb9.out.mono H2b.out.size)
      cases h2 : okTree (ps.map (·.1) ++ [⟨r, p, n, i, st, body⟩])
      · have Hno := Lib.hid (show addFil (ps.map (·.1)) ⟨r, p, n, i, st, body⟩ = ([], false) by rw [← Hyes.out, h2]; rfl)
        clear h2
        go_wp2_with fail
        exact bodyPost_ret (v := .tuple #[.agg #[.slice none 0 0], .bool false]) (by simp [results, Try.results63, go_sem, *]) rfl (treeB_no Hno.out (by (repeat (with_reducible first | exact Below.refl _ _ | assumption | refine ba ?_ _ | refine bd ?_ | refine bdN ?_ _ | refine bs ?_ (by first | exact Nat.le_refl _ | (dsimp only; omega) | (simp; done)) _ | refine bt ?_ (by assumption)))))
      · have Hy2 := Lib.hid (show addFil (ps.map (·.1)) ⟨r, p, n, i, st, body⟩ = (ps.map (·.1) ++ [⟨r, p, n, i, st, body⟩], true) by rw [← Hyes.out, h2]; rfl)
        have H2p := Lib.hid (H2O.out.below Hb9.out)
        clear h2
        go_wp2_with fail
        refine bodyPost_ret (v := .tuple #[.agg #[.slice aA (qs.length + 1) cA], .bool true]) (by simp [results, Try.results63, go_sem, *]) rfl ?_
        rw [Hy2.out]
        refine ⟨_, qs ++ [((⟨r, p, n, i, st, body⟩ : Fil), Value.slice a6 body.length c6)], rfl, H2m.out, ?_, by (repeat (with_reducible first | exact Below.refl _ _ | assumption | refine ba ?_ _ | refine bd ?_ | refine bdN ?_ _ | refine bs ?_ (by first | exact Nat.le_refl _ | (dsimp only; omega) | (simp; done)) _ | refine bt ?_ (by assumption)))⟩
        exact (H2p.out.set_low (by dsimp only; omega) _).mono (by omega)
end Go.Proofs.Ytgecemngfpgcoaa
