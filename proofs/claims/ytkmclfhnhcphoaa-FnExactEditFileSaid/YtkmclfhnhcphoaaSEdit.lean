/- Contract of the model's function that edits a file of a tree. -/
import Derived.Deep.RegionLaw
import Derived.Test.YtkmclfhnhcphoaaSAdds2
set_option linter.unusedVariables false
set_option linter.unusedSimpArgs false
namespace Go.Proofs.Ytkmclfhnhcphoaa
open Go.RowKit Go.Proofs.Ytkmclfhnhcphoaa.Nm

theorem edFil_no4 {t : List Fil} {i st : Int} {b : List Stm} (h : (okTree t && inr i 0 ((t.length : Int) - 1) && inr st 0 99 && okBody b) = false) : edFil t i st b = ([], false) := by unfold edFil; rw [h]; rfl
theorem edFil_all {t : List Fil} {i st : Int} {b : List Stm} (h1 : okTree t = true) (h2 : inr i 0 ((t.length : Int) - 1) = true) (h3 : inr st 0 99 = true) (h4 : okBody b = true) : edFil t i st b = (t.modify i.toNat (fun f => turned f st b), true) := by unfold edFil; rw [h1, h2, h3, h4]; rfl
/-- Another body in the midst of own files. -/
theorem fils_edit {w w' : World} {B : Nat} {g cap : Nat} {qs : List (Fil × Value)} {k : Nat} (hk : k < qs.length) (h : OwnFils w B (.slice (some ⟨g, 0, none⟩) qs.length cap) qs) {st : Int} {b : List Stm} {bv : Value} (hb : ∀ x, x < w.heap.size → x ≠ g → w'.heap[x]? = w.heap[x]?) (hB : B ≤ w.heap.size)
    (hq : w'.ownsRow w.heap.size 92 5 bv b.length (b.flatMap stmCells)) (hr : w'.ownsRow B 38 6 (.slice (some ⟨g, 0, none⟩) qs.length cap) qs.length ((qs.set k (turned qs[k].1 st b, bv)).flatMap filCells)) :
    OwnFils w' B (.slice (some ⟨g, 0, none⟩) qs.length cap) (qs.set k (turned qs[k].1 st b, bv)) := by
  have hne : ∀ p ∈ qs, ∀ x, p.2.ownBlock = some x → x ≠ g := fun p hp x hx e => by
    subst e; exact own_types (by decide) (h.2.1 p hp) h.1 hx rfl
  refine ⟨by rw [List.length_set]; exact hr, fun p hp => ?_, ?_⟩
  · rcases List.mem_or_eq_of_mem_set hp with hp | rfl
    · exact owns_heap (h.2.1 p hp) (fun x hx => hb x (owns_block (h.2.1 p hp) hx).2 (hne p hp x hx))
    · exact owns_mono hq hB
  · rw [List.pairwise_iff_getElem]
    intro i j hi hj hij b' h1
    rw [List.length_set] at hi hj
    have hp := (List.pairwise_iff_getElem.1 h.2.2) i j hi hj hij
    have lt := fun (m : Nat) (hm : m < qs.length) (hb' : qs[m].2.ownBlock = some b') => (owns_block (h.2.1 _ (List.getElem_mem hm)) hb').2
    rw [List.getElem_set] at h1 ⊢
    by_cases e1 : k = i
    · rw [if_pos e1] at h1
      have hge := (owns_block hq h1).1
      rw [if_neg (by omega)]
      intro h2
      have := lt j hj h2
      omega
    · rw [if_neg e1] at h1
      by_cases e2 : k = j
      · rw [if_pos e2]
        intro h2
        have := (owns_block hq h2).1
        have := lt i hi h1
        omega
      · rw [if_neg e2]; exact hp b' h1
set_option maxRecDepth 100000 in
set_option maxHeartbeats 8000000 in
theorem spec_EditFile (v : Value) (ps : List (Fil × Value)) (i st : Int) (bv : Value) (body : List Stm) (w : World) (h : RowsF w v ps) (hz : ShortT 2000000 (ps.map (·.1))) (hl : ps.length ≤ 2000000) (hbl : ∀ p ∈ ps, p.1.body.length ≤ 1048576) (hb : w.ownsRow 0 92 5 bv body.length (body.flatMap stmCells)) (hbz : Short 8000000 body) (hbk : body.length ≤ 1048576) :
    Calls Try.prog 26 #[.agg #[v], .int .i64 i, .int .i64 st, bv] w (NewTreeB (edFil (ps.map (·.1)) i st body) w) := by
  obtain ⟨i1, hi1, hy0, hy1, hy2⟩ := info_parts infoStm
  have Hi1 := Lib.hid hi1
  have Hy0 := Lib.hid hy0
  have Hy1 := Lib.hid hy1
  have Hy2 := Lib.hid hy2
  have H := Lib.hid h
  have Hb := Lib.hid hb
  have Hbz := Lib.hid hbz
  have Hbl := Lib.hid hbl
  have Hz := Lib.hid (show ShortT 3000000 (ps.map (·.1)) from fun f hf => shortF_mono (by omega) (hz f hf))
  have Hf := Lib.hid h.fils
  have Hbs := Lib.hid (show StmsIn w (fun _ => True) bv body from StmsIn.of_owns hb (fun _ _ => trivial))
  have hlen : (ps.map (·.1)).length = ps.length := List.length_map ..
  obtain ⟨aa, ca, rfl⟩ := h.len
  obtain ⟨ab, cb, rfl⟩ := owns_shape hb
  obtain ⟨fs, hfs⟩ : ∃ fs, fs = ps.map (·.1) := ⟨_, rfl⟩
  rw [← hfs] at Hz Hf hlen ⊢
  have Hfs := Lib.hid hfs
  have Hx0 := Lib.hid (Boxed2.start w #[.slice aa ps.length ca] 32 #[.slice none 0 0] 32)
  have hii : (fs.length : Int) - 1 = (ps.length : Int) - 1 := by omega
  have Hii := Lib.hid hii
  clear h hb hbz hbl hz hfs hi1 hy0 hy1 hy2 hii
  cases h1 : okTree fs
  · have Hno := Lib.hid (edFil_no4 (t := fs) (i := i) (st := st) (b := body) (by rw [h1]; rfl))
    have H1 := Lib.hid h1
    clear h1
    go_enter Try.func26, Try.ntmps26
    go_wp2_with fail
    refine (spec_validTree _ fs _ _ (Hf.out.below (by (repeat (with_reducible first | exact Below.refl _ _ | assumption | refine ba ?_ _ | refine bd ?_ | refine bdN ?_ _ | refine bs ?_ (by first | exact Nat.le_refl _ | (dsimp only; omega) | (simp; done)) _ | refine bt ?_ (by assumption))))) Hz.out).mono ?_
    rintro _ w5 ⟨rfl, hb5⟩
    rw [H1.out]
    have Hx5 := Lib.hid (Hx0.out.step hb5)
    have a5 : w5.cell? ⟨w.heap.size, 0, none⟩ = some (.slice aa ps.length ca) := Hx5.out.one.cell 0
    have q0 : w5.cell? ⟨w.heap.size + 1, 0, none⟩ = some (.slice none 0 0) := Hx5.out.cell 0
    have f0 : w5.frozen? ⟨w.heap.size + 1, 0, none⟩ = false := (by have := box_free Hx5.out.two 0; simpa using this)
    have s5 := Hx5.out.lt
    clear hb5
    go_wp2_with fail
    have hbw := Hx5.out.below
    exact bodyPost_ret (v := .tuple #[.agg #[.slice none 0 0], .bool false]) (by simp [results, Try.results26, go_sem, *]) rfl (treeB_no Hno.out (by (repeat (with_reducible first | exact Below.refl _ _ | assumption | refine ba ?_ _ | refine bd ?_ | refine bdN ?_ _ | refine bs ?_ (by first | exact Nat.le_refl _ | (dsimp only; omega) | (simp; done)) _ | refine bt ?_ (by assumption)))))
  cases h2 : inr i 0 ((fs.length : Int) - 1)
  · have Hno := Lib.hid (edFil_no4 (t := fs) (i := i) (st := st) (b := body) (by rw [h1, h2]; rfl))
    have H1 := Lib.hid h1
    have H2 := Lib.hid h2
    have H2' := Lib.hid (show inr i 0 ((ps.length : Int) - 1) = false by rw [← Hii.out]; exact h2)
    clear h1 h2
    go_enter Try.func26, Try.ntmps26
    go_wp2_with fail
    refine (spec_validTree _ fs _ _ (Hf.out.below (by (repeat (with_reducible first | exact Below.refl _ _ | assumption | refine ba ?_ _ | refine bd ?_ | refine bdN ?_ _ | refine bs ?_ (by first | exact Nat.le_refl _ | (dsimp only; omega) | (simp; done)) _ | refine bt ?_ (by assumption))))) Hz.out).mono ?_
    rintro _ w5 ⟨rfl, hb5⟩
    rw [H1.out]
    have Hx5 := Lib.hid (Hx0.out.step hb5)
    have a5 : w5.cell? ⟨w.heap.size, 0, none⟩ = some (.slice aa ps.length ca) := Hx5.out.one.cell 0
    have q0 : w5.cell? ⟨w.heap.size + 1, 0, none⟩ = some (.slice none 0 0) := Hx5.out.cell 0
    have f0 : w5.frozen? ⟨w.heap.size + 1, 0, none⟩ = false := (by have := box_free Hx5.out.two 0; simpa using this)
    have s5 := Hx5.out.lt
    clear hb5
    go_wp2_with fail
    refine (spec_inRange' i 0 ((ps.length : Int) - 1) _).mono ?_
    rintro _ _ ⟨rfl, rfl⟩
    rw [H2'.out]
    go_wp2_with fail
    have hbw := Hx5.out.below
    exact bodyPost_ret (v := .tuple #[.agg #[.slice none 0 0], .bool false]) (by simp [results, Try.results26, go_sem, *]) rfl (treeB_no Hno.out (by (repeat (with_reducible first | exact Below.refl _ _ | assumption | refine ba ?_ _ | refine bd ?_ | refine bdN ?_ _ | refine bs ?_ (by first | exact Nat.le_refl _ | (dsimp only; omega) | (simp; done)) _ | refine bt ?_ (by assumption)))))
  cases h3 : inr st 0 99
  · have Hno := Lib.hid (edFil_no4 (t := fs) (i := i) (st := st) (b := body) (by rw [h1, h2, h3]; rfl))
    have H1 := Lib.hid h1
    have H2 := Lib.hid h2
    have H3 := Lib.hid h3
    have H2' := Lib.hid (show inr i 0 ((ps.length : Int) - 1) = true by rw [← Hii.out]; exact h2)
    clear h1 h2 h3
    go_enter Try.func26, Try.ntmps26
    go_wp2_with fail
    refine (spec_validTree _ fs _ _ (Hf.out.below (by (repeat (with_reducible first | exact Below.refl _ _ | assumption | refine ba ?_ _ | refine bd ?_ | refine bdN ?_ _ | refine bs ?_ (by first | exact Nat.le_refl _ | (dsimp only; omega) | (simp; done)) _ | refine bt ?_ (by assumption))))) Hz.out).mono ?_
    rintro _ w5 ⟨rfl, hb5⟩
    rw [H1.out]
    have Hx5 := Lib.hid (Hx0.out.step hb5)
    have a5 : w5.cell? ⟨w.heap.size, 0, none⟩ = some (.slice aa ps.length ca) := Hx5.out.one.cell 0
    have q0 : w5.cell? ⟨w.heap.size + 1, 0, none⟩ = some (.slice none 0 0) := Hx5.out.cell 0
    have f0 : w5.frozen? ⟨w.heap.size + 1, 0, none⟩ = false := (by have := box_free Hx5.out.two 0; simpa using this)
    have s5 := Hx5.out.lt
    clear hb5
    go_wp2_with fail
    refine (spec_inRange' i 0 ((ps.length : Int) - 1) _).mono ?_
    rintro _ _ ⟨rfl, rfl⟩
    rw [H2'.out]
    go_wp2_with fail
    refine (spec_inRange' st 0 99 _).mono ?_
    rintro _ _ ⟨rfl, rfl⟩
    rw [H3.out]
    go_wp2_with fail
    have hbw := Hx5.out.below
    exact bodyPost_ret (v := .tuple #[.agg #[.slice none 0 0], .bool false]) (by simp [results, Try.results26, go_sem, *]) rfl (treeB_no Hno.out (by (repeat (with_reducible first | exact Below.refl _ _ | assumption | refine ba ?_ _ | refine bd ?_ | refine bdN ?_ _ | refine bs ?_ (by first | exact Nat.le_refl _ | (dsimp only; omega) | (simp; done)) _ | refine bt ?_ (by assumption)))))
  cases h4 : okBody body
  · have Hno := Lib.hid (edFil_no4 (t := fs) (i := i) (st := st) (b := body) (by rw [h1, h2, h3, h4]; rfl))
    have H1 := Lib.hid h1
    have H2 := Lib.hid h2
    have H3 := Lib.hid h3
    have H4 := Lib.hid h4
    have H2' := Lib.hid (show inr i 0 ((ps.length : Int) - 1) = true by rw [← Hii.out]; exact h2)
    clear h1 h2 h3 h4
    go_enter Try.func26, Try.ntmps26
    go_wp2_with fail
    refine (spec_validTree _ fs _ _ (Hf.out.below (by (repeat (with_reducible first | exact Below.refl _ _ | assumption | refine ba ?_ _ | refine bd ?_ | refine bdN ?_ _ | refine bs ?_ (by first | exact Nat.le_refl _ | (dsimp only; omega) | (simp; done)) _ | refine bt ?_ (by assumption))))) Hz.out).mono ?_
    rintro _ w5 ⟨rfl, hb5⟩
    rw [H1.out]
    have Hx5 := Lib.hid (Hx0.out.step hb5)
    have a5 : w5.cell? ⟨w.heap.size, 0, none⟩ = some (.slice aa ps.length ca) := Hx5.out.one.cell 0
    have q0 : w5.cell? ⟨w.heap.size + 1, 0, none⟩ = some (.slice none 0 0) := Hx5.out.cell 0
    have f0 : w5.frozen? ⟨w.heap.size + 1, 0, none⟩ = false := (by have := box_free Hx5.out.two 0; simpa using this)
    have s5 := Hx5.out.lt
    clear hb5
    go_wp2_with fail
    refine (spec_inRange' i 0 ((ps.length : Int) - 1) _).mono ?_
    rintro _ _ ⟨rfl, rfl⟩
    rw [H2'.out]
    go_wp2_with fail
    refine (spec_inRange' st 0 99 _).mono ?_
    rintro _ _ ⟨rfl, rfl⟩
    rw [H3.out]
    go_wp2_with fail
    refine (spec_validBody _ body _ _ (Hbs.out.below (bt Hx5.out.below (by (repeat (with_reducible first | exact Below.refl _ _ | assumption | refine ba ?_ _ | refine bd ?_ | refine bdN ?_ _ | refine bs ?_ (by first | exact Nat.le_refl _ | (dsimp only; omega) | (simp; done)) _ | refine bt ?_ (by assumption)))))) Hbz.out).mono ?_
    rintro _ w6 ⟨rfl, hb6⟩
    rw [H4.out]
    have Hx6 := Lib.hid (Hx5.out.step (show Below w5.heap.size w5 w6 by (repeat (with_reducible first | exact Below.refl _ _ | assumption | refine ba ?_ _ | refine bd ?_ | refine bdN ?_ _ | refine bs ?_ (by first | exact Nat.le_refl _ | (dsimp only; omega) | (simp; done)) _ | refine bt ?_ (by assumption)))))
    clear a5 q0 f0 s5 hb6
    have a6 : w6.cell? ⟨w.heap.size, 0, none⟩ = some (.slice aa ps.length ca) := Hx6.out.one.cell 0
    have q0 : w6.cell? ⟨w.heap.size + 1, 0, none⟩ = some (.slice none 0 0) := Hx6.out.cell 0
    have f0 : w6.frozen? ⟨w.heap.size + 1, 0, none⟩ = false := (by have := box_free Hx6.out.two 0; simpa using this)
    have s6 := Hx6.out.lt
    go_wp2_with fail
    have hbw := Hx6.out.below
    exact bodyPost_ret (v := .tuple #[.agg #[.slice none 0 0], .bool false]) (by simp [results, Try.results26, go_sem, *]) rfl (treeB_no Hno.out (by (repeat (with_reducible first | exact Below.refl _ _ | assumption | refine ba ?_ _ | refine bd ?_ | refine bdN ?_ _ | refine bs ?_ (by first | exact Nat.le_refl _ | (dsimp only; omega) | (simp; done)) _ | refine bt ?_ (by assumption)))))
  have Hall := Lib.hid (edFil_all h1 h2 h3 h4)
  obtain ⟨k, hk, rfl⟩ := inr_nat h2
  have hkp : k < ps.length := by omega
  have hk1' : (k : Int) < (ps.length : Int) := by omega
  have hk0 : (0 : Int) ≤ (k : Int) := by omega
  have H1 := Lib.hid h1
  have H2' := Lib.hid (show inr (k : Int) 0 ((ps.length : Int) - 1) = true by rw [← Hii.out]; exact h2)
  have H3 := Lib.hid h3
  have H4 := Lib.hid h4
  clear h1 h2 h3 h4
  go_enter Try.func26, Try.ntmps26
  go_wp2_with fail
  refine (spec_validTree _ fs _ _ (Hf.out.below (by (repeat (with_reducible first | exact Below.refl _ _ | assumption | refine ba ?_ _ | refine bd ?_ | refine bdN ?_ _ | refine bs ?_ (by first | exact Nat.le_refl _ | (dsimp only; omega) | (simp; done)) _ | refine bt ?_ (by assumption))))) Hz.out).mono ?_
  rintro _ w5 ⟨rfl, hb5⟩
  rw [H1.out]
  have Hx5 := Lib.hid (Hx0.out.step hb5)
  have a5 : w5.cell? ⟨w.heap.size, 0, none⟩ = some (.slice aa ps.length ca) := Hx5.out.one.cell 0
  have q0 : w5.cell? ⟨w.heap.size + 1, 0, none⟩ = some (.slice none 0 0) := Hx5.out.cell 0
  have f0 : w5.frozen? ⟨w.heap.size + 1, 0, none⟩ = false := (by have := box_free Hx5.out.two 0; simpa using this)
  have s5 := Hx5.out.lt
  clear hb5
  go_wp2_with fail
  refine (spec_inRange' (k : Int) 0 ((ps.length : Int) - 1) _).mono ?_
  rintro _ _ ⟨rfl, rfl⟩
  rw [H2'.out]
  go_wp2_with fail
  refine (spec_inRange' st 0 99 _).mono ?_
  rintro _ _ ⟨rfl, rfl⟩
  rw [H3.out]
  go_wp2_with fail
  refine (spec_validBody _ body _ _ (Hbs.out.below (bt Hx5.out.below (by (repeat (with_reducible first | exact Below.refl _ _ | assumption | refine ba ?_ _ | refine bd ?_ | refine bdN ?_ _ | refine bs ?_ (by first | exact Nat.le_refl _ | (dsimp only; omega) | (simp; done)) _ | refine bt ?_ (by assumption)))))) Hbz.out).mono ?_
  rintro _ w6 ⟨rfl, hb6⟩
  rw [H4.out]
  have Hx6 := Lib.hid (Hx5.out.step (show Below w5.heap.size w5 w6 by (repeat (with_reducible first | exact Below.refl _ _ | assumption | refine ba ?_ _ | refine bd ?_ | refine bdN ?_ _ | refine bs ?_ (by first | exact Nat.le_refl _ | (dsimp only; omega) | (simp; done)) _ | refine bt ?_ (by assumption)))))
  clear a5 q0 f0 s5 hb6
  have a6 : w6.cell? ⟨w.heap.size, 0, none⟩ = some (.slice aa ps.length ca) := Hx6.out.one.cell 0
  have q0 : w6.cell? ⟨w.heap.size + 1, 0, none⟩ = some (.slice none 0 0) := Hx6.out.cell 0
  have f0 : w6.frozen? ⟨w.heap.size + 1, 0, none⟩ = false := (by have := box_free Hx6.out.two 0; simpa using this)
  have s6 := Hx6.out.lt
  go_wp2_with fail
  refine (spec_copyTree _ ps _ (H.out.below (bt Hx6.out.below (by (repeat (with_reducible first | exact Below.refl _ _ | assumption | refine ba ?_ _ | refine bd ?_ | refine bdN ?_ _ | refine bs ?_ (by first | exact Nat.le_refl _ | (dsimp only; omega) | (simp; done)) _ | refine bt ?_ (by assumption)))))) hl Hbl.out).mono ?_
  rintro _ w7 ⟨v7, qs, rfl, hqs, hown7, hb7⟩
  rw [← Hfs.out] at hqs
  have hql : qs.length = ps.length := by have h := congrArg List.length hqs; simp at h; omega
  obtain ⟨g, cap, rfl, hg1, hg2⟩ := hown7.1.form (by omega)
  have Hx7 := Lib.hid (Hx6.out.step (show Below w6.heap.size w6 w7 by (repeat (with_reducible first | exact Below.refl _ _ | assumption | refine ba ?_ _ | refine bd ?_ | refine bdN ?_ _ | refine bs ?_ (by first | exact Nat.le_refl _ | (dsimp only; omega) | (simp; done)) _ | refine bt ?_ (by assumption)))))
  have Hown7 := Lib.hid (hown7.mono (show Below w6.heap.size w6 _ by (repeat (with_reducible first | exact Below.refl _ _ | assumption | refine ba ?_ _ | refine bd ?_ | refine bdN ?_ _ | refine bs ?_ (by first | exact Nat.le_refl _ | (dsimp only; omega) | (simp; done)) _ | refine bt ?_ (by assumption)))).size)
  have Hg6 := Lib.hid (show w6.heap.size ≤ g from (Hown7.out.1.lt g rfl).1)
  clear hown7 hb7 a6 q0 f0 s6 hg1
  have Hqs := Lib.hid hqs
  have Hql := Lib.hid hql
  rw [hql]
  have hkq : k < qs.length := by omega
  clear hqs hql
  obtain ⟨⟨_, _, _, _, c4, c5⟩, _, _, _, _, f4, f5⟩ := own6 Hown7.out.1 k hkq
  obtain ⟨ae, ce, hbv⟩ := owns_shape (Hown7.out.2.1 _ (List.getElem_mem hkq))
  rw [hbv] at c5
  obtain ⟨W2, hW2⟩ : ∃ W2, W2 = (w7.setCell ⟨g, k * 6 + 4, none⟩ (.int .i64 st)).alloc (.cells #[.slice (some ⟨g, 0, none⟩) ps.length cap] 32) := ⟨_, rfl⟩
  have HW2 := Lib.hid hW2
  have hne : g ≠ w7.heap.size := by omega
  have hz2 : W2.heap.size = w7.heap.size + 1 := by rw [hW2]; simp
  have Hz2 := Lib.hid hz2
  have Hr2 := Lib.hid (show W2.ownsRow w6.heap.size 38 6 (.slice (some ⟨g, 0, none⟩) qs.length cap) qs.length ((qs.flatMap filCells).set (k * 6 + 4) (.int .i64 st)) by rw [hW2]; exact owns_below (Hown7.out.1.stored (k * 6 + 4) _).1 (ba (Below.refl _ _) _))
  have Hblk := Lib.hid (show ∀ x, x < w7.heap.size → x ≠ g → W2.heap[x]? = w7.heap[x]? from fun x h1 h2 => by
    rw [hW2, (ba (Below.refl _ (w7.setCell ⟨g, k * 6 + 4, none⟩ (.int .i64 st))) (.cells #[.slice (some ⟨g, 0, none⟩) ps.length cap] 32)).block x (by simpa using h1)]; exact Below.heap_setCell _ _ _ _ h2)
  have k0 : W2.cell? ⟨w7.heap.size, 0, none⟩ = some (.slice (some ⟨g, 0, none⟩) ps.length cap) := by rw [hW2]; simp [go_sem]
  have c5' : ∃ u, W2.cell? ⟨g, k * 6 + 5, none⟩ = some u := ⟨_, Hr2.out.cellAt (k * 6 + 5) (by omega) |>.trans (List.getElem?_eq_getElem (by rw [Hr2.out.1]; omega))⟩
  obtain ⟨u5, c5'⟩ := c5'
  have Hbw2 := Lib.hid (show Below w.heap.size w W2 by rw [hW2]; exact ba (bs Hx7.out.below (by have := Hx6.out.lt; have := Hg6.out; dsimp only; omega) _) _)
  have Hq0 := Lib.hid (show W2.cell? ⟨w.heap.size + 1, 0, none⟩ = some (.slice none 0 0) from (cell_block (Hblk.out _ Hx7.out.lt (by have := Hx6.out.lt; have := Hg6.out; omega)) 0).trans (Hx7.out.cell 0))
  have Hf0 := Lib.hid (show W2.frozen? ⟨w.heap.size + 1, 0, none⟩ = false by
    rw [hW2, (ba (Below.refl _ (w7.setCell ⟨g, k * 6 + 4, none⟩ (.int .i64 st))) (.cells #[.slice (some ⟨g, 0, none⟩) ps.length cap] 32)).frozen (p := ⟨w.heap.size + 1, 0, none⟩) (by simpa using Hx7.out.lt), World.frozen?_setCell]
    have := box_free Hx7.out.two 0; simpa using this)
  have s7 := Hx7.out.lt
  have fz5 : W2.frozen? ⟨g, k * 6 + 5, none⟩ = false := Hr2.out.frozenAt (k * 6 + 5)
  have hne3 : w.heap.size + 1 ≠ g := by have := Hx6.out.lt; have := Hg6.out; omega
  have hne4 : w.heap.size + 1 ≠ w7.heap.size := by omega
  have Hput := Lib.hid (put45 qs k hkq st body)
  have Hmap := Lib.hid (map_turned qs k hkq st body)
  clear hW2 hbv
  go_wp2_with fail
  rw [← HW2.out]
  clear c4 c5 f4 f5
  go_region_law (refine step_append_both rfl (.tmp 45) (.tmp 46) 36 rfl (w7.heap.size + 1) 92 i1 _ 5 56 Try.underlying36 Hi1.out Hy0.out Hy1.out Hy2.out rfl (by decide) (.slice (some ⟨w7.heap.size + 1, 0, none⟩) 0 0) 0 [] (by simp [Act.eval, Act.put]) (made_at W2.drew (w7.heap.size + 1) (w7.heap.size + 1) 5 92 (by simp [Hz2.out]) (Nat.le_refl _)) 0 _ body.length _ (by simp [Act.eval, Act.put]) (owns_below Hb.out (ba (bd Hbw2.out) _)) (stm_one body) (by unfold maxLen; omega) (by omega) (by simp [Hz2.out]) ?_; intro vA wA hownA hgA; rw [Nat.zero_add, List.nil_append] at hownA; obtain ⟨aA, cA, hvA⟩ := owns_shape hownA; subst hvA; have HownA := Lib.hid hownA; have HbA := Lib.hid (show Below W2.heap.size W2 wA from (ba (bd (Below.refl _ _)) _).grown hgA (by simp) (fun k e => by cases e; have := Hz2.out; dsimp only; omega)); have kA : wA.cell? ⟨w7.heap.size, 0, none⟩ = some (.slice (some ⟨g, 0, none⟩) ps.length cap) := (HbA.out.cell (p := ⟨w7.heap.size, 0, none⟩) (by have := Hz2.out; dsimp only; omega)).trans k0; have cA5 := (HbA.out.cell (p := ⟨g, k * 6 + 5, none⟩) (by have := Hz2.out; dsimp only; omega)).trans c5'; have fA5 : wA.frozen? ⟨g, k * 6 + 5, none⟩ = false := (HbA.out.frozen (p := ⟨g, k * 6 + 5, none⟩) (by have := Hz2.out; dsimp only; omega)).trans fz5; have qA : wA.cell? ⟨w.heap.size + 1, 0, none⟩ = some (.slice none 0 0) := (HbA.out.cell (p := ⟨w.heap.size + 1, 0, none⟩) (by have := Hz2.out; dsimp only; omega)).trans Hq0.out; have ffA : wA.frozen? ⟨w.heap.size + 1, 0, none⟩ = false := (HbA.out.frozen (p := ⟨w.heap.size + 1, 0, none⟩) (by have := Hz2.out; dsimp only; omega)).trans Hf0.out; have zA : w7.heap.size < wA.heap.size := (by have := HbA.out.size; have := Hz2.out; omega); clear hownA hgA)
  all_goals
    go_wp2_with fail
    refine bodyPost_ret (v := .tuple #[.agg #[.slice (some ⟨g, 0, none⟩) ps.length cap], .bool true]) (by simp [results, Try.results26, go_sem, *]) rfl ?_
    rw [Hall.out]
    have h6 := Hx6.out.lt
    have hg6 := Hg6.out
    have hz := Hz2.out
    have HE := Lib.hid (fils_edit (w' := wA.setCell ⟨g, k * 6 + 5, none⟩ (.slice aA body.length cA)) (st := st) (b := body) (bv := .slice aA body.length cA) hkq Hown7.out
      (fun x h1 h2 => by rw [Below.heap_setCell _ _ _ _ h2, HbA.out.block x (by omega)]; exact Hblk.out x h1 h2) (by omega)
      (owns_mono (owns_set_other HownA.out (p := ⟨g, k * 6 + 5, none⟩) (fun b hb => by have := (HownA.out.lt b hb).1; dsimp only; omega) _) (by omega))
      (by rw [← Hput.out]; exact ((owns_below Hr2.out HbA.out).stored (k * 6 + 5) _).1))
    rw [Hql.out] at HE
    refine ⟨_, qs.set k (turned qs[k].1 st body, .slice aA body.length cA), rfl, ?_, ?_, ?_⟩
    · rw [Hmap.out, Hqs.out]; rfl
    · exact ((HE.out.mono (B' := w.heap.size + 2) (by omega)).set_low (by dsimp only; omega) _).mono (by omega)
    · exact bs (bs (Hbw2.out.trans (HbA.out.mono Hbw2.out.size)) (by dsimp only; omega) _) (by dsimp only; omega) _
/-- In the words of the exact law. -/
theorem spec_EditFileX (v : Value) (fs : List Fil) (ps : List (Fil × Value)) (B B' : Nat) (i st : Int) (bv : Value) (body : List Stm) (w : World) (h : OwnFils w B v ps) (e : ps.map (·.1) = fs) (hz : ShortT 2000000 fs) (hc : filsCost' fs) (hb : w.ownsRow B' 92 5 bv body.length (body.flatMap stmCells)) (hbz : Short 8000000 body) (hbk : body.length ≤ 1048576) :
    Calls Try.prog 26 #[.agg #[v], .int .i64 i, .int .i64 st, bv] w (NewTreeB (edFil fs i st body) w) := by
  subst e
  have h1 := hc.1
  rw [List.length_map] at h1
  exact spec_EditFile v ps i st bv body w (RowsF.of h) hz (by omega) (fun q hq => hc.2 _ (List.mem_map.2 ⟨q, hq, rfl⟩)) (owns_mono hb (Nat.zero_le _)) hbz hbk
end Go.Proofs.Ytkmclfhnhcphoaa
