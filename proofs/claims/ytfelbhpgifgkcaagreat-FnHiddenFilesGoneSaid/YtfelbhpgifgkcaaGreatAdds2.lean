/- Contracts of the program's functions that give a tree without a file, or with one that is edited. -/
import Derived.Test.YtfelbhpgifgkcaaGreatAdds
set_option linter.unusedVariables false
set_option linter.unusedSimpArgs false
namespace Go.Proofs.YtfelbhpgifgkcaaGreat
open Go.RowKit Go.Proofs.YtfelbhpgifgkcaaGreat.Nm

theorem put45 (L : List (Fil × Value)) (i : Nat) (hi : i < L.length) (st : Int) (b : List Stm) (bv : Value) :
    ((L.flatMap filCells).set (i * 6 + 4) (.int .i64 st)).set (i * 6 + 5) bv = (L.set i (turned L[i].1 st b, bv)).flatMap filCells := by
  have hA := fm_take_len filCells 6 L i hi filCells_len
  have ha : filCells L[i] = [.int .i64 L[i].1.root, .string (mk L[i].1.pack), .string (mk L[i].1.name), .bool L[i].1.init, .int .i64 L[i].1.stamp, L[i].2] := rfl
  rw [fm_split filCells L i hi, ha, fm_put filCells L i _ hi]
  rw [set_mid _ _ _ (i * 6) 4 _ hA (by simp), set_mid _ _ _ (i * 6) 5 _ hA (by simp)]
  rfl
theorem map_turned (ps : List (Fil × Value)) (i : Nat) (hi : i < ps.length) (st : Int) (b : List Stm) (bv : Value) :
    (ps.set i (turned ps[i].1 st b, bv)).map (·.1) = (ps.map (·.1)).modify i (fun f => turned f st b) := by
  rw [List.map_set]
  apply List.ext_getElem?
  intro j
  by_cases e : i = j
  · subst e; simp [hi, List.getElem?_modify]
  · simp [e, List.getElem?_modify, List.getElem?_set_ne e]
theorem remFil_no {t : List Fil} {i : Int} (h : (okTree t && inr i 0 ((t.length : Int) - 1)) = false) : remFil t i = ([], false) := by unfold remFil; rw [h]; rfl
theorem edFil_no {t : List Fil} {i st : Int} {b : List Stm} (h : (okTree t && inr i 0 ((t.length : Int) - 1)) = false) : edFil t i st b = ([], false) := by unfold edFil; rw [h]; rfl
theorem edFil_yes {t : List Fil} {k : Nat} {st : Int} {b : List Stm} (h : okTree t = true) (hk : k < t.length) : (if okTree (t.modify k (fun f => turned f st b)) then (t.modify k (fun f => turned f st b), true) else ([], false)) = edFil t k st b := by
  unfold edFil
  rw [okTree_modify h hk, h]
  have hi : inr (k : Int) 0 ((t.length : Int) - 1) = true := by unfold inr; simp; omega
  rw [hi]
  simp
theorem inr_nat {i : Int} {n : Nat} (h : inr i 0 ((n : Int) - 1) = true) : ∃ k : Nat, k < n ∧ i = (k : Int) := by
  unfold inr at h
  simp only [Bool.and_eq_true, decide_eq_true_eq] at h
  exact ⟨i.toNat, by omega, by omega⟩

theorem remFil_yes {t : List Fil} {k : Nat} (h : okTree t = true) (hk : k < t.length) : (keepIn t ((dedup (t.map place)).erase (place t[k])), true) = remFil t k := by
  have hn := (okTree_all h).2.1
  have hi : inr (k : Int) 0 ((t.length : Int) - 1) = true := by unfold inr; simp; omega
  unfold remFil
  rw [h, hi, dedup_nodup hn, keepIn_erase hn hk]
  rfl
set_option maxRecDepth 100000 in
set_option maxHeartbeats 4000000 in
theorem impl_RemoveFile (v : Value) (ps : List (Fil × Value)) (i : Int) (w : World) (h : RowsF w v ps) (hz : ShortT 2000000 (ps.map (·.1))) (hn : ps.length ≤ 9000000) :
    Calls Tryz.prog 17 #[.agg #[v], .int .i64 i] w (NewTreeB (remFil (ps.map (·.1)) i) w) := by
  have H := Lib.hid h
  have Hz := Lib.hid (show ShortT 8000000 (ps.map (·.1)) from fun f hf => shortF_mono (by omega) (hz f hf))
  have Hf := Lib.hid h.fils
  have hlen : (ps.map (·.1)).length = ps.length := List.length_map ..
  obtain ⟨aa, ca, rfl⟩ := h.len
  obtain ⟨fs, hfs⟩ : ∃ fs, fs = ps.map (·.1) := ⟨_, rfl⟩
  rw [← hfs] at Hz Hf hlen ⊢
  have Hfs := Lib.hid hfs
  clear h hz hfs
  cases hok : (okTree fs && inr i 0 ((fs.length : Int) - 1))
  · have Hok := Lib.hid hok
    have Hno := Lib.hid (remFil_no hok)
    clear hok
    go_enter Tryz.func17, Tryz.ntmps17
    go_wp2_with fail
    refine (impl_hasFile _ fs _ i _ (Hf.out.below (by (repeat (with_reducible first | exact Below.refl _ _ | assumption | refine ba ?_ _ | refine bd ?_ | refine bdN ?_ _ | refine bs ?_ (by first | exact Nat.le_refl _ | (dsimp only; omega) | (simp; done)) _ | refine bt ?_ (by assumption))))) Hz.out (by omega)).mono ?_
    rintro _ w5 ⟨rfl, hb5⟩
    rw [Hok.out]
    obtain ⟨hc, hf, hs⟩ := bcell hb5
    go_wp2_with fail
    exact bodyPost_ret (v := .tuple #[.agg #[.slice none 0 0], .bool false]) (by simp [results, Tryz.results17, go_sem, hc, hs]) rfl (treeB_no Hno.out (by (repeat (with_reducible first | exact Below.refl _ _ | assumption | refine ba ?_ _ | refine bd ?_ | refine bdN ?_ _ | refine bs ?_ (by first | exact Nat.le_refl _ | (dsimp only; omega) | (simp; done)) _ | refine bt ?_ (by assumption)))))
  · have Hok := Lib.hid hok
    simp only [Bool.and_eq_true] at hok
    obtain ⟨ht, hin⟩ := hok
    obtain ⟨k, hk, rfl⟩ := inr_nat hin
    have hkp : k < ps.length := by omega
    have Hyes := Lib.hid (remFil_yes ht hk)
    have Hp := Lib.hid (okPls_tree ht)
    have Hpk := Lib.hid (show okPl (place fs[k]) from okPls_tree ht _ (List.getElem_mem hk))
    have H12 := Lib.hid (okTree_all ht).2.2
    have Hb8 := Lib.hid (body8 (ps := ps) (by rw [← Hfs.out]; exact ht))
    have hg : ps[k].1 = fs[k] := by
      have e : fs[k] = (ps.map (·.1))[k]'(by simpa using hkp) := by congr 1 <;> exact Hfs.out
      rw [e]; simp
    have Hg := Lib.hid hg
    obtain ⟨f, hfk⟩ : ∃ f, f = fs[k] := ⟨_, rfl⟩
    rw [← hfk] at Hyes Hpk Hg
    have hk1 : (k : Int) < (fs.length : Int) := by omega
    have hk1' : (k : Int) < (ps.length : Int) := by omega
    have hk0 : (0 : Int) ≤ (k : Int) := by omega
    clear ht hin hg hfk
    go_enter Tryz.func17, Tryz.ntmps17
    go_wp2_with fail
    refine (impl_hasFile _ fs _ k _ (Hf.out.below (by (repeat (with_reducible first | exact Below.refl _ _ | assumption | refine ba ?_ _ | refine bd ?_ | refine bdN ?_ _ | refine bs ?_ (by first | exact Nat.le_refl _ | (dsimp only; omega) | (simp; done)) _ | refine bt ?_ (by assumption))))) Hz.out (by omega)).mono ?_
    rintro _ w5 ⟨rfl, hb5⟩
    rw [Hok.out]
    have Hx5 := Lib.hid (show Boxed2 w #[.slice aa ps.length ca] 25 #[.slice none 0 0] 25 w5 by unfold Boxed2; (repeat (with_reducible first | exact Below.refl _ _ | assumption | refine ba ?_ _ | refine bd ?_ | refine bdN ?_ _ | refine bs ?_ (by first | exact Nat.le_refl _ | (dsimp only; omega) | (simp; done)) _ | refine bt ?_ (by assumption))))
    have a5 : w5.cell? ⟨w.heap.size, 0, none⟩ = some (.slice aa ps.length ca) := Hx5.out.one.cell 0
    clear hb5
    go_wp2_with fail
    refine (impl_placesOf _ fs (fun _ => True) _ (Hf.out.below (bt Hx5.out.below (by (repeat (with_reducible first | exact Below.refl _ _ | assumption | refine ba ?_ _ | refine bd ?_ | refine bdN ?_ _ | refine bs ?_ (by first | exact Nat.le_refl _ | (dsimp only; omega) | (simp; done)) _ | refine bt ?_ (by assumption)))))) Hp.out (by have := H12.out; omega)).mono ?_
    rintro _ w6 ⟨b6, rfl, hle6, hm6, hb6⟩
    have Hm6 := Lib.hid hm6
    have Hx6 := Lib.hid (Hx5.out.step (show Below w5.heap.size w5 w6 by (repeat (with_reducible first | exact Below.refl _ _ | assumption | refine ba ?_ _ | refine bd ?_ | refine bdN ?_ _ | refine bs ?_ (by first | exact Nat.le_refl _ | (dsimp only; omega) | (simp; done)) _ | refine bt ?_ (by assumption)))))
    clear a5 hm6 hb6
    have a6 : w6.cell? ⟨w.heap.size, 0, none⟩ = some (.slice aa ps.length ca) := Hx6.out.one.cell 0
    have hrow := (H.out.below Hx6.out.below).1
    obtain ⟨g, cap, e1, hg1, hg2⟩ := hrow.form (by omega)
    simp only [Value.slice.injEq] at e1
    obtain ⟨rfl, _, rfl⟩ := e1
    obtain ⟨⟨c0, c1, c2, c3, c4, c5⟩, _⟩ := own6 hrow k hkp
    obtain ⟨ab, cb, hbv⟩ := owns_shape (H.out.2 _ (List.getElem_mem hkp))
    rw [hbv] at c5
    rw [Hg.out] at c0 c1 c2 c3 c4 c5
    obtain ⟨bl, hbl⟩ : ∃ bl, bl = f.body.length := ⟨_, rfl⟩
    rw [← hbl] at c5
    clear hrow hg1 hg2 hbv hbl
    have Hxx := Lib.hid Hg.out
    obtain ⟨fr, fp, fn, fi, fst, fb⟩ := f
    dsimp only at c0 c1 c2 c3 c4 c5
    go_wp2_with fail
    refine (impl_placeOf _ _ _ _ _ _ _).mono ?_
    rintro _ w7 ⟨rfl, hb7⟩
    have Hx7 := Lib.hid (Hx6.out.step (show Below w6.heap.size w6 w7 by (repeat (with_reducible first | exact Below.refl _ _ | assumption | refine ba ?_ _ | refine bd ?_ | refine bdN ?_ _ | refine bs ?_ (by first | exact Nat.le_refl _ | (dsimp only; omega) | (simp; done)) _ | refine bt ?_ (by assumption)))))
    have Hb7 := Lib.hid (show Below w6.heap.size w6 w7 by (repeat (with_reducible first | exact Below.refl _ _ | assumption | refine ba ?_ _ | refine bd ?_ | refine bdN ?_ _ | refine bs ?_ (by first | exact Nat.le_refl _ | (dsimp only; omega) | (simp; done)) _ | refine bt ?_ (by assumption))))
    obtain ⟨w8, hrun, hpl8, hg8⟩ := (Hm6.out.below Hb7.out).del (fr, fp, fn, fi) Hpk.out 0
    have Hpl8 := Lib.hid hpl8
    have Hx8 := Lib.hid (show Boxed2 w #[.slice (some ⟨g, 0, none⟩) ps.length ca] 25 #[.slice none 0 0] 25 w8 from Hx7.out.grown hg8 Hx7.out.size (fun k e => by cases e; simpa using (show w.heap.size + 2 ≤ b6 by have := Hx5.out.lt; omega)))
    clear hpl8 hg8 a6 c0 c1 c2 c3 c4 c5 hb7
    have a8 : w8.cell? ⟨w.heap.size, 0, none⟩ = some (.slice (some ⟨g, 0, none⟩) ps.length ca) := Boxed.cell (Boxed2.one (show Boxed2 w #[.slice (some ⟨g, 0, none⟩) ps.length ca] 25 #[.slice none 0 0] 25 w8 from Hx8.out)) 0
    go_wp2_with fail
    refine (impl_copyAt _ ps b6 _ _ _ (H.out.below (bt Hx8.out.below (by (repeat (with_reducible first | exact Below.refl _ _ | assumption | refine ba ?_ _ | refine bd ?_ | refine bdN ?_ _ | refine bs ?_ (by first | exact Nat.le_refl _ | (dsimp only; omega) | (simp; done)) _ | refine bt ?_ (by assumption)))))) (Hpl8.out.below (by (repeat (with_reducible first | exact Below.refl _ _ | assumption | refine ba ?_ _ | refine bd ?_ | refine bdN ?_ _ | refine bs ?_ (by first | exact Nat.le_refl _ | (dsimp only; omega) | (simp; done)) _ | refine bt ?_ (by assumption))))) (by rw [← Hfs.out]; exact Hp.out) (by have := H12.out; omega) Hb8.out).mono ?_
    rintro _ w9 ⟨v9, qs, rfl, hqs, hown9, hb9⟩
    rw [← Hfs.out] at hqs
    have Hqs := Lib.hid hqs
    obtain ⟨a9, c9, rfl⟩ := hown9.len
    have Hown9 := Lib.hid (hown9.mono (show Below w8.heap.size w8 _ by (repeat (with_reducible first | exact Below.refl _ _ | assumption | refine ba ?_ _ | refine bd ?_ | refine bdN ?_ _ | refine bs ?_ (by first | exact Nat.le_refl _ | (dsimp only; omega) | (simp; done)) _ | refine bt ?_ (by assumption)))).size)
    have Hx9 := Lib.hid (show Boxed2 w #[.slice (some ⟨g, 0, none⟩) ps.length ca] 25 #[.slice none 0 0] 25 w9 from Hx8.out.step (show Below w8.heap.size w8 w9 by (repeat (with_reducible first | exact Below.refl _ _ | assumption | refine ba ?_ _ | refine bd ?_ | refine bdN ?_ _ | refine bs ?_ (by first | exact Nat.le_refl _ | (dsimp only; omega) | (simp; done)) _ | refine bt ?_ (by assumption)))))
    clear hown9 hqs a8 hb9
    generalize qs.length = qn at *
    have q0 : w9.cell? ⟨w.heap.size + 1, 0, none⟩ = some (.slice none 0 0) := Hx9.out.cell 0
    have f0 : w9.frozen? ⟨w.heap.size + 1, 0, none⟩ = false := (by have := box_free Hx9.out.two 0; simpa using this)
    have s9 := Hx9.out.lt
    have Hz8 := Lib.hid (show w.heap.size + 2 ≤ w8.heap.size by have := Hpl8.out.lt; have := Boxed2.lt Hx8.out; omega)
    go_wp2_with fail
    refine bodyPost_ret (v := .tuple #[.agg #[.slice a9 qn c9], .bool true]) (by simp [results, Tryz.results17, go_sem, *]) rfl ?_
    have hbw := Hx9.out.below
    rw [← Hyes.out]
    refine ⟨_, qs, rfl, Hqs.out, ?_, by (repeat (with_reducible first | exact Below.refl _ _ | assumption | refine ba ?_ _ | refine bd ?_ | refine bdN ?_ _ | refine bs ?_ (by first | exact Nat.le_refl _ | (dsimp only; omega) | (simp; done)) _ | refine bt ?_ (by assumption)))⟩
    exact ((Hown9.out.mono (B' := w.heap.size + 2) Hz8.out).set_low (by dsimp only; omega) _).mono (by omega)

set_option maxRecDepth 100000 in
set_option maxHeartbeats 4000000 in
theorem impl_EditFile (v : Value) (ps : List (Fil × Value)) (i st : Int) (bv : Value) (body : List Stm) (w : World) (h : RowsF w v ps) (hz : ShortT 2000000 (ps.map (·.1))) (hn : ps.length ≤ 9000000) (hb : w.ownsRow 0 132 5 bv body.length (body.flatMap stmCells)) (hbz : Short 8000000 body) :
    Calls Tryz.prog 9 #[.agg #[v], .int .i64 i, .int .i64 st, bv] w (NewTreeB (edFil (ps.map (·.1)) i st body) w) := by
  have H := Lib.hid h
  have Hb := Lib.hid hb
  have Hbz := Lib.hid hbz
  have Hz := Lib.hid (show ShortT 8000000 (ps.map (·.1)) from fun f hf => shortF_mono (by omega) (hz f hf))
  have Hf := Lib.hid h.fils
  have hlen : (ps.map (·.1)).length = ps.length := List.length_map ..
  obtain ⟨aa, ca, rfl⟩ := h.len
  obtain ⟨ab, cb, rfl⟩ := owns_shape hb
  obtain ⟨fs, hfs⟩ : ∃ fs, fs = ps.map (·.1) := ⟨_, rfl⟩
  rw [← hfs] at Hz Hf hlen ⊢
  have Hfs := Lib.hid hfs
  clear h hz hfs hb hbz
  cases hok : (okTree fs && inr i 0 ((fs.length : Int) - 1))
  · have Hok := Lib.hid hok
    have Hno := Lib.hid (edFil_no (st := st) (b := body) hok)
    clear hok
    go_enter Tryz.func9, Tryz.ntmps9
    go_wp2_with fail
    refine (impl_hasFile _ fs _ i _ (Hf.out.below (by (repeat (with_reducible first | exact Below.refl _ _ | assumption | refine ba ?_ _ | refine bd ?_ | refine bdN ?_ _ | refine bs ?_ (by first | exact Nat.le_refl _ | (dsimp only; omega) | (simp; done)) _ | refine bt ?_ (by assumption))))) Hz.out (by omega)).mono ?_
    rintro _ w5 ⟨rfl, hb5⟩
    rw [Hok.out]
    obtain ⟨hc, hf, hs⟩ := bcell hb5
    go_wp2_with fail
    exact bodyPost_ret (v := .tuple #[.agg #[.slice none 0 0], .bool false]) (by simp [results, Tryz.results9, go_sem, hc, hs]) rfl (treeB_no Hno.out (by (repeat (with_reducible first | exact Below.refl _ _ | assumption | refine ba ?_ _ | refine bd ?_ | refine bdN ?_ _ | refine bs ?_ (by first | exact Nat.le_refl _ | (dsimp only; omega) | (simp; done)) _ | refine bt ?_ (by assumption)))))
  · have Hok := Lib.hid hok
    simp only [Bool.and_eq_true] at hok
    obtain ⟨ht, hin⟩ := hok
    obtain ⟨k, hk, rfl⟩ := inr_nat hin
    have hkp : k < ps.length := by omega
    have Hyes := Lib.hid (edFil_yes (st := st) (b := body) ht hk)
    have H12 := Lib.hid (okTree_all ht).2.2
    have Hmt := Lib.hid (show (ps.set k (turned ps[k].1 st body, .slice ab body.length cb)).map (·.1) = fs.modify k (fun f => turned f st body) by rw [Hfs.out]; exact map_turned ps k hkp st body _)
    have Hzm := Lib.hid (show ShortT 8000000 (fs.modify k (fun f => turned f st body)) from fun f hf => by
      rw [← Hmt.out] at hf
      obtain ⟨p, hp, rfl⟩ := List.mem_map.1 hf
      rcases List.mem_or_eq_of_mem_set hp with hp | rfl
      · exact Hz.out _ (by rw [Hfs.out]; exact List.mem_map.2 ⟨p, hp, rfl⟩)
      · have h0 := Hz.out ps[k].1 (by rw [Hfs.out]; exact List.mem_map.2 ⟨_, List.getElem_mem hkp, rfl⟩)
        exact ⟨h0.1, h0.2.1, Hbz.out⟩)
    have hk1 : (k : Int) < (fs.length : Int) := by omega
    have hk1' : (k : Int) < (ps.length : Int) := by omega
    have hk0 : (0 : Int) ≤ (k : Int) := by omega
    clear ht hin
    go_enter Tryz.func9, Tryz.ntmps9
    go_wp2_with fail
    refine (impl_hasFile _ fs _ k _ (Hf.out.below (by (repeat (with_reducible first | exact Below.refl _ _ | assumption | refine ba ?_ _ | refine bd ?_ | refine bdN ?_ _ | refine bs ?_ (by first | exact Nat.le_refl _ | (dsimp only; omega) | (simp; done)) _ | refine bt ?_ (by assumption))))) Hz.out (by omega)).mono ?_
    rintro _ w5 ⟨rfl, hb5⟩
    rw [Hok.out]
    have Hx5 := Lib.hid (show Boxed2 w #[.slice aa ps.length ca] 25 #[.slice none 0 0] 25 w5 by unfold Boxed2; (repeat (with_reducible first | exact Below.refl _ _ | assumption | refine ba ?_ _ | refine bd ?_ | refine bdN ?_ _ | refine bs ?_ (by first | exact Nat.le_refl _ | (dsimp only; omega) | (simp; done)) _ | refine bt ?_ (by assumption))))
    have a5 : w5.cell? ⟨w.heap.size, 0, none⟩ = some (.slice aa ps.length ca) := Hx5.out.one.cell 0
    clear hb5
    go_wp2_with fail
    refine (slices_Clone _ ps _ (H.out.below (bt Hx5.out.below (by (repeat (with_reducible first | exact Below.refl _ _ | assumption | refine ba ?_ _ | refine bd ?_ | refine bdN ?_ _ | refine bs ?_ (by first | exact Nat.le_refl _ | (dsimp only; omega) | (simp; done)) _ | refine bt ?_ (by assumption)))))) (by have := H12.out; omega)).mono ?_
    rintro _ w6 ⟨v6, rfl, hown6, hb6⟩
    have hown6 := owns_mono hown6 (show Below w5.heap.size w5 _ by (repeat (with_reducible first | exact Below.refl _ _ | assumption | refine ba ?_ _ | refine bd ?_ | refine bdN ?_ _ | refine bs ?_ (by first | exact Nat.le_refl _ | (dsimp only; omega) | (simp; done)) _ | refine bt ?_ (by assumption)))).size
    have Hx6 := Lib.hid (Hx5.out.step (show Below w5.heap.size w5 w6 by (repeat (with_reducible first | exact Below.refl _ _ | assumption | refine ba ?_ _ | refine bd ?_ | refine bdN ?_ _ | refine bs ?_ (by first | exact Nat.le_refl _ | (dsimp only; omega) | (simp; done)) _ | refine bt ?_ (by assumption)))))
    have Hb56 := Lib.hid (show Below w5.heap.size w5 w6 by (repeat (with_reducible first | exact Below.refl _ _ | assumption | refine ba ?_ _ | refine bd ?_ | refine bdN ?_ _ | refine bs ?_ (by first | exact Nat.le_refl _ | (dsimp only; omega) | (simp; done)) _ | refine bt ?_ (by assumption))))
    clear a5 hb6
    obtain ⟨g, cap, rfl, hg1, hg2⟩ := hown6.form (by omega)
    obtain ⟨⟨c0, c1, c2, c3, c4, c5⟩, f0, f1, f2, f3, f4, f5⟩ := own6 hown6 k hkp
    obtain ⟨ae, ce, hbv⟩ := owns_shape (H.out.2 _ (List.getElem_mem hkp))
    have Hw := Lib.hid ((hown6.stored (k * 6 + 4) (.int .i64 st)).1.stored (k * 6 + 5) (.slice ab body.length cb)).1
    rw [put45 ps k hkp st body] at Hw
    have HR := Lib.hid (show RowsF ((w6.setCell ⟨g, k * 6 + 4, none⟩ (.int .i64 st)).setCell ⟨g, k * 6 + 5, none⟩ (.slice ab body.length cb)) (.slice (some ⟨g, 0, none⟩) ps.length cap) (ps.set k (turned ps[k].1 st body, .slice ab body.length cb)) from by
      have hbw : Below w5.heap.size w5 ((w6.setCell ⟨g, k * 6 + 4, none⟩ (.int .i64 st)).setCell ⟨g, k * 6 + 5, none⟩ (.slice ab body.length cb)) := bs (bs Hb56.out hg1 _) hg1 _
      refine ⟨by rw [List.length_set]; exact owns_mono Hw.out (Nat.zero_le _), fun p hp => ?_⟩
      rcases List.mem_or_eq_of_mem_set hp with hp | rfl
      · exact owns_below (H.out.2 p hp) (bt Hx5.out.below hbw)
      · exact owns_below Hb.out (bt Hx5.out.below hbw))
    have HbW := Lib.hid (show Below w5.heap.size w5 ((w6.setCell ⟨g, k * 6 + 4, none⟩ (.int .i64 st)).setCell ⟨g, k * 6 + 5, none⟩ (.slice ab body.length cb)) from bs (bs Hb56.out hg1 _) hg1 _)
    clear hown6 c0 c1 c2 c3 f0 f1 f2 f3
    go_wp2_with fail
    refine (copyIfValid_as _ (ps.set k (turned ps[k].1 st body, .slice ab body.length cb)) (fs.modify k (fun f => turned f st body)) (edFil fs k st body) _ (HR.out.below (by (repeat (with_reducible first | exact Below.refl _ _ | assumption | refine ba ?_ _ | refine bd ?_ | refine bdN ?_ _ | refine bs ?_ (by first | exact Nat.le_refl _ | (dsimp only; omega) | (simp; done)) _ | refine bt ?_ (by assumption))))) Hzm.out Hmt.out Hyes.out).mono ?_
    rintro _ w7 ⟨v7, qs, rfl, hqs, hown7, hb7⟩
    have Hqs := Lib.hid hqs
    obtain ⟨a7, c7, rfl⟩ := hown7.len
    have Hx7 := Lib.hid (Hx5.out.step (bt HbW.out (show Below ((w6.setCell ⟨g, k * 6 + 4, none⟩ (.int .i64 st)).setCell ⟨g, k * 6 + 5, none⟩ (.slice ab body.length cb)).heap.size _ w7 by (repeat (with_reducible first | exact Below.refl _ _ | assumption | refine ba ?_ _ | refine bd ?_ | refine bdN ?_ _ | refine bs ?_ (by first | exact Nat.le_refl _ | (dsimp only; omega) | (simp; done)) _ | refine bt ?_ (by assumption))))))
    have hzW := HbW.out.size
    have Hown7 := Lib.hid (hown7.mono (B' := w5.heap.size) (Nat.le_trans hzW (show Below ((w6.setCell ⟨g, k * 6 + 4, none⟩ (.int .i64 st)).setCell ⟨g, k * 6 + 5, none⟩ (.slice ab body.length cb)).heap.size _ _ by (repeat (with_reducible first | exact Below.refl _ _ | assumption | refine ba ?_ _ | refine bd ?_ | refine bdN ?_ _ | refine bs ?_ (by first | exact Nat.le_refl _ | (dsimp only; omega) | (simp; done)) _ | refine bt ?_ (by assumption)))).size))
    clear hown7 hqs hb7
    generalize qs.length = qn at *
    have q0 : w7.cell? ⟨w.heap.size + 1, 0, none⟩ = some (.slice none 0 0) := Hx7.out.cell 0
    have f0 : w7.frozen? ⟨w.heap.size + 1, 0, none⟩ = false := (by have := box_free Hx7.out.two 0; simpa using this)
    have s7 := Hx7.out.lt
    go_wp2_with fail
    refine bodyPost_ret (v := .tuple #[.agg #[.slice a7 qn c7], .bool (edFil fs k st body).2]) (by simp [results, Tryz.results9, go_sem, *]) rfl ?_
    have hbw := Hx7.out.below
    refine ⟨_, qs, rfl, Hqs.out, ?_, by (repeat (with_reducible first | exact Below.refl _ _ | assumption | refine ba ?_ _ | refine bd ?_ | refine bdN ?_ _ | refine bs ?_ (by first | exact Nat.le_refl _ | (dsimp only; omega) | (simp; done)) _ | refine bt ?_ (by assumption)))⟩
    have h5 := Hx5.out.lt
    exact ((Hown7.out.mono (B' := w.heap.size + 2) (by omega)).set_low (by dsimp only; omega) _).mono (by omega)
end Go.Proofs.YtfelbhpgifgkcaaGreat
