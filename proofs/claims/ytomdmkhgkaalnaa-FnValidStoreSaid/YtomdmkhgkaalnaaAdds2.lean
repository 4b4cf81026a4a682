/- Contracts of the program's functions that give a tree without a file, or with one that is edited. -/
import Derived.Test.YtomdmkhgkaalnaaAdds
set_option linter.unusedVariables false
set_option linter.unusedSimpArgs false
namespace Go.Proofs.Ytomdmkhgkaalnaa
open Go.RowKit Go.Proofs.Ytomdmkhgkaalnaa.Nm

theorem put45 (L : List (Fil × Value)) (i : Nat) (hi : i < L.length) (st : Int) (b : List Stm) (bv : Value) :
    ((L.flatMap filCells).set (i * 6 + 4) (.int .i64 st)).set (i * 6 + 5) bv = (L.set i (turned L[i].1 st b, bv)).flatMap filCells := by
  have hA := fm_take_len filCells 6 L i hi filCells_len
  have ha : filCells L[i] = [.int .i64 L[i].1.root, .string (mk L[i].1.pack), .string (mk L[i].1.name), .bool L[i].1.init, .int .i64 L[i].1.stamp, L[i].2] := rfl
  rw [fm_split filCells L i hi, ha, fm_put filCells L i _ hi]
  rw [set_mid _ _ _ (i * 6) 4 _ hA (by simp), set_mid _ _ _ (i * 6) 5 _ hA (by simp)]
  rfl
theorem map_turned (ps : List (Fil × Value)) (i : Nat) (hi : i < ps.length) (st : Int) (b : List Stm) (bv : Value) :
    (ps.set i (turned ps[i].1 st b, bv)).map (·.1) = (ps.map (·.1)).modify i (fun f => turned f st b) := by
  rw [List.map_set]
  apply List.ext_getElem?
  intro j
  by_cases e : i = j
  · subst e; simp [hi, List.getElem?_modify]
  · simp [e, List.getElem?_modify, List.getElem?_set_ne e]
theorem remFil_no {t : List Fil} {i : Int} (h : (okTree t && inr i 0 ((t.length : Int) - 1)) = false) : remFil t i = ([], false) := by unfold remFil; rw [h]; rfl
theorem edFil_no {t : List Fil} {i st : Int} {b : List Stm} (h : (okTree t && inr i 0 ((t.length : Int) - 1)) = false) : edFil t i st b = ([], false) := by unfold edFil; rw [h]; rfl
theorem edFil_yes {t : List Fil} {k : Nat} {st : Int} {b : List Stm} (h : okTree t = true) (hk : k < t.length) : (if okTree (t.modify k (fun f => turned f st b)) then (t.modify k (fun f => turned f st b), true) else ([], false)) = edFil t k st b := by
  unfold edFil
  rw [okTree_modify h hk, h]
  have hi : inr (k : Int) 0 ((t.length : Int) - 1) = true := by unfold inr; simp; omega
  rw [hi]
  simp
theorem inr_nat {i : Int} {n : Nat} (h : inr i 0 ((n : Int) - 1) = true) : ∃ k : Nat, k < n ∧ i = (k : Int) := by
  unfold inr at h
  simp only [Bool.and_eq_true, decide_eq_true_eq] at h
  exact ⟨i.toNat, by omega, by omega⟩


end Go.Proofs.Ytomdmkhgkaalnaa
