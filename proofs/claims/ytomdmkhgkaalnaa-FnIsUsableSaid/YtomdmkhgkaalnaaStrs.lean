/- Contracts of the exact laws' looks at lists of texts: equal, marked, held, sized, copied. -/
import Derived.Test.YtomdmkhgkaalnaaMarks
import Derived.Test.YtomdmkhgkaalnaaVp
import Derived.Test.YtomdmkhgkaalnaaIn
import Derived.OwnWalk
import Derived.Deep.RegionHeld3
import Derived.Deep.AppendLies
set_option linter.unusedVariables false
set_option linter.unusedSimpArgs false
namespace Go.Proofs.Ytomdmkhgkaalnaa
open Go.RowKit Go.Proofs.Ytomdmkhgkaalnaa.Nm

/-- n marks from k on. -/
def marks (k n : Nat) : List Bs := (List.range n).map (fun i => mt (k + i))
theorem marks_len (k n : Nat) : (marks k n).length = n := by simp [marks]
theorem marks_get (k n i : Nat) (h : i < (marks k n).length) : (marks k n)[i] = mt (k + i) := by simp [marks]
theorem marks_succ (k n : Nat) : marks k (n + 1) = marks k n ++ [mt (k + n)] := by simp [marks, List.range_succ]
theorem marks_set (k i : Nat) (xs : List Bs) (h : i < xs.length) : ((marks k i ++ xs.drop i).map sv).set i (sv (mt (k + i))) = (marks k (i + 1) ++ xs.drop (i + 1)).map sv := by
  rw [List.map_append, List.set_append_right _ _ (by simp [marks_len])]
  rw [List.length_map, marks_len, Nat.sub_self, List.drop_eq_getElem_cons h, List.map_cons, List.set_cons_zero, marks_succ, List.map_append, List.map_append, List.append_assoc]
  rfl




/-- The letters of texts together. -/
def tot (xs : List Bs) : Nat := (xs.map List.length).sum
theorem tot_snoc (xs : List Bs) (i : Nat) (h : i < xs.length) : tot (xs.take (i + 1)) = tot (xs.take i) + xs[i].length := by
  unfold tot; rw [List.take_succ_eq_append_getElem h, List.map_append, List.sum_append]; simp
def SzPost (xs : List Bs) (left : Nat) (w : World) (e : Ending) (w' : World) : Prop :=
  ∃ r : Int, e = .returned (.int .i64 r) ∧ ((0 ≤ r ∧ xs.length + tot xs ≤ left) ∨ r = -1) ∧ w = w'


end Go.Proofs.Ytomdmkhgkaalnaa
