/- Words for the walks of exact laws: boxes, and what stays when marks are written. -/
import Derived.Test.YtomdmkhgkaalnaaBoxT
import Derived.Test.YtomdmkhgkaalnaaMarks2
import Derived.Test.YtomdmkhgkaalnaaStrs
import Derived.Test.YtomdmkhgkaalnaaPlainG
set_option linter.unusedVariables false
set_option linter.unusedSimpArgs false
namespace Go.Proofs.Ytomdmkhgkaalnaa
open Go.RowKit Go.Proofs.Ytomdmkhgkaalnaa.Nm

theorem fils_turned {w w' : World} {B : Nat} {v : Value} {ps : List (Fil × Value)} {S : Nat → Prop} (h : OwnFils w B v ps) (ht : Turned S w w') (hs : ∀ b, BlkF v ps b → ¬ S b) : OwnFils w' B v ps :=
  ⟨owns_turned h.1 ht (fun b hb => hs b (.inl hb)), bodies_turned h.2 ht (fun p hp b hb => hs b (.inr ⟨p, hp, hb⟩))⟩
theorem end_fine {t : List Fil} (h1 : t.all okFil = true) (h2 : t.length ≤ 12) (k : Nat) : endF k t ≤ k + 1000 := by
  have h := endF_le k t
  have := bodies_sum h1
  omega
theorem lt_irr (n : Nat) : ¬ ((n : Int) < 0) := Int.not_lt.2 (Int.natCast_nonneg _)
end Go.Proofs.Ytomdmkhgkaalnaa
