/- Words for the walks of exact laws: boxes, and what stays when marks are written. -/
import Derived.Test.YtebfafefeajemaaBoxT
import Derived.Test.YtebfafefeajemaaMarks2
import Derived.Test.YtebfafefeajemaaStrs
import Derived.Test.YtebfafefeajemaaPlainG
set_option linter.unusedVariables false
set_option linter.unusedSimpArgs false
namespace Go.Proofs.Ytebfafefeajemaa
open Go.RowKit Go.Proofs.Ytebfafefeajemaa.Nm

theorem fils_turned {w w' : World} {B : Nat} {v : Value} {ps : List (Fil × Value)} {S : Nat → Prop} (h : OwnFils w B v ps) (ht : Turned S w w') (hs : ∀ b, BlkF v ps b → ¬ S b) : OwnFils w' B v ps :=
  ⟨owns_turned h.1 ht (fun b hb => hs b (.inl hb)), bodies_turned h.2 ht (fun p hp b hb => hs b (.inr ⟨p, hp, hb⟩))⟩
set_option maxRecDepth 100000 in
set_option maxHeartbeats 1000000 in
theorem laws_markFile (B : Nat) (r st : Int) (p n : Bs) (i : Bool) (v : Value) (ss : List Stm) (k : Nat) (w : World) (hown : w.ownsRow B 110 5 v ss.length (ss.flatMap stmCells)) (h1 : 1 ≤ k) (h9 : k + 5 * ss.length ≤ 9000000) :
    Calls Try.prog 20 #[.agg #[.int .i64 r, .string (mk p), .string (mk n), .bool i, .int .i64 st, v], .int .i64 k] w fun e w' => e = .returned (.int .i64 ((k + 5 * ss.length : Nat) : Int)) ∧ w'.ownsRow B 110 5 v ss.length ((marksS k ss.length).flatMap stmCells) ∧ Turned (fun b => v.ownBlock = some b) w w' := by
  obtain ⟨aa, ca, rfl⟩ := owns_shape hown
  have Hown := Lib.hid hown
  clear hown
  go_enter Try.func20, Try.ntmps20
  go_wp2_with fail
  refine (laws_markStmtS B _ ss k _ (owns_below Hown.out (by (repeat (with_reducible first | exact Below.refl _ _ | assumption | refine ba ?_ _ | refine bd ?_ | refine bdN ?_ _ | refine bs ?_ (by first | exact Nat.le_refl _ | (dsimp only; omega) | (simp; done)) _ | refine bt ?_ (by assumption))))) h1 h9).mono ?_
  rintro _ w5 ⟨rfl, ho5, ht5⟩
  have Ho5 := Lib.hid ho5
  have Ht5 := Lib.hid ht5
  clear ho5 ht5
  go_wp2_with fail
  go_ret
  exact ⟨rfl, Ho5.out, (Turned.of_below (by (repeat (with_reducible first | exact Below.refl _ _ | assumption | refine ba ?_ _ | refine bd ?_ | refine bdN ?_ _ | refine bs ?_ (by first | exact Nat.le_refl _ | (dsimp only; omega) | (simp; done)) _ | refine bt ?_ (by assumption))))).trans Ht5.out⟩
theorem end_fine {t : List Fil} (h1 : t.all okFil = true) (h2 : t.length ≤ 12) (k : Nat) : endF k t ≤ k + 1000 := by
  have h := endF_le k t
  have := bodies_sum h1
  omega
theorem lt_irr (n : Nat) : ¬ ((n : Int) < 0) := Int.not_lt.2 (Int.natCast_nonneg _)
end Go.Proofs.Ytebfafefeajemaa
