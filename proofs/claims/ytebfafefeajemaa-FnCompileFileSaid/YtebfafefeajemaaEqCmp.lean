/- The laws' look at what is compiled. -/
import Derived.Test.YtebfafefeajemaaEqLaw
import Derived.Test.YtebfafefeajemaaStoreMem
set_option linter.unusedVariables false
set_option linter.unusedSimpArgs false
namespace Go.Proofs.Ytebfafefeajemaa
open Go.RowKit Go.Proofs.Ytebfafefeajemaa.Nm

set_option maxRecDepth 100000 in
set_option maxHeartbeats 2000000 in
/-- What is compiled of one file is equal to itself, wherever its body lies. -/
theorem laws_equalCompiled (x0 : Int) (x1 : Bs) (x2 : Bool) (x3 x4 x5 x6 : Int) (bv bv' : Value) (body : List Stm) (D D' : Nat → Prop) (w : World) (hr : StmsIn w D bv body) (hr' : StmsIn w D' bv' body) :
    Calls Try.prog 51 #[.agg #[.int .i64 x0, .string (mk x1), .bool x2, .int .i64 x3, .int .i64 x4, .int .i64 x5, .int .i64 x6, bv], .agg #[.int .i64 x0, .string (mk x1), .bool x2, .int .i64 x3, .int .i64 x4, .int .i64 x5, .int .i64 x6, bv']] w
      fun e w' => e = .returned (.bool true) ∧ Below w.heap.size w w' := by
  have Hr := Lib.hid hr
  have Hr' := Lib.hid hr'
  obtain ⟨aa, ca, rfl, hl, hm⟩ := hr.len
  obtain ⟨aa', ca', rfl, hl', hm'⟩ := hr'.len
  clear hr hr' hm hm' hl hl'
  go_enter Try.func51, Try.ntmps51
  go_wp2_with (go_at_call 53; refine (laws_equalBody _ _ body body D D' _ (Hr.out.below (by (repeat (with_reducible first | exact Below.refl _ _ | assumption | refine ba ?_ _ | refine bd ?_ | refine bdN ?_ _ | refine bs ?_ (by first | exact Nat.le_refl _ | (dsimp only; omega) | (simp; done)) _ | refine bt ?_ (by assumption))))) (Hr'.out.below (by (repeat (with_reducible first | exact Below.refl _ _ | assumption | refine ba ?_ _ | refine bd ?_ | refine bdN ?_ _ | refine bs ?_ (by first | exact Nat.le_refl _ | (dsimp only; omega) | (simp; done)) _ | refine bt ?_ (by assumption)))))).mono ?_; rintro _ w5 ⟨rfl, hb5⟩; rw [decide_eq_true rfl]; obtain ⟨hc, hf, hs⟩ := bcell hb5)
  all_goals (go_ret; refine ⟨ret_bool ?_, by (repeat (with_reducible first | exact Below.refl _ _ | assumption | refine ba ?_ _ | refine bd ?_ | refine bdN ?_ _ | refine bs ?_ (by first | exact Nat.le_refl _ | (dsimp only; omega) | (simp; done)) _ | refine bt ?_ (by assumption)))⟩; simp_all)
end Go.Proofs.Ytebfafefeajemaa
