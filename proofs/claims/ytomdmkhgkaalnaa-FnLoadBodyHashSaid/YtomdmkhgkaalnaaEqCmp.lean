/- The laws' look at what is compiled. -/
import Derived.Test.YtomdmkhgkaalnaaEqLaw
import Derived.Test.YtomdmkhgkaalnaaStoreMem
import Derived.StillTailTactics
set_option linter.unusedVariables false
set_option linter.unusedSimpArgs false
namespace Go.Proofs.Ytomdmkhgkaalnaa
open Go.RowKit Go.Proofs.Ytomdmkhgkaalnaa.Nm

set_option maxRecDepth 100000 in
set_option maxHeartbeats 2000000 in
/-- What is compiled of one file is equal to itself, wherever its body lies. -/
theorem laws_equalCompiled (x0 : Int) (x1 : Bs) (x2 : Bool) (x3 x4 x5 x6 : Int) (bv bv' : Value) (body : List Stm) (D D' : Nat → Prop) (w : World) (hr : StmsIn w D bv body) (hr' : StmsIn w D' bv' body) :
    Calls Try.prog 106 #[.agg #[.int .i64 x0, .string (mk x1), .bool x2, .int .i64 x3, .int .i64 x4, .int .i64 x5, .int .i64 x6, bv], .agg #[.int .i64 x0, .string (mk x1), .bool x2, .int .i64 x3, .int .i64 x4, .int .i64 x5, .int .i64 x6, bv']] w
      fun e w' => e = .returned (.bool true) ∧ Below w.heap.size w w' := by
  have Hr := Lib.hid hr
  have Hr' := Lib.hid hr'
  obtain ⟨aa, ca, rfl, hl, hm⟩ := hr.len
  obtain ⟨aa', ca', rfl, hl', hm'⟩ := hr'.len
  clear hr hr' hm hm' hl hl'
  go_enter Try.func106, Try.ntmps106
  go_wp2_with (go_at_call 42; refine (laws_equalBody _ _ body body D D' _ (Hr.out.below (by (repeat (with_reducible first | exact Below.refl _ _ | assumption | refine ba ?_ _ | refine bd ?_ | refine bdN ?_ _ | refine bs ?_ (by first | exact Nat.le_refl _ | (dsimp only; omega) | (simp; done)) _ | refine bt ?_ (by assumption))))) (Hr'.out.below (by (repeat (with_reducible first | exact Below.refl _ _ | assumption | refine ba ?_ _ | refine bd ?_ | refine bdN ?_ _ | refine bs ?_ (by first | exact Nat.le_refl _ | (dsimp only; omega) | (simp; done)) _ | refine bt ?_ (by assumption)))))).mono ?_; rintro _ w5 ⟨rfl, hb5⟩; rw [decide_eq_true rfl]; obtain ⟨hc, hf, hs⟩ := bcell hb5)
  all_goals (go_ret; refine ⟨ret_bool ?_, by (repeat (with_reducible first | exact Below.refl _ _ | assumption | refine ba ?_ _ | refine bd ?_ | refine bdN ?_ _ | refine bs ?_ (by first | exact Nat.le_refl _ | (dsimp only; omega) | (simp; done)) _ | refine bt ?_ (by assumption)))⟩; simp_all)

/-! ### The laws' look at stores: a store is equal to itself, wherever it lies. -/
set_option maxRecDepth 100000 in
set_option maxHeartbeats 2000000 in
theorem laws_equalStore (v v' : Value) (cs : List Cmp) (D D' : Nat → Prop) (w : World) (hr : CmpsIn w D v cs) (hr' : CmpsIn w D' v' cs) :
    Calls Try.prog 43 #[v, v'] w fun e w' => e = .returned (.bool true) ∧ Below w.heap.size w w' := by
  have Hr := Lib.hid hr
  have Hr' := Lib.hid hr'
  obtain ⟨aa, ca, rfl, hl, hm⟩ := hr.len
  obtain ⟨aa', ca', rfl, hl', hm'⟩ := hr'.len
  unfold maxLen at hm hm'
  clear hr hr'
  go_enter Try.func43, Try.ntmps43
  go_wp2_with fail
  go_loopw [5] (fun iv wr => ∃ k : Nat, k ≤ cs.length ∧ iv = .int .i64 k ∧ Below w.heap.size w wr) (fun iv _ => cs.length - (intOf iv).toNat)
  case atStart => exact ⟨0, by omega, rfl, Below.refl _ _⟩
  case round =>
    obtain ⟨k, hk, rfl, hbel⟩ := hrel
    have Hbel := Lib.hid hbel
    by_cases hlt : k < cs.length
    · obtain ⟨b, off, cap, bv, e, hD, hb, hbody, c0, c1, c2, c3, c4, c5, c6, c7⟩ := (Hr.out.below hbel).at_ hlt
      obtain ⟨b', off', cap', bv', e', hD', hb', hbody', c0', c1', c2', c3', c4', c5', c6', c7'⟩ := (Hr'.out.below hbel).at_ hlt
      simp only [Value.slice.injEq] at e e'
      obtain ⟨rfl, hn1, rfl⟩ := e
      obtain ⟨rfl, hn2, rfl⟩ := e'
      clear hn1 hn2
      obtain ⟨ba1, bc1, rfl, _, _⟩ := hbody.len
      obtain ⟨ba2, bc2, rfl, _, _⟩ := hbody'.len
      have Hbody := Lib.hid hbody
      have Hbody' := Lib.hid hbody'
      obtain ⟨s, hs⟩ : ∃ s, s = cs[k] := ⟨_, rfl⟩
      rw [← hs] at c0 c1 c2 c3 c4 c5 c6 c7 c0' c1' c2' c3' c4' c5' c6' c7' Hbody Hbody'
      clear hs hbody hbody'
      obtain ⟨x0, x1, x2, x3, x4, x5, x6, fb⟩ := s
      dsimp only at c0 c1 c2 c3 c4 c5 c6 c7 c0' c1' c2' c3' c4' c5' c6' c7' Hbody Hbody'
      have hk1 : (k : Int) < (cs.length : Int) := by omega
      have hk0 : (0 : Int) ≤ (k : Int) := by omega
      go_wp2_with fail
      go_still_tail 8, (by kernel_rfl)
      go_wp2_with (go_at_call 106; refine (laws_equalCompiled _ _ _ _ _ _ _ _ _ fb D D' _ (Hbody.out.below (by (repeat (with_reducible first | exact Below.refl _ _ | assumption | refine ba ?_ _ | refine bd ?_ | refine bdN ?_ _ | refine bs ?_ (by first | exact Nat.le_refl _ | (dsimp only; omega) | (simp; done)) _ | refine bt ?_ (by assumption))))) (Hbody'.out.below (by (repeat (with_reducible first | exact Below.refl _ _ | assumption | refine ba ?_ _ | refine bd ?_ | refine bdN ?_ _ | refine bs ?_ (by first | exact Nat.le_refl _ | (dsimp only; omega) | (simp; done)) _ | refine bt ?_ (by assumption)))))).mono ?_; rintro _ w5 ⟨rfl, hb5⟩)
      go_roundw
      case rel => exact ⟨k + 1, by omega, by go_num, bt Hbel.out (by (repeat (with_reducible first | exact Below.refl _ _ | assumption | refine ba ?_ _ | refine bd ?_ | refine bdN ?_ _ | refine bs ?_ (by first | exact Nat.le_refl _ | (dsimp only; omega) | (simp; done)) _ | refine bt ?_ (by assumption))))⟩
      case measure => simp [intOf]; omega
    · go_wp2_with fail
      go_ret
      exact ⟨rfl, hbel⟩
end Go.Proofs.Ytomdmkhgkaalnaa
