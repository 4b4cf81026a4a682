/- Contracts of the functions that say whether a file is valid, and that tell its module. -/
import Derived.Test.YtolhgklbkjdpiaaGreatBodies
import Derived.Test.YtolhgklbkjdpiaaGreatTreeMem2
import Derived.Test.YtolhgklbkjdpiaaGreatPlainF
set_option linter.unusedVariables false
set_option linter.unusedSimpArgs false
namespace Go.Proofs.YtolhgklbkjdpiaaGreat
open Go.RowKit Go.Proofs.YtolhgklbkjdpiaaGreat.Nm

set_option maxRecDepth 100000 in
set_option maxHeartbeats 400000 in
theorem impl_moduleAt (r st : Int) (p n : Bs) (i : Bool) (bv : Value) (body : List Stm) (w : World) (hp : p.length ≤ 8000000) (hn : n.length ≤ 8000000) :
    Calls Tryz.prog 63 #[.agg #[.int .i64 r, .string (mk p), .string (mk n), .bool i, .int .i64 st, bv]] w
      fun e w' => e = .returned (.string (mk (modAt ⟨r, p, n, i, st, body⟩))) ∧ Below w.heap.size w w' := by
  cases i
  · have Hv := Lib.hid (show modAt ⟨r, p, n, false, st, body⟩ = childOf p n from rfl)
    go_enter Tryz.func63, Tryz.ntmps63
    go_wp2_with (go_at_call 90; refine (impl_ChildOf _ _ _ (by omega) (by omega)).mono ?_; (rintro _ _ ⟨rfl, hb⟩; obtain ⟨hc, hf, hs⟩ := bcell hb))
    go_ret
    rw [Hv.out]
    exact ⟨rfl, by (repeat (with_reducible first | exact Below.refl _ _ | assumption | refine ba ?_ _ | refine bd ?_ | refine bdN ?_ _ | refine bs ?_ (by first | exact Nat.le_refl _ | (dsimp only; omega) | (simp; done)) _ | refine bt ?_ (by assumption)))⟩
  · have Hv := Lib.hid (show modAt ⟨r, p, n, true, st, body⟩ = if n = [] then nameOr p else [] from rfl)
    go_enter Tryz.func63, Tryz.ntmps63
    go_wp2_with (go_at_call 91; refine (impl_nameOrNothing _ _ (by omega)).mono ?_; (rintro _ _ ⟨rfl, hb⟩; obtain ⟨hc, hf, hs⟩ := bcell hb))
    all_goals (go_ret; rw [Hv.out]; refine ⟨ret_str ?_, by (repeat (with_reducible first | exact Below.refl _ _ | assumption | refine ba ?_ _ | refine bd ?_ | refine bdN ?_ _ | refine bs ?_ (by first | exact Nat.le_refl _ | (dsimp only; omega) | (simp; done)) _ | refine bt ?_ (by assumption)))⟩; (simp_all <;> rfl))

set_option maxRecDepth 100000 in
set_option maxHeartbeats 400000 in
theorem impl_validFile (r st : Int) (p n : Bs) (i : Bool) (bv : Value) (body : List Stm) (D : Nat → Prop) (w : World) (hp : p.length ≤ 8000000) (hn : n.length ≤ 8000000) (hr : StmsIn w D bv body) (hz : Short 8000000 body) :
    Calls Tryz.prog 86 #[.agg #[.int .i64 r, .string (mk p), .string (mk n), .bool i, .int .i64 st, bv]] w
      fun e w' => e = .returned (.bool (okFil ⟨r, p, n, i, st, body⟩)) ∧ Below w.heap.size w w' := by
  have Hr := Lib.hid hr
  obtain ⟨aa, ca, rfl, hl, hm⟩ := hr.len
  have Hz := Lib.hid hz
  have Hv := Lib.hid (okFil_eq ⟨r, p, n, i, st, body⟩)
  clear hr hz hm
  go_enter Tryz.func86, Tryz.ntmps86
  go_wp2_with (first
    | (go_at_call 84; refine (impl_inRange _ _ _).mono ?_; rintro _ _ ⟨rfl, rfl⟩)
    | (go_at_call 63; refine (impl_moduleAt _ _ _ _ _ _ body _ hp hn).mono ?_; (rintro _ _ ⟨rfl, hb⟩; obtain ⟨hc, hf, hs⟩ := bcell hb))
    | (go_at_call 101; refine (impl_ValidBody _ body D _ (Hr.out.below (by (repeat (with_reducible first | exact Below.refl _ _ | assumption | refine ba ?_ _ | refine bd ?_ | refine bdN ?_ _ | refine bs ?_ (by first | exact Nat.le_refl _ | (dsimp only; omega) | (simp; done)) _ | refine bt ?_ (by assumption))))) Hz.out).mono ?_; (rintro _ _ ⟨rfl, hb⟩; obtain ⟨hc, hf, hs⟩ := bcell hb)))
  all_goals (go_ret; refine ⟨ret_bool ?_, by (repeat (with_reducible first | exact Below.refl _ _ | assumption | refine ba ?_ _ | refine bd ?_ | refine bdN ?_ _ | refine bs ?_ (by first | exact Nat.le_refl _ | (dsimp only; omega) | (simp; done)) _ | refine bt ?_ (by assumption)))⟩; rw [Hv.out]; (simp_all <;> rfl))


set_option maxRecDepth 100000 in
set_option maxHeartbeats 400000 in
theorem spec_moduleName (r st : Int) (p n : Bs) (i : Bool) (bv : Value) (body : List Stm) (w : World) (hp : p.length ≤ 8000000) (hn : n.length ≤ 8000000) :
    Calls Tryz.prog 53 #[.agg #[.int .i64 r, .string (mk p), .string (mk n), .bool i, .int .i64 st, bv]] w
      fun e w' => e = .returned (.string (mk (modName ⟨r, p, n, i, st, body⟩))) ∧ Below w.heap.size w w' := by
  cases i
  · have Hv := Lib.hid (show modName ⟨r, p, n, false, st, body⟩ = child p n from rfl)
    go_enter Tryz.func53, Tryz.ntmps53
    go_wp2_with (go_at_call 81; refine (spec_child _ _ _ (by omega) (by omega)).mono ?_; rintro _ _ ⟨rfl, rfl⟩)
    go_ret
    rw [Hv.out]
    exact ⟨rfl, by (repeat (with_reducible first | exact Below.refl _ _ | assumption | refine ba ?_ _ | refine bd ?_ | refine bdN ?_ _ | refine bs ?_ (by first | exact Nat.le_refl _ | (dsimp only; omega) | (simp; done)) _ | refine bt ?_ (by assumption)))⟩
  · have Hv := Lib.hid (show modName ⟨r, p, n, true, st, body⟩ = p from rfl)
    go_enter Tryz.func53, Tryz.ntmps53
    go_wp2_with fail
    all_goals (go_ret; rw [Hv.out]; exact ⟨rfl, by (repeat (with_reducible first | exact Below.refl _ _ | assumption | refine ba ?_ _ | refine bd ?_ | refine bdN ?_ _ | refine bs ?_ (by first | exact Nat.le_refl _ | (dsimp only; omega) | (simp; done)) _ | refine bt ?_ (by assumption)))⟩)

set_option maxRecDepth 100000 in
set_option maxHeartbeats 400000 in
theorem spec_validFile (r st : Int) (p n : Bs) (i : Bool) (bv : Value) (body : List Stm) (D : Nat → Prop) (w : World) (hp : p.length ≤ 3000000) (hn : n.length ≤ 3000000) (hr : StmsIn w D bv body) (hz : Short 8000000 body) :
    Calls Tryz.prog 48 #[.agg #[.int .i64 r, .string (mk p), .string (mk n), .bool i, .int .i64 st, bv]] w
      fun e w' => e = .returned (.bool (okFil ⟨r, p, n, i, st, body⟩)) ∧ Below w.heap.size w w' := by
  have Hr := Lib.hid hr
  obtain ⟨aa, ca, rfl, hl, hm⟩ := hr.len
  have Hz := Lib.hid hz
  have hcl := child_len p n
  clear hr hz hm
  cases i
  all_goals
    go_enter Tryz.func48, Tryz.ntmps48
    go_wp2_with (first
      | (go_at_call 50; refine (spec_inRange' _ _ _ _).mono ?_; rintro _ _ ⟨rfl, rfl⟩) | (go_at_call 78; refine (spec_validPackage _ _ (by omega)).mono ?_; (rintro _ _ ⟨rfl, hb⟩; obtain ⟨hc, hf, hs⟩ := bcell hb)) | (go_at_call 80; refine (spec_validPart _ _ (by omega)).mono ?_; rintro _ _ ⟨rfl, rfl⟩) | (go_at_call 81; refine (spec_child _ _ _ (by omega) (by omega)).mono ?_; rintro _ _ ⟨rfl, rfl⟩) | (go_at_call 70; refine (spec_validName _ _ (by omega)).mono ?_; (rintro _ _ ⟨rfl, hb⟩; obtain ⟨hc, hf, hs⟩ := bcell hb))
      | (go_at_call 79; refine (spec_validBody _ body D _ (Hr.out.below (by (repeat (with_reducible first | exact Below.refl _ _ | assumption | refine ba ?_ _ | refine bd ?_ | refine bdN ?_ _ | refine bs ?_ (by first | exact Nat.le_refl _ | (dsimp only; omega) | (simp; done)) _ | refine bt ?_ (by assumption))))) Hz.out).mono ?_; (rintro _ _ ⟨rfl, hb⟩; obtain ⟨hc, hf, hs⟩ := bcell hb)))
    all_goals (go_ret; refine ⟨ret_bool ?_, by (repeat (with_reducible first | exact Below.refl _ _ | assumption | refine ba ?_ _ | refine bd ?_ | refine bdN ?_ _ | refine bs ?_ (by first | exact Nat.le_refl _ | (dsimp only; omega) | (simp; done)) _ | refine bt ?_ (by assumption)))⟩; simp_all [okFil])

end Go.Proofs.YtolhgklbkjdpiaaGreat
