/- Words for the walks of exact laws: boxes, and what stays when marks are written. -/
import Derived.Test.YtgecemngfpgcoaaBoxT
import Derived.Test.YtgecemngfpgcoaaMarks2
import Derived.Test.YtgecemngfpgcoaaStrs
import Derived.Test.YtgecemngfpgcoaaPlainG
set_option linter.unusedVariables false
set_option linter.unusedSimpArgs false
namespace Go.Proofs.Ytgecemngfpgcoaa
open Go.RowKit Go.Proofs.Ytgecemngfpgcoaa.Nm

theorem fils_turned {w w' : World} {B : Nat} {v : Value} {ps : List (Fil × Value)} {S : Nat → Prop} (h : OwnFils w B v ps) (ht : Turned S w w') (hs : ∀ b, BlkF v ps b → ¬ S b) : OwnFils w' B v ps :=
  ⟨owns_turned h.1 ht (fun b hb => hs b (.inl hb)), bodies_turned h.2 ht (fun p hp b hb => hs b (.inr ⟨p, hp, hb⟩))⟩
set_option maxRecDepth 100000 in
set_option maxHeartbeats 1000000 in
theorem laws_markStringST (B : Nat) (v : Value) (xs : List Bs) (k : Nat) (w : World) (hown : w.ownsRow B 9 1 v xs.length (xs.map sv)) (h1 : 1 ≤ k) (h9 : k + xs.length ≤ 9000000) :
    Calls Try.prog 111 #[v, .int .i64 k] w fun e w' => e = .returned (.int .i64 ((k + xs.length : Nat) : Int)) ∧ w'.ownsRow B 9 1 v xs.length ((marks k xs.length).map sv) ∧ Turned (fun b => v.ownBlock = some b) w w' := by
  obtain ⟨aa, ca, rfl⟩ := owns_shape hown
  have Hown := Lib.hid hown
  have H9 := Lib.hid h9
  have hn9 : xs.length ≤ 9000000 := by omega
  clear hown h9
  go_enter Try.func111, Try.ntmps111
  go_wp2_with fail
  go_loopw [1, 5] (fun kv iv wr => ∃ i : Nat, i ≤ xs.length ∧ iv = .int .i64 i ∧ kv = .int .i64 ((k + i : Nat) : Int) ∧ wr.ownsRow B 9 1 (.slice aa xs.length ca) xs.length ((marks k i ++ xs.drop i).map sv) ∧ Turned (fun b => (Value.slice aa xs.length ca).ownBlock = some b) w wr) (fun _ iv _ => xs.length - (intOf iv).toNat)
  case atStart => exact ⟨0, by omega, rfl, rfl, by simpa [marks] using Hown.out, Turned.refl _ _⟩
  case round =>
    obtain ⟨i, hi, rfl, rfl, ho, hbel⟩ := hrel
    by_cases hlt : i < xs.length
    · have hm1 : 1 ≤ k + i := by omega
      have hm9 : k + i ≤ 9000000 := by have := H9.out; omega
      obtain ⟨g, cap, e1, hg, hg2⟩ := ho.form (by omega)
      simp only [Value.slice.injEq] at e1
      obtain ⟨rfl, _, rfl⟩ := e1
      have Ho := Lib.hid ho
      have Hbel := Lib.hid hbel
      have Hset := Lib.hid (marks_set k i xs hlt)
      have hik : ((k + i : Nat) : Int) = (k : Int) + i := by omega
      obtain ⟨m, hm⟩ : ∃ m, m = k + i := ⟨_, rfl⟩
      rw [← hm] at hm1 hm9 Hset ⊢
      have Hm := Lib.hid hm
      clear ho hbel hm hik
      go_wp2_with fail
      refine (laws_markText m _ hm1 hm9).mono ?_
      rintro e w2 ⟨rfl, hb2⟩
      have ho2 := owns_below Ho.out hb2
      have hcell : w2.cell? ⟨g, i, none⟩ = some (((marks k i ++ xs.drop i).map sv)[i]'(by simp [marks_len]; omega)) := by
        rw [ho2.cellAt i (by omega)]; exact List.getElem?_eq_getElem _
      have hfr := ho2.frozenAt i
      have hst := ho2.stored i (sv (mt m))
      rw [Hset.out] at hst
      have Hst := Lib.hid hst
      have Hb2 := Lib.hid ((Hbel.out.step hb2).set (p := ⟨g, i, none⟩) rfl (sv (mt m)))
      clear hst ho2 hb2
      generalize ((marks k i ++ xs.drop i).map sv)[i]'_ = old at hcell
      go_wp2_with fail
      go_roundw
      case rel => exact ⟨i + 1, by omega, by go_num, by rw [Hm.out]; go_num, Hst.out.1, Hb2.out⟩
      case measure => simp [intOf]; omega
    · obtain rfl : i = xs.length := by omega
      have Ho := Lib.hid (show wr.ownsRow B 9 1 (.slice aa xs.length ca) xs.length ((marks k xs.length).map sv) by simpa using ho)
      clear ho
      go_wp2_with fail
      go_ret
      exact ⟨rfl, Ho.out, hbel⟩
set_option maxRecDepth 100000 in
set_option maxHeartbeats 1000000 in
theorem laws_markFile (B : Nat) (r st : Int) (p n : Bs) (i : Bool) (v : Value) (ss : List Stm) (k : Nat) (w : World) (hown : w.ownsRow B 138 5 v ss.length (ss.flatMap stmCells)) (h1 : 1 ≤ k) (h9 : k + 5 * ss.length ≤ 9000000) :
    Calls Try.prog 27 #[.agg #[.int .i64 r, .string (mk p), .string (mk n), .bool i, .int .i64 st, v], .int .i64 k] w fun e w' => e = .returned (.int .i64 ((k + 5 * ss.length : Nat) : Int)) ∧ w'.ownsRow B 138 5 v ss.length ((marksS k ss.length).flatMap stmCells) ∧ Turned (fun b => v.ownBlock = some b) w w' := by
  obtain ⟨aa, ca, rfl⟩ := owns_shape hown
  have Hown := Lib.hid hown
  clear hown
  go_enter Try.func27, Try.ntmps27
  go_wp2_with fail
  refine (laws_markStmtS B _ ss k _ (owns_below Hown.out (by (repeat (with_reducible first | exact Below.refl _ _ | assumption | refine ba ?_ _ | refine bd ?_ | refine bdN ?_ _ | refine bs ?_ (by first | exact Nat.le_refl _ | (dsimp only; omega) | (simp; done)) _ | refine bt ?_ (by assumption))))) h1 h9).mono ?_
  rintro _ w5 ⟨rfl, ho5, ht5⟩
  have Ho5 := Lib.hid ho5
  have Ht5 := Lib.hid ht5
  clear ho5 ht5
  go_wp2_with fail
  go_ret
  exact ⟨rfl, Ho5.out, (Turned.of_below (by (repeat (with_reducible first | exact Below.refl _ _ | assumption | refine ba ?_ _ | refine bd ?_ | refine bdN ?_ _ | refine bs ?_ (by first | exact Nat.le_refl _ | (dsimp only; omega) | (simp; done)) _ | refine bt ?_ (by assumption))))).trans Ht5.out⟩
theorem end_fine {t : List Fil} (h1 : t.all okFil = true) (h2 : t.length ≤ 12) (k : Nat) : endF k t ≤ k + 1000 := by
  have h := endF_le k t
  have := bodies_sum h1
  omega
theorem lt_irr (n : Nat) : ¬ ((n : Int) < 0) := Int.not_lt.2 (Int.natCast_nonneg _)
end Go.Proofs.Ytgecemngfpgcoaa
