/- Bodies are compared: by the library's Equal, and by the model's sameBody. -/
import Derived.Test.YtomdmkhgkaalnaaSzTree
import Derived.Deep.QuietTactic
import Derived.BigQuiet
import Derived.Laws.StructEq
set_option linter.unusedVariables false
set_option linter.unusedSimpArgs false
namespace Go.Proofs.Ytomdmkhgkaalnaa
open Go.RowKit Go.Proofs.Ytomdmkhgkaalnaa.Nm

theorem eqb_drewN {w a : World} (h : Below w.heap.size w a) (n : Nat) : Below w.heap.size w (a.drewN n) := bdN h n
theorem stmNeB (k lv x : Int) (m n : Bs) (k' lv' x' : Int) (m' n' : Bs) (w : World) : (binOp .neq 124 (.agg #[.int .i64 k, .string (mk m), .int .i64 lv, .string (mk n), .int .i64 x]) (.agg #[.int .i64 k', .string (mk m'), .int .i64 lv', .string (mk n'), .int .i64 x'])).run Try.prog w = .ok (.bool (!decide ((⟨k, m, lv, n, x⟩ : Stm) = ⟨k', m', lv', n', x'⟩))) w := by
  by_cases h1 : k = k' <;> by_cases h2 : m = m' <;> by_cases h3 : lv = lv' <;> by_cases h4 : n = n' <;> by_cases h5 : x = x' <;> simp [go_sem, h1, h2, h3, h4, h5, Try.underlying124, Try.underlying3, Try.underlying9]
theorem eqb_no {a b : List Stm} {k : Nat} (h1 : k < a.length) (h2 : k < b.length) (h : decide (a[k] = b[k]) = false) : decide (a = b) = false :=
  decide_eq_false (fun e => by subst e; exact of_decide_eq_false h rfl)
set_option maxRecDepth 100000 in
set_option maxHeartbeats 1000000 in
theorem slices_EqualB (v v' : Value) (ss ss' : List Stm) (D D' : Nat → Prop) (w : World) (hr : StmsIn w D v ss) (hr' : StmsIn w D' v' ss') :
    Calls Try.prog 108 #[v, v'] w fun e w' => e = .returned (.bool (decide (ss = ss'))) ∧ Below w.heap.size w w' := by
  have Hr := Lib.hid hr
  have Hr' := Lib.hid hr'
  obtain ⟨aa, ca, rfl, hl, hm⟩ := hr.len
  obtain ⟨aa', ca', rfl, hl', hm'⟩ := hr'.len
  unfold maxLen at hm hm'
  clear hr hr'
  by_cases he : ss.length = ss'.length
  · have He := Lib.hid he
    rw [← he]
    rw [← he] at Hr'
    clear he
    go_enter Try.func108, Try.ntmps108
    go_wp2_with fail
    go_loopw [13] (fun iv wr => ∃ k : Nat, k ≤ ss.length ∧ iv = .int .i64 k ∧ Below w.heap.size w wr ∧ ∀ i (h1 : i < ss.length) (h2 : i < ss'.length), i < k → ss[i] = ss'[i]) (fun iv _ => ss.length - (intOf iv).toNat)
    case atStart => exact ⟨0, by omega, rfl, Below.refl _ _, fun i _ _ h => absurd h (by omega)⟩
    case round =>
      obtain ⟨k, hk, rfl, hbel, ha⟩ := hrel
      have Ha := Lib.hid ha
      clear ha
      by_cases hlt : k < ss.length
      · have hlt' : k < ss'.length := by rw [← He.out]; exact hlt
        obtain ⟨b, off, cap, e, hD, hb, c0, c1, c2, c3, c4⟩ := (Hr.out.below hbel).at_ hlt
        obtain ⟨b', off', cap', e', hD', hb', c0', c1', c2', c3', c4'⟩ := (StmsIn.below (v := .slice aa' ss'.length ca') (by have := Hr'.out; rwa [He.out] at this) hbel).at_ hlt'
        simp only [Value.slice.injEq] at e e'
        obtain ⟨rfl, _, rfl⟩ := e
        obtain ⟨rfl, _, rfl⟩ := e'
        have Hn := Lib.hid (eqb_no hlt hlt')
        obtain ⟨s, hs⟩ : ∃ s, s = ss[k] := ⟨_, rfl⟩
        obtain ⟨s', hs'⟩ : ∃ s', s' = ss'[k] := ⟨_, rfl⟩
        rw [← hs] at c0 c1 c2 c3 c4 Hn
        rw [← hs'] at c0' c1' c2' c3' c4' Hn
        have Hy := Lib.hid (fun (h : decide (s = s') = true) => (show ss[k] = ss'[k] by rw [← hs, ← hs']; exact of_decide_eq_true h))
        clear hs hs'
        obtain ⟨sk, sm, sl, sn, sv⟩ := s
        obtain ⟨sk', sm', sl', sn', sv'⟩ := s'
        dsimp only at c0 c1 c2 c3 c4 c0' c1' c2' c3' c4'
        have hk1 : (k : Int) < (ss.length : Int) := by omega
        have hk0 : (0 : Int) ≤ (k : Int) := by omega
        have qE := fun w => stmNeB sk sl sv sm sn sk' sl' sv' sm' sn' w
        generalize hsb : decide ((⟨sk, sm, sl, sn, sv⟩ : Stm) = ⟨sk', sm', sl', sn', sv'⟩) = sb at *
        cases sb
        · rw [Bool.not_false] at qE
          go_wp2_with fail
          go_quiet (fail)
          go_wp2_with fail
          go_ret
          rw [Hn.out (by first | rfl | trivial)]
          exact ⟨rfl, eqb_drewN hbel _⟩
        · rw [Bool.not_true] at qE
          go_wp2_with fail
          go_quiet (fail)
          go_wp2_with fail
          go_roundw
          case rel =>
            refine ⟨k + 1, by omega, by go_num, eqb_drewN hbel _, fun i h1 h2 hi => ?_⟩
            by_cases e : i = k
            · subst e; exact Hy.out (by first | rfl | trivial)
            · exact Ha.out i h1 h2 (by omega)
          case measure => simp [intOf]; omega
      · have hv := Lib.hid (show decide (ss = ss') = true from decide_eq_true (List.ext_getElem He.out (fun i h1 h2 => Ha.out i h1 h2 (by omega))))
        go_wp2_with fail
        go_ret
        rw [hv.out]
        exact ⟨rfl, hbel⟩
  · have Hv := Lib.hid (show decide (ss = ss') = false from decide_eq_false (fun e => he (by rw [e])))
    have hlb : ((ss.length : Int) == (ss'.length : Int)) = false := by rw [beq_eq_false_iff_ne]; omega
    have hlc : ((ss.length : Int) != (ss'.length : Int)) = true := by rw [bne, hlb]; rfl
    clear he
    generalize ss.length = p at *
    generalize ss'.length = q at *
    go_enter Try.func108, Try.ntmps108
    go_wp2_with fail
    go_ret
    rw [Hv.out]
    exact ⟨rfl, by (repeat (with_reducible first | exact Below.refl _ _ | assumption | refine ba ?_ _ | refine bd ?_ | refine bdN ?_ _ | refine bs ?_ (by first | exact Nat.le_refl _ | (dsimp only; omega) | (simp; done)) _ | refine bt ?_ (by assumption)))⟩
set_option maxRecDepth 100000 in
set_option maxHeartbeats 1000000 in
theorem spec_sameBody (v v' : Value) (ss ss' : List Stm) (D D' : Nat → Prop) (w : World) (hr : StmsIn w D v ss) (hr' : StmsIn w D' v' ss') :
    Calls Try.prog 110 #[v, v'] w fun e w' => e = .returned (.bool (decide (ss = ss'))) ∧ Below w.heap.size w w' := by
  have Hr := Lib.hid hr
  have Hr' := Lib.hid hr'
  obtain ⟨aa, ca, rfl, hl, hm⟩ := hr.len
  obtain ⟨aa', ca', rfl, hl', hm'⟩ := hr'.len
  unfold maxLen at hm hm'
  clear hr hr'
  by_cases he : ss.length = ss'.length
  · have He := Lib.hid he
    rw [← he]
    rw [← he] at Hr'
    clear he
    go_enter Try.func110, Try.ntmps110
    go_wp2_with fail
    go_loopw [5] (fun iv wr => ∃ k : Nat, k ≤ ss.length ∧ iv = .int .i64 k ∧ Below w.heap.size w wr ∧ ∀ i (h1 : i < ss.length) (h2 : i < ss'.length), i < k → ss[i] = ss'[i]) (fun iv _ => ss.length - (intOf iv).toNat)
    case atStart => exact ⟨0, by omega, rfl, Below.refl _ _, fun i _ _ h => absurd h (by omega)⟩
    case round =>
      obtain ⟨k, hk, rfl, hbel, ha⟩ := hrel
      have Ha := Lib.hid ha
      clear ha
      by_cases hlt : k < ss.length
      · have hlt' : k < ss'.length := by rw [← He.out]; exact hlt
        obtain ⟨b, off, cap, e, hD, hb, c0, c1, c2, c3, c4⟩ := (Hr.out.below hbel).at_ hlt
        obtain ⟨b', off', cap', e', hD', hb', c0', c1', c2', c3', c4'⟩ := (StmsIn.below (v := .slice aa' ss'.length ca') (by have := Hr'.out; rwa [He.out] at this) hbel).at_ hlt'
        simp only [Value.slice.injEq] at e e'
        obtain ⟨rfl, _, rfl⟩ := e
        obtain ⟨rfl, _, rfl⟩ := e'
        have Hn := Lib.hid (eqb_no hlt hlt')
        obtain ⟨s, hs⟩ : ∃ s, s = ss[k] := ⟨_, rfl⟩
        obtain ⟨s', hs'⟩ : ∃ s', s' = ss'[k] := ⟨_, rfl⟩
        rw [← hs] at c0 c1 c2 c3 c4 Hn
        rw [← hs'] at c0' c1' c2' c3' c4' Hn
        have Hy := Lib.hid (fun (h : decide (s = s') = true) => (show ss[k] = ss'[k] by rw [← hs, ← hs']; exact of_decide_eq_true h))
        clear hs hs'
        obtain ⟨sk, sm, sl, sn, sv⟩ := s
        obtain ⟨sk', sm', sl', sn', sv'⟩ := s'
        dsimp only at c0 c1 c2 c3 c4 c0' c1' c2' c3' c4'
        have hk1 : (k : Int) < (ss.length : Int) := by omega
        have hk0 : (0 : Int) ≤ (k : Int) := by omega
        have qE := fun w => stmNeB sk sl sv sm sn sk' sl' sv' sm' sn' w
        generalize hsb : decide ((⟨sk, sm, sl, sn, sv⟩ : Stm) = ⟨sk', sm', sl', sn', sv'⟩) = sb at *
        cases sb
        · rw [Bool.not_false] at qE
          go_wp2_with fail
          go_quiet (fail)
          go_wp2_with fail
          go_ret
          rw [Hn.out (by first | rfl | trivial)]
          exact ⟨rfl, eqb_drewN hbel _⟩
        · rw [Bool.not_true] at qE
          go_wp2_with fail
          go_quiet (fail)
          go_wp2_with fail
          go_roundw
          case rel =>
            refine ⟨k + 1, by omega, by go_num, eqb_drewN hbel _, fun i h1 h2 hi => ?_⟩
            by_cases e : i = k
            · subst e; exact Hy.out (by first | rfl | trivial)
            · exact Ha.out i h1 h2 (by omega)
          case measure => simp [intOf]; omega
      · have hv := Lib.hid (show decide (ss = ss') = true from decide_eq_true (List.ext_getElem He.out (fun i h1 h2 => Ha.out i h1 h2 (by omega))))
        go_wp2_with fail
        go_ret
        rw [hv.out]
        exact ⟨rfl, hbel⟩
  · have Hv := Lib.hid (show decide (ss = ss') = false from decide_eq_false (fun e => he (by rw [e])))
    have hlb : ((ss.length : Int) == (ss'.length : Int)) = false := by rw [beq_eq_false_iff_ne]; omega
    have hlc : ((ss.length : Int) != (ss'.length : Int)) = true := by rw [bne, hlb]; rfl
    clear he
    generalize ss.length = p at *
    generalize ss'.length = q at *
    go_enter Try.func110, Try.ntmps110
    go_wp2_with fail
    go_ret
    rw [Hv.out]
    exact ⟨rfl, by (repeat (with_reducible first | exact Below.refl _ _ | assumption | refine ba ?_ _ | refine bd ?_ | refine bdN ?_ _ | refine bs ?_ (by first | exact Nat.le_refl _ | (dsimp only; omega) | (simp; done)) _ | refine bt ?_ (by assumption)))⟩
end Go.Proofs.Ytomdmkhgkaalnaa
