/- Contracts of the laws' own looks at bodies, files and trees: whether they are equal, and whether texts ascend. -/
import Derived.Test.YtgecemngfpgcoaaSzTree
import Derived.Test.YtgecemngfpgcoaaTexts
import Derived.Test.YtgecemngfpgcoaaTrees
import Derived.Lib.QuietBelow
import Derived.BigQuiet
set_option linter.unusedVariables false
set_option linter.unusedSimpArgs false
namespace Go.Proofs.Ytgecemngfpgcoaa
open Go.RowKit Go.Proofs.Ytgecemngfpgcoaa.Nm

theorem stmNe (k lv x : Int) (m n : Bs) (k' lv' x' : Int) (m' n' : Bs) (w : World) : (binOp .neq 138 (.agg #[.int .i64 k, .string (mk m), .int .i64 lv, .string (mk n), .int .i64 x]) (.agg #[.int .i64 k', .string (mk m'), .int .i64 lv', .string (mk n'), .int .i64 x'])).run Try.prog w = .ok (.bool (!decide ((⟨k, m, lv, n, x⟩ : Stm) = ⟨k', m', lv', n', x'⟩))) w := by
  by_cases h1 : k = k' <;> by_cases h2 : m = m' <;> by_cases h3 : lv = lv' <;> by_cases h4 : n = n' <;> by_cases h5 : x = x' <;> simp [go_sem, h1, h2, h3, h4, h5, Try.underlying138, Try.underlying3, Try.underlying9]
theorem body_no {a b : List Stm} {k : Nat} (h1 : k < a.length) (h2 : k < b.length) (h : decide (a[k] = b[k]) = false) : decide (a = b) = false :=
  decide_eq_false (fun e => by subst e; exact of_decide_eq_false h rfl)
set_option maxRecDepth 100000 in
set_option maxHeartbeats 1000000 in
theorem laws_equalBody (v v' : Value) (ss ss' : List Stm) (D D' : Nat → Prop) (w : World) (hr : StmsIn w D v ss) (hr' : StmsIn w D' v' ss') :
    Calls Try.prog 92 #[v, v'] w fun e w' => e = .returned (.bool (decide (ss = ss'))) ∧ Below w.heap.size w w' := by
  have Hr := Lib.hid hr
  have Hr' := Lib.hid hr'
  obtain ⟨aa, ca, rfl, hl, hm⟩ := hr.len
  obtain ⟨aa', ca', rfl, hl', hm'⟩ := hr'.len
  unfold maxLen at hm hm'
  clear hr hr'
  by_cases he : ss.length = ss'.length
  · have He := Lib.hid he
    rw [← he]
    rw [← he] at Hr'
    clear he
    go_enter Try.func92, Try.ntmps92
    go_wp2_with fail
    go_loopw [5] (fun iv wr => ∃ k : Nat, k ≤ ss.length ∧ iv = .int .i64 k ∧ Below w.heap.size w wr ∧ ∀ i (h1 : i < ss.length) (h2 : i < ss'.length), i < k → ss[i] = ss'[i]) (fun iv _ => ss.length - (intOf iv).toNat)
    case atStart => exact ⟨0, by omega, rfl, Below.refl _ _, fun i _ _ h => absurd h (by omega)⟩
    case round =>
      obtain ⟨k, hk, rfl, hbel, ha⟩ := hrel
      have Ha := Lib.hid ha
      clear ha
      by_cases hlt : k < ss.length
      · have hlt' : k < ss'.length := by rw [← He.out]; exact hlt
        obtain ⟨b, off, cap, e, hD, hb, c0, c1, c2, c3, c4⟩ := (Hr.out.below hbel).at_ hlt
        obtain ⟨b', off', cap', e', hD', hb', c0', c1', c2', c3', c4'⟩ := (StmsIn.below (v := .slice aa' ss'.length ca') (by have := Hr'.out; rwa [He.out] at this) hbel).at_ hlt'
        simp only [Value.slice.injEq] at e e'
        obtain ⟨rfl, _, rfl⟩ := e
        obtain ⟨rfl, _, rfl⟩ := e'
        have Hn := Lib.hid (body_no hlt hlt')
        obtain ⟨s, hs⟩ : ∃ s, s = ss[k] := ⟨_, rfl⟩
        obtain ⟨s', hs'⟩ : ∃ s', s' = ss'[k] := ⟨_, rfl⟩
        rw [← hs] at c0 c1 c2 c3 c4 Hn
        rw [← hs'] at c0' c1' c2' c3' c4' Hn
        have Hy := Lib.hid (fun (h : decide (s = s') = true) => (show ss[k] = ss'[k] by rw [← hs, ← hs']; exact of_decide_eq_true h))
        clear hs hs'
        obtain ⟨sk, sm, sl, sn, sv⟩ := s
        obtain ⟨sk', sm', sl', sn', sv'⟩ := s'
        dsimp only at c0 c1 c2 c3 c4 c0' c1' c2' c3' c4'
        have hk1 : (k : Int) < (ss.length : Int) := by omega
        have hk0 : (0 : Int) ≤ (k : Int) := by omega
        have qE := fun w => stmNe sk sl sv sm sn sk' sl' sv' sm' sn' w
        generalize hsb : decide ((⟨sk, sm, sl, sn, sv⟩ : Stm) = ⟨sk', sm', sl', sn', sv'⟩) = sb at *
        cases sb
        · rw [Bool.not_false] at qE
          go_wp2_with fail
          go_quiet (fail)
          go_wp2_with fail
          go_ret
          rw [Hn.out (by first | rfl | trivial)]
          exact ⟨rfl, below_drewN hbel _⟩
        · rw [Bool.not_true] at qE
          go_wp2_with fail
          go_quiet (fail)
          go_wp2_with fail
          go_roundw
          case rel =>
            refine ⟨k + 1, by omega, by go_num, below_drewN hbel _, fun i h1 h2 hi => ?_⟩
            by_cases e : i = k
            · subst e; exact Hy.out (by first | rfl | trivial)
            · exact Ha.out i h1 h2 (by omega)
          case measure => simp [intOf]; omega
      · have hv := Lib.hid (show decide (ss = ss') = true from decide_eq_true (List.ext_getElem He.out (fun i h1 h2 => Ha.out i h1 h2 (by omega))))
        go_wp2_with fail
        go_ret
        rw [hv.out]
        exact ⟨rfl, hbel⟩
  · have Hv := Lib.hid (show decide (ss = ss') = false from decide_eq_false (fun e => he (by rw [e])))
    have hlb : ((ss.length : Int) == (ss'.length : Int)) = false := by rw [beq_eq_false_iff_ne]; omega
    clear he
    generalize ss.length = p at *
    generalize ss'.length = q at *
    go_enter Try.func92, Try.ntmps92
    go_wp2_with fail
    go_ret
    rw [Hv.out]
    exact ⟨rfl, by (repeat (with_reducible first | exact Below.refl _ _ | assumption | refine ba ?_ _ | refine bd ?_ | refine bdN ?_ _ | refine bs ?_ (by first | exact Nat.le_refl _ | (dsimp only; omega) | (simp; done)) _ | refine bt ?_ (by assumption)))⟩

set_option maxRecDepth 100000 in
set_option maxHeartbeats 1000000 in
theorem laws_equalFile (r st : Int) (p n : Bs) (i : Bool) (bv : Value) (body : List Stm) (r' st' : Int) (p' n' : Bs) (i' : Bool) (bv' : Value) (body' : List Stm) (D D' : Nat → Prop) (w : World) (hr : StmsIn w D bv body) (hr' : StmsIn w D' bv' body') :
    Calls Try.prog 54 #[.agg #[.int .i64 r, .string (mk p), .string (mk n), .bool i, .int .i64 st, bv], .agg #[.int .i64 r', .string (mk p'), .string (mk n'), .bool i', .int .i64 st', bv']] w
      fun e w' => e = .returned (.bool (sameFil ⟨r, p, n, i, st, body⟩ ⟨r', p', n', i', st', body'⟩)) ∧ Below w.heap.size w w' := by
  have Hr := Lib.hid hr
  have Hr' := Lib.hid hr'
  obtain ⟨aa, ca, rfl, hl, hm⟩ := hr.len
  obtain ⟨aa', ca', rfl, hl', hm'⟩ := hr'.len
  unfold maxLen at hm hm'
  clear hr hr'
  go_enter Try.func54, Try.ntmps54
  go_wp2_with (go_at_call 92; refine (laws_equalBody _ _ body body' D D' _ (Hr.out.below (by (repeat (with_reducible first | exact Below.refl _ _ | assumption | refine ba ?_ _ | refine bd ?_ | refine bdN ?_ _ | refine bs ?_ (by first | exact Nat.le_refl _ | (dsimp only; omega) | (simp; done)) _ | refine bt ?_ (by assumption))))) (Hr'.out.below (by (repeat (with_reducible first | exact Below.refl _ _ | assumption | refine ba ?_ _ | refine bd ?_ | refine bdN ?_ _ | refine bs ?_ (by first | exact Nat.le_refl _ | (dsimp only; omega) | (simp; done)) _ | refine bt ?_ (by assumption)))))).mono ?_; (rintro _ _ ⟨rfl, hb⟩; obtain ⟨hc, hf, hs⟩ := bcell hb))
  all_goals (go_ret; refine ⟨ret_bool ?_, by (repeat (with_reducible first | exact Below.refl _ _ | assumption | refine ba ?_ _ | refine bd ?_ | refine bdN ?_ _ | refine bs ?_ (by first | exact Nat.le_refl _ | (dsimp only; omega) | (simp; done)) _ | refine bt ?_ (by assumption)))⟩; simp_all [sameFil, beq_bs', beq_dec, bne_bs, bne_int])

theorem sameFils_noE {a b : List Fil} {k : Nat} (h1 : k < a.length) (h2 : k < b.length) (h : sameFil a[k] b[k] = false) : sameFils a b = false :=
  decide_eq_false (fun e => by subst e; exact of_decide_eq_false h rfl)
set_option maxRecDepth 100000 in
set_option maxHeartbeats 1000000 in
theorem laws_equalTree (v v' : Value) (fs fs' : List Fil) (D D' : Nat → Prop) (w : World) (hr : FilsIn w D v fs) (hr' : FilsIn w D' v' fs') :
    Calls Try.prog 15 #[.agg #[v], .agg #[v']] w fun e w' => e = .returned (.bool (sameFils fs fs')) ∧ Below w.heap.size w w' := by
  have Hr := Lib.hid hr
  have Hr' := Lib.hid hr'
  obtain ⟨aa, ca, rfl, hl, hm⟩ := hr.len
  obtain ⟨aa', ca', rfl, hl', hm'⟩ := hr'.len
  unfold maxLen at hm hm'
  clear hr hr'
  by_cases he : fs.length = fs'.length
  · have He := Lib.hid he
    rw [← he]
    rw [← he] at Hr'
    clear he
    go_enter Try.func15, Try.ntmps15
    go_wp2_with fail
    go_loopw [5] (fun iv wr => ∃ k : Nat, k ≤ fs.length ∧ iv = .int .i64 k ∧ Boxed2 w #[.slice aa fs.length ca] 25 #[.slice aa' fs.length ca'] 25 wr ∧ ∀ i (h1 : i < fs.length) (h2 : i < fs'.length), i < k → fs[i] = fs'[i]) (fun iv _ => fs.length - (intOf iv).toNat)
    case atStart => exact ⟨0, by omega, rfl, Boxed2.start _ _ _ _ _, fun i _ _ h => absurd h (by omega)⟩
    case round =>
      obtain ⟨k, hk, rfl, hbx, ha⟩ := hrel
      have hbel := hbx.below
      have Hbx := Lib.hid hbx
      have Ha := Lib.hid ha
      clear ha hbx
      have x0 : wr.cell? ⟨w.heap.size, 0, none⟩ = some (.slice aa fs.length ca) := Hbx.out.one.cell 0
      have y0 : wr.cell? ⟨w.heap.size + 1, 0, none⟩ = some (.slice aa' fs.length ca') := Hbx.out.cell 0
      by_cases hlt : k < fs.length
      · have hlt' : k < fs'.length := by rw [← He.out]; exact hlt
        obtain ⟨b, off, cap, bv, e, hD, hb, hbody, c0, c1, c2, c3, c4, c5⟩ := (Hr.out.below hbel).at_ hlt
        obtain ⟨b', off', cap', bv', e', hD', hb', hbody', c0', c1', c2', c3', c4', c5'⟩ := (FilsIn.below (v := .slice aa' fs'.length ca') (by have := Hr'.out; rwa [He.out] at this) hbel).at_ hlt'
        simp only [Value.slice.injEq] at e e'
        obtain ⟨rfl, _, rfl⟩ := e
        obtain ⟨rfl, _, rfl⟩ := e'
        obtain ⟨ba1, bc1, rfl, _, _⟩ := hbody.len
        obtain ⟨ba2, bc2, rfl, _, _⟩ := hbody'.len
        have Hbody := Lib.hid hbody
        have Hbody' := Lib.hid hbody'
        have Hn := Lib.hid (sameFils_noE hlt hlt')
        obtain ⟨s, hs⟩ : ∃ s, s = fs[k] := ⟨_, rfl⟩
        obtain ⟨s', hs'⟩ : ∃ s', s' = fs'[k] := ⟨_, rfl⟩
        rw [← hs] at c0 c1 c2 c3 c4 c5 Hn Hbody
        rw [← hs'] at c0' c1' c2' c3' c4' c5' Hn Hbody'
        have Hy := Lib.hid (fun (h : sameFil s s' = true) => (show fs[k] = fs'[k] by rw [← hs, ← hs']; exact of_decide_eq_true h))
        clear hs hs' hbody hbody'
        obtain ⟨fr, fp, fn, fi, fst, fb⟩ := s
        obtain ⟨fr', fp', fn', fi', fst', fb'⟩ := s'
        dsimp only at c0 c1 c2 c3 c4 c5 c0' c1' c2' c3' c4' c5'
        have hk1 : (k : Int) < (fs.length : Int) := by omega
        have hk0 : (0 : Int) ≤ (k : Int) := by omega
        go_wp2_with fail
        go_still_tail 10, (by kernel_rfl)
        go_wp2_with (go_at_call 54; refine (laws_equalFile _ _ _ _ _ _ fb _ _ _ _ _ _ fb' D D' _ (Hbody.out.below (by (repeat (with_reducible first | exact Below.refl _ _ | assumption | refine ba ?_ _ | refine bd ?_ | refine bdN ?_ _ | refine bs ?_ (by first | exact Nat.le_refl _ | (dsimp only; omega) | (simp; done)) _ | refine bt ?_ (by assumption))))) (Hbody'.out.below (by (repeat (with_reducible first | exact Below.refl _ _ | assumption | refine ba ?_ _ | refine bd ?_ | refine bdN ?_ _ | refine bs ?_ (by first | exact Nat.le_refl _ | (dsimp only; omega) | (simp; done)) _ | refine bt ?_ (by assumption)))))).mono ?_; rintro _ w5 ⟨rfl, hb5⟩)
        · have h : (!sameFil ⟨fr, fp, fn, fi, fst, fb⟩ ⟨fr', fp', fn', fi', fst', fb'⟩) = true := by assumption
          go_ret
          rw [Hn.out (by simpa using h)]
          exact ⟨rfl, by (repeat (with_reducible first | exact Below.refl _ _ | assumption | refine ba ?_ _ | refine bd ?_ | refine bdN ?_ _ | refine bs ?_ (by first | exact Nat.le_refl _ | (dsimp only; omega) | (simp; done)) _ | refine bt ?_ (by assumption)))⟩
        · have h : (!sameFil ⟨fr, fp, fn, fi, fst, fb⟩ ⟨fr', fp', fn', fi', fst', fb'⟩) = false := by assumption
          go_roundw
          case rel =>
            refine ⟨k + 1, by omega, by go_num, Hbx.out.step (by (repeat (with_reducible first | exact Below.refl _ _ | assumption | refine ba ?_ _ | refine bd ?_ | refine bdN ?_ _ | refine bs ?_ (by first | exact Nat.le_refl _ | (dsimp only; omega) | (simp; done)) _ | refine bt ?_ (by assumption)))), fun i h1 h2 hi => ?_⟩
            by_cases e : i = k
            · subst e; exact Hy.out (by simpa using h)
            · exact Ha.out i h1 h2 (by omega)
          case measure => simp [intOf]; omega
      · have hv := Lib.hid (show sameFils fs fs' = true from decide_eq_true (List.ext_getElem He.out (fun i h1 h2 => Ha.out i h1 h2 (by omega))))
        go_wp2_with fail
        go_ret
        rw [hv.out]
        exact ⟨rfl, hbel⟩
  · have Hv := Lib.hid (show sameFils fs fs' = false from decide_eq_false (fun e => he (by rw [e])))
    have hlb : ((fs.length : Int) == (fs'.length : Int)) = false := by rw [beq_eq_false_iff_ne]; omega
    clear he
    generalize fs.length = p at *
    generalize fs'.length = q at *
    go_enter Try.func15, Try.ntmps15
    go_wp2_with fail
    go_ret
    rw [Hv.out]
    exact ⟨rfl, by (repeat (with_reducible first | exact Below.refl _ _ | assumption | refine ba ?_ _ | refine bd ?_ | refine bdN ?_ _ | refine bs ?_ (by first | exact Nat.le_refl _ | (dsimp only; omega) | (simp; done)) _ | refine bt ?_ (by assumption)))⟩
end Go.Proofs.Ytgecemngfpgcoaa
