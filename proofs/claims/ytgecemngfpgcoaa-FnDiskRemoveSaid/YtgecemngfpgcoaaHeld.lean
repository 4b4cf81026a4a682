/- The exact laws' looks for their marks in statements, files and trees. -/
import Derived.Test.YtgecemngfpgcoaaMarks2
import Derived.Deep.RegionHeld3
set_option linter.unusedVariables false
set_option linter.unusedSimpArgs false
namespace Go.Proofs.Ytgecemngfpgcoaa
open Go.RowKit Go.Proofs.Ytgecemngfpgcoaa.Nm

set_option maxRecDepth 100000 in
set_option maxHeartbeats 2000000 in
theorem laws_heldStmtS (v : Value) (D : Nat → Prop) (n k : Nat) (w : World) (hr : StmsIn w D v (marksS k n)) (h1 : 1 ≤ k) (h9 : k + 5 * n ≤ 9000000) :
    Calls Try.prog 131 #[v, .int .i64 k] w fun e w' => e = .returned (.int .i64 ((k + 5 * n : Nat) : Int)) ∧ Below w.heap.size w w' := by
  have hl := marksS_len k n
  have Hr := Lib.hid hr
  obtain ⟨aa, ca, rfl, hlc, hm⟩ := hr.len
  have hv : (Value.slice aa (marksS k n).length ca) = .slice aa n ca := by rw [hl]
  rw [hv]
  have H9 := Lib.hid h9
  have Hl := Lib.hid hl
  have hn9 : n ≤ 9000000 := by omega
  clear hr hl h9 hv hlc hm
  go_enter Try.func131, Try.ntmps131
  go_wp2_with fail
  go_loopw [1, 5] (fun kv iv wr => ∃ i : Nat, i ≤ n ∧ iv = .int .i64 i ∧ kv = .int .i64 ((k + 5 * i : Nat) : Int) ∧ Below w.heap.size w wr) (fun _ iv _ => n - (intOf iv).toNat)
  case atStart => exact ⟨0, by omega, rfl, rfl, Below.refl _ _⟩
  case round =>
    obtain ⟨i, hi, rfl, rfl, hbel⟩ := hrel
    by_cases hlt : i < n
    · obtain ⟨b, off, cap, e, hD, hb, c0, c1, c2, c3, c4⟩ := (Hr.out.below hbel).at_ (i := i) (by rw [Hl.out]; exact hlt)
      simp only [Value.slice.injEq] at e
      obtain ⟨rfl, hdel, rfl⟩ := e
      clear hdel
      have hget : (marksS k n)[i]'(by rw [Hl.out]; exact hlt) = markStm (k + 5 * i) := by simp [marksS]
      rw [hget] at c0 c1 c2 c3 c4
      have hmb : 1 ≤ k + 5 * i ∧ k + 5 * i + 5 ≤ 9000000 := by have := H9.out; omega
      obtain ⟨m, hm⟩ : ∃ m, m = k + 5 * i := ⟨_, rfl⟩
      rw [← hm] at hmb c0 c1 c2 c3 c4 ⊢
      have Hm := Lib.hid hm
      simp only [markStm] at c0 c1 c2 c3 c4
      obtain ⟨t1, ht1⟩ : ∃ t, t = mt (m + 1) := ⟨_, rfl⟩
      obtain ⟨t3, ht3⟩ : ∃ t, t = mt (m + 3) := ⟨_, rfl⟩
      rw [← ht1] at c1
      rw [← ht3] at c3
      have Ht1 := Lib.hid ht1
      have Ht3 := Lib.hid ht3
      have Hbel := Lib.hid hbel
      have hi9 : (i : Int) ≤ 9000000 := by omega
      clear hm ht1 ht3 hget hbel
      have Hk := Lib.hid (fun (w' : World) (hB : Below wr.heap.size wr w') => (⟨(hB.cell (p := ⟨b, off + i * 5 + 1, none⟩) hb).trans c1, (hB.cell (p := ⟨b, off + i * 5 + 2, none⟩) hb).trans c2, (hB.cell (p := ⟨b, off + i * 5 + 3, none⟩) hb).trans c3, (hB.cell (p := ⟨b, off + i * 5 + 4, none⟩) hb).trans c4, hB⟩ : w'.cell? ⟨b, off + i * 5 + 1, none⟩ = some (.string (mk t1)) ∧ w'.cell? ⟨b, off + i * 5 + 2, none⟩ = some (.int .i64 ((m : Int) + 1 + 1)) ∧ w'.cell? ⟨b, off + i * 5 + 3, none⟩ = some (.string (mk t3)) ∧ w'.cell? ⟨b, off + i * 5 + 4, none⟩ = some (.int .i64 ((m : Int) + 1 + 1 + 1 + 1)) ∧ Below wr.heap.size wr w'))
      go_wp2_with fail
      go_region_held3 (fun w' => w'.cell? ⟨b, off + i * 5 + 1, none⟩ = some (.string (mk t1)) ∧ w'.cell? ⟨b, off + i * 5 + 2, none⟩ = some (.int .i64 ((m : Int) + 1 + 1)) ∧ w'.cell? ⟨b, off + i * 5 + 3, none⟩ = some (.string (mk t3)) ∧ w'.cell? ⟨b, off + i * 5 + 4, none⟩ = some (.int .i64 ((m : Int) + 1 + 1 + 1 + 1)) ∧ Below wr.heap.size wr w')
        (exact Hk.out _ (by (repeat (with_reducible first | exact Below.refl _ _ | assumption | refine ba ?_ _ | refine bd ?_ | refine bdN ?_ _ | refine bs ?_ (by first | exact Nat.le_refl _ | (dsimp only; omega) | (simp; done)) _ | refine bt ?_ (by assumption)))))
        (first | (go_at_call 110; refine (laws_markTextI _ (m + 1) _ (by omega) (by omega) (by omega)).mono ?_; rintro _ w5 ⟨rfl, hb5⟩; rw [← Ht1.out]))
      have Hb6 := Lib.hid (show Below wr.heap.size wr w5 by (repeat (with_reducible first | exact Below.refl _ _ | assumption | refine ba ?_ _ | refine bd ?_ | refine bdN ?_ _ | refine bs ?_ (by first | exact Nat.le_refl _ | (dsimp only; omega) | (simp; done)) _ | refine bt ?_ (by assumption))))
      have hb6 : b < w5.heap.size := Nat.lt_of_lt_of_le hb Hb6.out.size
      obtain ⟨_, d2, d3, d4, _⟩ := Hk.out w5 Hb6.out
      have Hk2 := Lib.hid (fun (w' : World) (hB : Below w5.heap.size w5 w') => (⟨(hB.cell (p := ⟨b, off + i * 5 + 3, none⟩) hb6).trans d3, (hB.cell (p := ⟨b, off + i * 5 + 4, none⟩) hb6).trans d4, hB⟩ : w'.cell? ⟨b, off + i * 5 + 3, none⟩ = some (.string (mk t3)) ∧ w'.cell? ⟨b, off + i * 5 + 4, none⟩ = some (.int .i64 ((m : Int) + 1 + 1 + 1 + 1)) ∧ Below w5.heap.size w5 w'))
      go_wp2_with fail
      go_region_held3 (fun w' => w'.cell? ⟨b, off + i * 5 + 3, none⟩ = some (.string (mk t3)) ∧ w'.cell? ⟨b, off + i * 5 + 4, none⟩ = some (.int .i64 ((m : Int) + 1 + 1 + 1 + 1)) ∧ Below w5.heap.size w5 w')
        (exact Hk2.out _ (by (repeat (with_reducible first | exact Below.refl _ _ | assumption | refine ba ?_ _ | refine bd ?_ | refine bdN ?_ _ | refine bs ?_ (by first | exact Nat.le_refl _ | (dsimp only; omega) | (simp; done)) _ | refine bt ?_ (by assumption)))))
        (first | (go_at_call 110; refine (laws_markTextI _ (m + 3) _ (by omega) (by omega) (by omega)).mono ?_; rintro _ w7 ⟨rfl, hb7⟩; rw [← Ht3.out]))
      have Hb8 := Lib.hid (show Below w5.heap.size w5 w7 by (repeat (with_reducible first | exact Below.refl _ _ | assumption | refine ba ?_ _ | refine bd ?_ | refine bdN ?_ _ | refine bs ?_ (by first | exact Nat.le_refl _ | (dsimp only; omega) | (simp; done)) _ | refine bt ?_ (by assumption))))
      obtain ⟨_, f4, _⟩ := Hk2.out w7 Hb8.out
      go_wp2_with fail
      go_roundw
      case rel => exact ⟨i + 1, by omega, by go_num, by rw [show k + 5 * (i + 1) = m + 5 by have := Hm.out; omega]; go_num, bt (bt Hbel.out Hb6.out) Hb8.out⟩
      case measure => simp [intOf]; omega
    · obtain rfl : i = n := by omega
      go_wp2_with fail
      go_ret
      exact ⟨rfl, hbel⟩

theorem laws_heldStmtSI (v : Value) (D : Nat → Prop) (n : Nat) (x : Int) (k : Nat) (w : World) (hx : x = k) (hr : StmsIn w D v (marksS k n)) (h1 : 1 ≤ k) (h9 : k + 5 * n ≤ 9000000) :
    Calls Try.prog 131 #[v, .int .i64 x] w fun e w' => e = .returned (.int .i64 ((k + 5 * n : Nat) : Int)) ∧ Below w.heap.size w w' := by subst hx; exact laws_heldStmtS v D n k w hr h1 h9
theorem marksF_at (k : Nat) (fs : List Fil) (i : Nat) (h : i < fs.length) (h' : i < (marksF k fs).length) : (marksF k fs)[i] = markFil (endF k (fs.take i)) fs[i] := by
  have e := marksF_snoc k fs i h
  have h2 : marksF k fs = marksF k (fs.take (i + 1)) ++ marksF (endF k (fs.take (i + 1))) (fs.drop (i + 1)) := by rw [← marksF_app, List.take_append_drop]
  have hl : (marksF k (fs.take i)).length = i := by rw [marksF_len]; simp; omega
  have h3 : (marksF k fs)[i]? = some (markFil (endF k (fs.take i)) fs[i]) := by
    rw [h2, e, List.append_assoc, List.getElem?_append_right (by omega), hl, Nat.sub_self]; rfl
  rw [List.getElem?_eq_getElem h'] at h3
  exact Option.some.inj h3
set_option maxRecDepth 100000 in
set_option maxHeartbeats 4000000 in
theorem laws_heldFileS (v : Value) (D : Nat → Prop) (fs : List Fil) (k : Nat) (w : World) (hr : FilsIn w D v (marksF k fs)) (h1 : 1 ≤ k) (h9 : endF k fs ≤ 9000000) (hn9 : fs.length ≤ 9000000) :
    Calls Try.prog 112 #[v, .int .i64 k] w fun e w' => e = .returned (.int .i64 ((endF k fs : Nat) : Int)) ∧ Below w.heap.size w w' := by
  have hl := marksF_len k fs
  have Hr := Lib.hid hr
  obtain ⟨aa, ca, rfl, hlc, hm⟩ := hr.len
  have hv : (Value.slice aa (marksF k fs).length ca) = .slice aa fs.length ca := by rw [hl]
  rw [hv]
  have H9 := Lib.hid h9
  have Hl := Lib.hid hl
  clear hr hl h9 hv hlc hm
  go_enter Try.func112, Try.ntmps112
  go_wp2_with fail
  go_loopw [1, 5] (fun kv iv wr => ∃ i : Nat, i ≤ fs.length ∧ iv = .int .i64 i ∧ kv = .int .i64 ((endF k (fs.take i) : Nat) : Int) ∧ Below w.heap.size w wr) (fun _ iv _ => fs.length - (intOf iv).toNat)
  case atStart => exact ⟨0, by omega, rfl, rfl, Below.refl _ _⟩
  case round =>
    obtain ⟨i, hi, rfl, rfl, hbel⟩ := hrel
    by_cases hlt : i < fs.length
    · obtain ⟨b, off, cap, bv, e, hD, hb, hbody, c0, c1, c2, c3, c4, c5⟩ := (Hr.out.below hbel).at_ (i := i) (by rw [Hl.out]; exact hlt)
      simp only [Value.slice.injEq] at e
      obtain ⟨rfl, hdel, rfl⟩ := e
      clear hdel
      have hget := marksF_at k fs i hlt (by rw [Hl.out]; exact hlt)
      rw [hget] at c0 c1 c2 c3 c4 hbody
      have Hend := Lib.hid (endF_snoc k fs i hlt)
      have hmb : 1 ≤ endF k (fs.take i) ∧ nextF (endF k (fs.take i)) fs[i] ≤ 9000000 := by
        refine ⟨Nat.le_trans h1 (endF_mono _ _), ?_⟩
        have h := endF_take k fs (i + 1)
        rw [Hend.out] at h
        exact Nat.le_trans h H9.out
      obtain ⟨m, hm⟩ : ∃ m, m = endF k (fs.take i) := ⟨_, rfl⟩
      obtain ⟨f, hf⟩ : ∃ f, f = fs[i] := ⟨_, rfl⟩
      rw [← hm, ← hf] at hmb c0 c1 c2 c3 c4 hbody Hend
      rw [← hm]
      simp only [markFil] at c0 c1 c2 c3 c4 hbody
      have hnf : nextF m f = m + 5 + 5 * f.body.length := rfl
      rw [hnf] at hmb
      obtain ⟨t1, ht1⟩ : ∃ t, t = mt (m + 1) := ⟨_, rfl⟩
      obtain ⟨t2, ht2⟩ : ∃ t, t = mt (m + 2) := ⟨_, rfl⟩
      rw [← ht1] at c1
      rw [← ht2] at c2
      have Ht1 := Lib.hid ht1
      have Ht2 := Lib.hid ht2
      have Hbel := Lib.hid hbel
      have Hbody := Lib.hid hbody
      have hi9 : (i : Int) ≤ 9000000 := by omega
      clear hm hf ht1 ht2 hget hbel hbody
      have Hk := Lib.hid (fun (w' : World) (hB : Below wr.heap.size wr w') => (⟨(hB.cell (p := ⟨b, off + i * 6 + 1, none⟩) hb).trans c1, (hB.cell (p := ⟨b, off + i * 6 + 2, none⟩) hb).trans c2, (hB.cell (p := ⟨b, off + i * 6 + 3, none⟩) hb).trans c3, (hB.cell (p := ⟨b, off + i * 6 + 4, none⟩) hb).trans c4, (hB.cell (p := ⟨b, off + i * 6 + 5, none⟩) hb).trans c5, hB⟩ : w'.cell? ⟨b, off + i * 6 + 1, none⟩ = some (.string (mk t1)) ∧ w'.cell? ⟨b, off + i * 6 + 2, none⟩ = some (.string (mk t2)) ∧ w'.cell? ⟨b, off + i * 6 + 3, none⟩ = some (.bool (decide (((m : Int) + 1 + 1 + 1).tmod 3 = 0))) ∧ w'.cell? ⟨b, off + i * 6 + 4, none⟩ = some (.int .i64 ((m : Int) + 1 + 1 + 1 + 1)) ∧ w'.cell? ⟨b, off + i * 6 + 5, none⟩ = some bv ∧ Below wr.heap.size wr w'))
      go_wp2_with fail
      go_region_held3 (fun w' => w'.cell? ⟨b, off + i * 6 + 1, none⟩ = some (.string (mk t1)) ∧ w'.cell? ⟨b, off + i * 6 + 2, none⟩ = some (.string (mk t2)) ∧ w'.cell? ⟨b, off + i * 6 + 3, none⟩ = some (.bool (decide (((m : Int) + 1 + 1 + 1).tmod 3 = 0))) ∧ w'.cell? ⟨b, off + i * 6 + 4, none⟩ = some (.int .i64 ((m : Int) + 1 + 1 + 1 + 1)) ∧ w'.cell? ⟨b, off + i * 6 + 5, none⟩ = some bv ∧ Below wr.heap.size wr w')
        (exact Hk.out _ (by (repeat (with_reducible first | exact Below.refl _ _ | assumption | refine ba ?_ _ | refine bd ?_ | refine bdN ?_ _ | refine bs ?_ (by first | exact Nat.le_refl _ | (dsimp only; omega) | (simp; done)) _ | refine bt ?_ (by assumption)))))
        (first | (go_at_call 110; refine (laws_markTextI _ (m + 1) _ (by omega) (by omega) (by omega)).mono ?_; rintro _ w5 ⟨rfl, hb5⟩; rw [← Ht1.out]))
      have Hb6 := Lib.hid (show Below wr.heap.size wr w5 by (repeat (with_reducible first | exact Below.refl _ _ | assumption | refine ba ?_ _ | refine bd ?_ | refine bdN ?_ _ | refine bs ?_ (by first | exact Nat.le_refl _ | (dsimp only; omega) | (simp; done)) _ | refine bt ?_ (by assumption))))
      have hb6 : b < w5.heap.size := Nat.lt_of_lt_of_le hb Hb6.out.size
      obtain ⟨_, d2, d3, d4, d5, _⟩ := Hk.out w5 Hb6.out
      have Hk2 := Lib.hid (fun (w' : World) (hB : Below w5.heap.size w5 w') => (⟨(hB.cell (p := ⟨b, off + i * 6 + 2, none⟩) hb6).trans d2, (hB.cell (p := ⟨b, off + i * 6 + 3, none⟩) hb6).trans d3, (hB.cell (p := ⟨b, off + i * 6 + 4, none⟩) hb6).trans d4, (hB.cell (p := ⟨b, off + i * 6 + 5, none⟩) hb6).trans d5, hB⟩ : w'.cell? ⟨b, off + i * 6 + 2, none⟩ = some (.string (mk t2)) ∧ w'.cell? ⟨b, off + i * 6 + 3, none⟩ = some (.bool (decide (((m : Int) + 1 + 1 + 1).tmod 3 = 0))) ∧ w'.cell? ⟨b, off + i * 6 + 4, none⟩ = some (.int .i64 ((m : Int) + 1 + 1 + 1 + 1)) ∧ w'.cell? ⟨b, off + i * 6 + 5, none⟩ = some bv ∧ Below w5.heap.size w5 w'))
      go_wp2_with fail
      go_region_held3 (fun w' => w'.cell? ⟨b, off + i * 6 + 2, none⟩ = some (.string (mk t2)) ∧ w'.cell? ⟨b, off + i * 6 + 3, none⟩ = some (.bool (decide (((m : Int) + 1 + 1 + 1).tmod 3 = 0))) ∧ w'.cell? ⟨b, off + i * 6 + 4, none⟩ = some (.int .i64 ((m : Int) + 1 + 1 + 1 + 1)) ∧ w'.cell? ⟨b, off + i * 6 + 5, none⟩ = some bv ∧ Below w5.heap.size w5 w')
        (exact Hk2.out _ (by (repeat (with_reducible first | exact Below.refl _ _ | assumption | refine ba ?_ _ | refine bd ?_ | refine bdN ?_ _ | refine bs ?_ (by first | exact Nat.le_refl _ | (dsimp only; omega) | (simp; done)) _ | refine bt ?_ (by assumption)))))
        (first | (go_at_call 110; refine (laws_markTextI _ (m + 2) _ (by omega) (by omega) (by omega)).mono ?_; rintro _ w7 ⟨rfl, hb7⟩; rw [← Ht2.out]))
      have Hb8 := Lib.hid (show Below w5.heap.size w5 w7 by (repeat (with_reducible first | exact Below.refl _ _ | assumption | refine ba ?_ _ | refine bd ?_ | refine bdN ?_ _ | refine bs ?_ (by first | exact Nat.le_refl _ | (dsimp only; omega) | (simp; done)) _ | refine bt ?_ (by assumption))))
      obtain ⟨_, f3, f4, f5, _⟩ := Hk2.out w7 Hb8.out
      have Hb9 := Lib.hid (bt Hb6.out Hb8.out)
      go_wp2_with (go_at_call 131; refine (laws_heldStmtSI bv D f.body.length _ (m + 5) _ (by omega) (Hbody.out.below (bt Hb9.out (by (repeat (with_reducible first | exact Below.refl _ _ | assumption | refine ba ?_ _ | refine bd ?_ | refine bdN ?_ _ | refine bs ?_ (by first | exact Nat.le_refl _ | (dsimp only; omega) | (simp; done)) _ | refine bt ?_ (by assumption)))))) (by omega) (by omega)).mono ?_; rintro _ w9 ⟨rfl, hb9⟩; have hk0 : ¬ (((m + 5 + 5 * f.body.length : Nat)) : Int) < 0 := Int.not_lt.2 (Int.natCast_nonneg _))
      all_goals first
        | exact ⟨⟨i + 1, by omega, by go_num, by rw [Hend.out, hnf]; go_num, bt (bt Hbel.out Hb9.out) (bt (by (repeat (with_reducible first | exact Below.refl _ _ | assumption | refine ba ?_ _ | refine bd ?_ | refine bdN ?_ _ | refine bs ?_ (by first | exact Nat.le_refl _ | (dsimp only; omega) | (simp; done)) _ | refine bt ?_ (by assumption)))) hb9)⟩, by simp [intOf]; omega⟩
        | (rename_i h; exfalso; revert h; by_cases hq : ((m : Int) + 1 + 1 + 1) % 3 = 0 <;> simp [hq]; done)
    · obtain rfl : i = fs.length := by omega
      go_wp2_with fail
      go_ret
      exact ⟨by rw [List.take_length]; rfl, hbel⟩

set_option maxRecDepth 100000 in
set_option maxHeartbeats 1000000 in
theorem laws_heldTree (v : Value) (D : Nat → Prop) (fs : List Fil) (k : Nat) (w : World) (hr : FilsIn w D v (marksF k fs)) (h1 : 1 ≤ k) (h9 : endF k fs ≤ 9000000) (hn9 : fs.length ≤ 9000000) :
    Calls Try.prog 74 #[.agg #[v], .int .i64 k] w fun e w' => e = .returned (.int .i64 ((endF k fs : Nat) : Int)) ∧ Below w.heap.size w w' := by
  have Hr := Lib.hid hr
  obtain ⟨aa, ca, rfl, hlc, hm⟩ := hr.len
  have H9 := Lib.hid h9
  clear hr hlc hm h9
  go_enter Try.func74, Try.ntmps74
  go_wp2_with (go_at_call 112; refine (laws_heldFileS _ D fs k _ (Hr.out.below (by (repeat (with_reducible first | exact Below.refl _ _ | assumption | refine ba ?_ _ | refine bd ?_ | refine bdN ?_ _ | refine bs ?_ (by first | exact Nat.le_refl _ | (dsimp only; omega) | (simp; done)) _ | refine bt ?_ (by assumption))))) h1 H9.out hn9).mono ?_; rintro _ w5 ⟨rfl, hb5⟩; have hk0 : ¬ ((endF k fs : Nat) : Int) < 0 := Int.not_lt.2 (Int.natCast_nonneg _))
  go_ret
  exact ⟨rfl, by (repeat (with_reducible first | exact Below.refl _ _ | assumption | refine ba ?_ _ | refine bd ?_ | refine bdN ?_ _ | refine bs ?_ (by first | exact Nat.le_refl _ | (dsimp only; omega) | (simp; done)) _ | refine bt ?_ (by assumption)))⟩
end Go.Proofs.Ytgecemngfpgcoaa
