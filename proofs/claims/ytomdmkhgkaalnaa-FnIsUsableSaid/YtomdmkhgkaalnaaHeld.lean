/- The exact laws' looks for their marks in statements, files and trees. -/
import Derived.Test.YtomdmkhgkaalnaaMarks2
import Derived.Deep.RegionHeld3
set_option linter.unusedVariables false
set_option linter.unusedSimpArgs false
namespace Go.Proofs.Ytomdmkhgkaalnaa
open Go.RowKit Go.Proofs.Ytomdmkhgkaalnaa.Nm

set_option maxRecDepth 100000 in
set_option maxHeartbeats 2000000 in
theorem laws_heldStmtS (v : Value) (D : Nat → Prop) (n k : Nat) (w : World) (hr : StmsIn w D v (marksS k n)) (h1 : 1 ≤ k) (h9 : k + 5 * n ≤ 9000000) :
    Calls Try.prog 74 #[v, .int .i64 k] w fun e w' => e = .returned (.int .i64 ((k + 5 * n : Nat) : Int)) ∧ Below w.heap.size w w' := by
  have hl := marksS_len k n
  have Hr := Lib.hid hr
  obtain ⟨aa, ca, rfl, hlc, hm⟩ := hr.len
  have hv : (Value.slice aa (marksS k n).length ca) = .slice aa n ca := by rw [hl]
  rw [hv]
  have H9 := Lib.hid h9
  have Hl := Lib.hid hl
  have hn9 : n ≤ 9000000 := by omega
  clear hr hl h9 hv hlc hm
  go_enter Try.func74, Try.ntmps74
  go_wp2_with fail
  go_loopw [1, 5] (fun kv iv wr => ∃ i : Nat, i ≤ n ∧ iv = .int .i64 i ∧ kv = .int .i64 ((k + 5 * i : Nat) : Int) ∧ Below w.heap.size w wr) (fun _ iv _ => n - (intOf iv).toNat)
  case atStart => exact ⟨0, by omega, rfl, rfl, Below.refl _ _⟩
  case round =>
    obtain ⟨i, hi, rfl, rfl, hbel⟩ := hrel
    by_cases hlt : i < n
    · obtain ⟨b, off, cap, e, hD, hb, c0, c1, c2, c3, c4⟩ := (Hr.out.below hbel).at_ (i := i) (by rw [Hl.out]; exact hlt)
      simp only [Value.slice.injEq] at e
      obtain ⟨rfl, hdel, rfl⟩ := e
      clear hdel
      have hget : (marksS k n)[i]'(by rw [Hl.out]; exact hlt) = markStm (k + 5 * i) := by simp [marksS]
      rw [hget] at c0 c1 c2 c3 c4
      have hmb : 1 ≤ k + 5 * i ∧ k + 5 * i + 5 ≤ 9000000 := by have := H9.out; omega
      obtain ⟨m, hm⟩ : ∃ m, m = k + 5 * i := ⟨_, rfl⟩
      rw [← hm] at hmb c0 c1 c2 c3 c4 ⊢
      have Hm := Lib.hid hm
      simp only [markStm] at c0 c1 c2 c3 c4
      obtain ⟨t1, ht1⟩ : ∃ t, t = mt (m + 1) := ⟨_, rfl⟩
      obtain ⟨t3, ht3⟩ : ∃ t, t = mt (m + 3) := ⟨_, rfl⟩
      rw [← ht1] at c1
      rw [← ht3] at c3
      have Ht1 := Lib.hid ht1
      have Ht3 := Lib.hid ht3
      have Hbel := Lib.hid hbel
      have hi9 : (i : Int) ≤ 9000000 := by omega
      clear hm ht1 ht3 hget hbel
      have Hk := Lib.hid (fun (w' : World) (hB : Below wr.heap.size wr w') => (⟨(hB.cell (p := ⟨b, off + i * 5 + 1, none⟩) hb).trans c1, (hB.cell (p := ⟨b, off + i * 5 + 2, none⟩) hb).trans c2, (hB.cell (p := ⟨b, off + i * 5 + 3, none⟩) hb).trans c3, (hB.cell (p := ⟨b, off + i * 5 + 4, none⟩) hb).trans c4, hB⟩ : w'.cell? ⟨b, off + i * 5 + 1, none⟩ = some (.string (mk t1)) ∧ w'.cell? ⟨b, off + i * 5 + 2, none⟩ = some (.int .i64 ((m : Int) + 1 + 1)) ∧ w'.cell? ⟨b, off + i * 5 + 3, none⟩ = some (.string (mk t3)) ∧ w'.cell? ⟨b, off + i * 5 + 4, none⟩ = some (.int .i64 ((m : Int) + 1 + 1 + 1 + 1)) ∧ Below wr.heap.size wr w'))
      go_wp2_with fail
      go_region_held3 (fun w' => w'.cell? ⟨b, off + i * 5 + 1, none⟩ = some (.string (mk t1)) ∧ w'.cell? ⟨b, off + i * 5 + 2, none⟩ = some (.int .i64 ((m : Int) + 1 + 1)) ∧ w'.cell? ⟨b, off + i * 5 + 3, none⟩ = some (.string (mk t3)) ∧ w'.cell? ⟨b, off + i * 5 + 4, none⟩ = some (.int .i64 ((m : Int) + 1 + 1 + 1 + 1)) ∧ Below wr.heap.size wr w')
        (exact Hk.out _ (by (repeat (with_reducible first | exact Below.refl _ _ | assumption | refine ba ?_ _ | refine bd ?_ | refine bdN ?_ _ | refine bs ?_ (by first | exact Nat.le_refl _ | (dsimp only; omega) | (simp; done)) _ | refine bt ?_ (by assumption)))))
        (first | (go_at_call 71; refine (laws_markTextI _ (m + 1) _ (by omega) (by omega) (by omega)).mono ?_; rintro _ w5 ⟨rfl, hb5⟩; rw [← Ht1.out]))
      have Hb6 := Lib.hid (show Below wr.heap.size wr w5 by (repeat (with_reducible first | exact Below.refl _ _ | assumption | refine ba ?_ _ | refine bd ?_ | refine bdN ?_ _ | refine bs ?_ (by first | exact Nat.le_refl _ | (dsimp only; omega) | (simp; done)) _ | refine bt ?_ (by assumption))))
      have hb6 : b < w5.heap.size := Nat.lt_of_lt_of_le hb Hb6.out.size
      obtain ⟨_, d2, d3, d4, _⟩ := Hk.out w5 Hb6.out
      have Hk2 := Lib.hid (fun (w' : World) (hB : Below w5.heap.size w5 w') => (⟨(hB.cell (p := ⟨b, off + i * 5 + 3, none⟩) hb6).trans d3, (hB.cell (p := ⟨b, off + i * 5 + 4, none⟩) hb6).trans d4, hB⟩ : w'.cell? ⟨b, off + i * 5 + 3, none⟩ = some (.string (mk t3)) ∧ w'.cell? ⟨b, off + i * 5 + 4, none⟩ = some (.int .i64 ((m : Int) + 1 + 1 + 1 + 1)) ∧ Below w5.heap.size w5 w'))
      go_wp2_with fail
      go_region_held3 (fun w' => w'.cell? ⟨b, off + i * 5 + 3, none⟩ = some (.string (mk t3)) ∧ w'.cell? ⟨b, off + i * 5 + 4, none⟩ = some (.int .i64 ((m : Int) + 1 + 1 + 1 + 1)) ∧ Below w5.heap.size w5 w')
        (exact Hk2.out _ (by (repeat (with_reducible first | exact Below.refl _ _ | assumption | refine ba ?_ _ | refine bd ?_ | refine bdN ?_ _ | refine bs ?_ (by first | exact Nat.le_refl _ | (dsimp only; omega) | (simp; done)) _ | refine bt ?_ (by assumption)))))
        (first | (go_at_call 71; refine (laws_markTextI _ (m + 3) _ (by omega) (by omega) (by omega)).mono ?_; rintro _ w7 ⟨rfl, hb7⟩; rw [← Ht3.out]))
      have Hb8 := Lib.hid (show Below w5.heap.size w5 w7 by (repeat (with_reducible first | exact Below.refl _ _ | assumption | refine ba ?_ _ | refine bd ?_ | refine bdN ?_ _ | refine bs ?_ (by first | exact Nat.le_refl _ | (dsimp only; omega) | (simp; done)) _ | refine bt ?_ (by assumption))))
      obtain ⟨_, f4, _⟩ := Hk2.out w7 Hb8.out
      go_wp2_with fail
      go_roundw
      case rel => exact ⟨i + 1, by omega, by go_num, by rw [show k + 5 * (i + 1) = m + 5 by have := Hm.out; omega]; go_num, bt (bt Hbel.out Hb6.out) Hb8.out⟩
      case measure => simp [intOf]; omega
    · obtain rfl : i = n := by omega
      go_wp2_with fail
      go_ret
      exact ⟨rfl, hbel⟩


end Go.Proofs.Ytomdmkhgkaalnaa
