/- The functions that draw statements and bodies: whatever the code, they answer short ones, in memory of their own. Written by mkdraw.py. -/
import Derived.Test.YtomdmkhgkaalnaaDraw
import Derived.Test.YtomdmkhgkaalnaaDrawR
import Derived.Test.YtomdmkhgkaalnaaBoxT
import Derived.Test.YtomdmkhgkaalnaaStmT
set_option linter.unusedVariables false
set_option linter.unusedSimpArgs false
namespace Go.Proofs.Ytomdmkhgkaalnaa
open Go.RowKit Go.Proofs.Ytomdmkhgkaalnaa.Nm

theorem own_hasD {w : World} {B e s g cap n : Nat} {xs : List Value} (h : w.ownsRow B e s (.slice (some ⟨g, 0, none⟩) n cap) n xs) (j : Nat) (hj : j < n * s) : ∃ u, w.cell? ⟨g, j, none⟩ = some u := by
  rw [h.cellAt j hj]
  exact ⟨_, List.getElem?_eq_getElem (by rw [h.1]; exact hj)⟩
theorem stm_oneD (ss : List Stm) : ∀ u ∈ ss.flatMap stmCells, u.oneCell' = true := fun u hu => by
  obtain ⟨s, _, h⟩ := List.mem_flatMap.1 hu
  simp only [stmCells, List.mem_cons, List.not_mem_nil, or_false] at h
  rcases h with rfl | rfl | rfl | rfl | rfl <;> rfl
theorem new_cellsD (w : World) (cs : Array Value) (T : TypeId) (b : Nat) (hb : b = w.heap.size) : ∀ (j : Nat) (u : Value), cs.toList[j]? = some u → (w.alloc (.cells cs T)).cell? ((⟨b, 0, none⟩ : Addr).add j) = some u := by
  subst hb
  intro j u hu
  have e : (w.alloc (.cells cs T)).heap[w.heap.size]? = some (.cells cs T (0, 0)) := by
    show (w.heap.push (Obj.cells cs T (0, 0)))[w.heap.size]? = _
    simp
  have ha : (⟨w.heap.size, 0, none⟩ : Addr).add j = ⟨w.heap.size, j, none⟩ := by unfold Addr.add; split <;> simp_all
  rw [ha]
  simp only [World.cell?, e]
  simpa using hu
theorem owns_set_otherD {w : World} {B e size n : Nat} {v : Value} {xs : List Value} (h : w.ownsRow B e size v n xs) {p : Addr} (hp : ∀ b, v.ownBlock = some b → b ≠ p.block) (u : Value) : (w.setCell p u).ownsRow B e size v n xs :=
  owns_heap h (fun b hb => Below.heap_setCell w p u b (hp b hb))
theorem mk_x : (⟨#[120]⟩ : ByteArray) = mk [120] := rfl
theorem mk_y : (⟨#[121]⟩ : ByteArray) = mk [121] := rfl
theorem Rd.set {w : World} {R q : Nat} (h : Rd w R q) {p : Addr} (hp : R < p.block) (u : Value) : Rd (w.setCell p u) R q := h.keep (fun k hk => Below.heap_setCell w p u k (by omega))
theorem gb_set {w a : World} {R : Nat} (h : w.grownBy a (some R)) {p : Addr} (hp : w.heap.size ≤ p.block) (u : Value) : w.grownBy (a.setCell p u) (some R) :=
  ⟨h.os, h.tape, h.output, by simpa using h.size, fun i hi hr => (Below.heap_setCell a p u i (by omega)).trans (h.block i hi hr)⟩
/-- A call that draws has a box of its own, at X, and has changed nothing else than the reader. -/
def Dst (w : World) (R X : Nat) (cs : Array Value) (w1 : World) : Prop := BoxC w1 X cs ∧ (∀ j, w1.frozen? ⟨X, j, none⟩ = false) ∧ w.grownBy w1 (some R) ∧ R < X ∧ w.heap.size ≤ X
theorem Dst.start {w : World} {R : Nat} (hR : R < w.heap.size) (cs : Array Value) (T : TypeId) : Dst w R w.heap.size cs (w.alloc (.cells cs T)) :=
  ⟨BoxC.start w cs T, fun j => by simp [go_sem], World.grownBy_alloc w _ _, hR, Nat.le_refl _⟩
theorem Dst.step {w w1 w2 : World} {R X : Nat} {cs : Array Value} (h : Dst w R X cs w1) (hg : w1.grownBy w2 (some R)) : Dst w R X cs w2 := by
  obtain ⟨⟨b1, b2⟩, f, g, hx, hw⟩ := h
  have hb := hg.block X b1 (fun e => by have := Option.some.inj e; omega)
  refine ⟨⟨Nat.lt_of_lt_of_le b1 hg.size, fun i => ?_⟩, fun j => ?_, gb_trans g hg, hx, hw⟩
  · rw [World.cell?_of_block (w := w1) hb]; exact b2 i
  · rw [show w2.frozen? ⟨X, j, none⟩ = w1.frozen? ⟨X, j, none⟩ by simp only [World.frozen?, hb]]; exact f j
theorem Dst.alloc {w w1 : World} {R X : Nat} {cs : Array Value} (h : Dst w R X cs w1) (o : Obj) : Dst w R X cs (w1.alloc o) := h.step (gb_below (ba (Below.refl _ _) o) _)

/-- What a function that draws a statement comes to. -/
def DrawStm (R q : Nat) (w : World) (e : Ending) (w' : World) : Prop :=
  ∃ s : Stm, e = .returned (stmV s) ∧ s.module.length ≤ 8 ∧ s.name.length ≤ 8 ∧ ∃ q', q' ≤ q + 10 ∧ Rd w' R q' ∧ w.grownBy w' (some R)
/-- .. and the statement is a valid one. -/
def DrawStmK (R q : Nat) (w : World) (e : Ending) (w' : World) : Prop :=
  ∃ s : Stm, e = .returned (stmV s) ∧ okStm s = true ∧ s.module.length ≤ 8 ∧ s.name.length ≤ 8 ∧ ∃ q', q' ≤ q + 10 ∧ Rd w' R q' ∧ w.grownBy w' (some R)
set_option maxRecDepth 100000 in
set_option maxHeartbeats 2000000 in
theorem spec_someStmtK (R q : Nat) (w : World) (hr : Rd w R q) (hq : q ≤ 800000) :
    Calls Try.prog 131 #[.pointer (some ⟨R, 0, none⟩)] w (DrawStmK R q w) := by
  have hR := hr.lt
  go_enter Try.func131, Try.ntmps131
  go_wp2_with fail
  have d0 := Dst.start hR #[.int .i64 0, .string ByteArray.empty, .int .i64 0, .string ByteArray.empty, .int .i64 0] 124
  refine (reader_pick R q _ _ (hr.alloc _) (by omega) (by omega)).mono ?_
  rintro e w1 ⟨j, rfl, hj0, hj, hr1, hg1⟩
  have D1 := Lib.hid (d0.step hg1)
  clear d0 hg1
  have hcase : j = 0 ∨ j = 1 ∨ j = 2 ∨ j = 3 ∨ j = 4 ∨ j = 5 ∨ j = 6 ∨ j = 7 ∨ j = 8 := by omega
  rcases hcase with rfl | rfl | rfl | rfl | rfl | rfl | rfl | rfl | rfl
  · skip
    go_wp2_with fail
    refine (spec_aNameK R (q + 1) _ hr1 (by omega)).mono ?_
    rintro e w2 ⟨p, rfl, hvp, hp, q2, hq2, hr2, hg2⟩
    have D2 := Lib.hid (D1.out.step hg2)
    have Hvp := Lib.hid hvp
    clear hg2 hvp
    obtain ⟨⟨hl, hc⟩, hf, hg, hx, hw⟩ := D2.out
    have x0 : w2.cell? ⟨w.heap.size, 0, none⟩ = some (.int .i64 0) := hc 0
    have x1 : w2.cell? ⟨w.heap.size, 1, none⟩ = some (.string ByteArray.empty) := hc 1
    have x2 : w2.cell? ⟨w.heap.size, 2, none⟩ = some (.int .i64 0) := hc 2
    have x3 : w2.cell? ⟨w.heap.size, 3, none⟩ = some (.string ByteArray.empty) := hc 3
    have x4 : w2.cell? ⟨w.heap.size, 4, none⟩ = some (.int .i64 0) := hc 4
    have Hg := Lib.hid hg
    clear hc hg
    go_wp2_with fail
    refine bodyPost_ret (v := stmV ⟨0, p, 0, [], 0⟩) (by simp [results, Try.results131, go_sem, stmV, mk_nil, mk_x, *]) rfl ⟨_, rfl, okS_imp Hvp.out, by simp <;> omega, by simp <;> omega, q2, by omega, ?_, ?_⟩
    · repeat (refine Rd.set ?_ (by dsimp only; omega) _)
      exact hr2
    · repeat (refine gb_set ?_ (by dsimp only; omega) _)
      exact Hg.out
  · skip
    go_wp2_with fail
    refine (spec_aNameK R (q + 1) _ hr1 (by omega)).mono ?_
    rintro e w2 ⟨p, rfl, hvp, hp, q2, hq2, hr2, hg2⟩
    have D2 := Lib.hid (D1.out.step hg2)
    have Hvp := Lib.hid hvp
    clear hg2 hvp
    obtain ⟨⟨hl, hc⟩, hf, hg, hx, hw⟩ := D2.out
    have x0 : w2.cell? ⟨w.heap.size, 0, none⟩ = some (.int .i64 0) := hc 0
    have x1 : w2.cell? ⟨w.heap.size, 1, none⟩ = some (.string ByteArray.empty) := hc 1
    have x2 : w2.cell? ⟨w.heap.size, 2, none⟩ = some (.int .i64 0) := hc 2
    have x3 : w2.cell? ⟨w.heap.size, 3, none⟩ = some (.string ByteArray.empty) := hc 3
    have x4 : w2.cell? ⟨w.heap.size, 4, none⟩ = some (.int .i64 0) := hc 4
    have Hg := Lib.hid hg
    clear hc hg
    go_wp2_with fail
    refine bodyPost_ret (v := stmV ⟨0, p, 0, [], 0⟩) (by simp [results, Try.results131, go_sem, stmV, mk_nil, mk_x, *]) rfl ⟨_, rfl, okS_imp Hvp.out, by simp <;> omega, by simp <;> omega, q2, by omega, ?_, ?_⟩
    · repeat (refine Rd.set ?_ (by dsimp only; omega) _)
      exact hr2
    · repeat (refine gb_set ?_ (by dsimp only; omega) _)
      exact Hg.out
  · go_wp2_with fail
    have hl1 := hr1.lt
    refine (reader_one R (q + 1) w1.heap.size 3 [0, 1, 2, 1] _ (hr1.alloc _) (heap_new w1 _ _) (by omega) (by decide) (by decide) (by omega)).mono ?_
    rintro e w2 ⟨lv, hlv, rfl, hr2, hg2⟩
    have hlv' := mem_int 0 2 (by decide) hlv
    have D2 := Lib.hid ((D1.out.alloc _).step hg2)
    clear hg2 hlv
    go_wp2_with fail
    refine (spec_aNameK R (q + 1 + 1) _ hr2 (by omega)).mono ?_
    rintro e w3 ⟨p, rfl, hvp, hp, q3, hq3, hr3, hg3⟩
    have D3 := Lib.hid (D2.out.step hg3)
    have Hvp := Lib.hid hvp
    clear hg3 hvp
    by_cases hlv0 : 0 < lv
    · go_wp2_with fail
      refine (reader_pick R q3 _ _ hr3 (by omega) (by omega)).mono ?_
      rintro e w4 ⟨j, rfl, hj0, hj, hr4, hg4⟩
      have D4 := Lib.hid (D3.out.step hg4)
      clear hg4
      by_cases hj1 : j = 0
      · subst hj1
        go_wp2_with fail
        refine (spec_aPartK R (q3 + 1) _ hr4 (by omega)).mono ?_
        rintro e w5 ⟨p5, rfl, hvp5, hp5, q5, hq5, hr5, hg5⟩
        have D5 := Lib.hid (D4.out.step hg5)
        have Hvp5 := Lib.hid hvp5
        clear hg5 hvp5
        obtain ⟨⟨hl, hc⟩, hf, hg, hx, hw⟩ := D5.out
        have x0 : w5.cell? ⟨w.heap.size, 0, none⟩ = some (.int .i64 0) := hc 0
        have x1 : w5.cell? ⟨w.heap.size, 1, none⟩ = some (.string ByteArray.empty) := hc 1
        have x2 : w5.cell? ⟨w.heap.size, 2, none⟩ = some (.int .i64 0) := hc 2
        have x3 : w5.cell? ⟨w.heap.size, 3, none⟩ = some (.string ByteArray.empty) := hc 3
        have x4 : w5.cell? ⟨w.heap.size, 4, none⟩ = some (.int .i64 0) := hc 4
        have Hg := Lib.hid hg
        clear hc hg
        go_wp2_with fail
        refine bodyPost_ret (v := stmV ⟨1, [], lv, p5, 0⟩) (by simp [results, Try.results131, go_sem, stmV, mk_nil, mk_x, *]) rfl ⟨_, rfl, okS_up Hvp5.out (by omega) (by omega), by simp <;> omega, by simp <;> omega, q5, by omega, ?_, ?_⟩
        · repeat (refine Rd.set ?_ (by dsimp only; omega) _)
          exact hr5
        · repeat (refine gb_set ?_ (by dsimp only; omega) _)
          exact Hg.out
      · have hjb : (j == 0) = false := by simpa using hj1
        go_wp2_with fail
        refine (spec_aPartK R (q3 + 1) _ hr4 (by omega)).mono ?_
        rintro e w5 ⟨p5, rfl, hvp5, hp5, q5, hq5, hr5, hg5⟩
        have D5 := Lib.hid (D4.out.step hg5)
        have Hvp5 := Lib.hid hvp5
        clear hg5 hvp5
        obtain ⟨⟨hl, hc⟩, hf, hg, hx, hw⟩ := D5.out
        have x0 : w5.cell? ⟨w.heap.size, 0, none⟩ = some (.int .i64 0) := hc 0
        have x1 : w5.cell? ⟨w.heap.size, 1, none⟩ = some (.string ByteArray.empty) := hc 1
        have x2 : w5.cell? ⟨w.heap.size, 2, none⟩ = some (.int .i64 0) := hc 2
        have x3 : w5.cell? ⟨w.heap.size, 3, none⟩ = some (.string ByteArray.empty) := hc 3
        have x4 : w5.cell? ⟨w.heap.size, 4, none⟩ = some (.int .i64 0) := hc 4
        have Hg := Lib.hid hg
        clear hc hg
        go_wp2_with fail
        refine bodyPost_ret (v := stmV ⟨1, p, lv, p5, 0⟩) (by simp [results, Try.results131, go_sem, stmV, mk_nil, mk_x, *]) rfl ⟨_, rfl, okS_from Hvp.out Hvp5.out (by omega) (by omega), by simp <;> omega, by simp <;> omega, q5, by omega, ?_, ?_⟩
        · repeat (refine Rd.set ?_ (by dsimp only; omega) _)
          exact hr5
        · repeat (refine gb_set ?_ (by dsimp only; omega) _)
          exact Hg.out
    · skip
      go_wp2_with fail
      refine (spec_aPartK R q3 _ hr3 (by omega)).mono ?_
      rintro e w5 ⟨p5, rfl, hvp5, hp5, q5, hq5, hr5, hg5⟩
      have D5 := Lib.hid (D3.out.step hg5)
      have Hvp5 := Lib.hid hvp5
      clear hg5 hvp5
      obtain ⟨⟨hl, hc⟩, hf, hg, hx, hw⟩ := D5.out
      have x0 : w5.cell? ⟨w.heap.size, 0, none⟩ = some (.int .i64 0) := hc 0
      have x1 : w5.cell? ⟨w.heap.size, 1, none⟩ = some (.string ByteArray.empty) := hc 1
      have x2 : w5.cell? ⟨w.heap.size, 2, none⟩ = some (.int .i64 0) := hc 2
      have x3 : w5.cell? ⟨w.heap.size, 3, none⟩ = some (.string ByteArray.empty) := hc 3
      have x4 : w5.cell? ⟨w.heap.size, 4, none⟩ = some (.int .i64 0) := hc 4
      have Hg := Lib.hid hg
      clear hc hg
      go_wp2_with fail
      refine bodyPost_ret (v := stmV ⟨1, p, lv, p5, 0⟩) (by simp [results, Try.results131, go_sem, stmV, mk_nil, mk_x, *]) rfl ⟨_, rfl, okS_from Hvp.out Hvp5.out (by omega) (by omega), by simp <;> omega, by simp <;> omega, q5, by omega, ?_, ?_⟩
      · repeat (refine Rd.set ?_ (by dsimp only; omega) _)
        exact hr5
      · repeat (refine gb_set ?_ (by dsimp only; omega) _)
        exact Hg.out
  · skip
    go_wp2_with fail
    refine (spec_aNameK R (q + 1) _ hr1 (by omega)).mono ?_
    rintro e w2 ⟨p, rfl, hvp, hp, q2, hq2, hr2, hg2⟩
    have D2 := Lib.hid (D1.out.step hg2)
    have Hvp := Lib.hid hvp
    clear hg2 hvp
    obtain ⟨⟨hl, hc⟩, hf, hg, hx, hw⟩ := D2.out
    have x0 : w2.cell? ⟨w.heap.size, 0, none⟩ = some (.int .i64 0) := hc 0
    have x1 : w2.cell? ⟨w.heap.size, 1, none⟩ = some (.string ByteArray.empty) := hc 1
    have x2 : w2.cell? ⟨w.heap.size, 2, none⟩ = some (.int .i64 0) := hc 2
    have x3 : w2.cell? ⟨w.heap.size, 3, none⟩ = some (.string ByteArray.empty) := hc 3
    have x4 : w2.cell? ⟨w.heap.size, 4, none⟩ = some (.int .i64 0) := hc 4
    have Hg := Lib.hid hg
    clear hc hg
    go_wp2_with fail
    refine bodyPost_ret (v := stmV ⟨2, p, 0, [], 0⟩) (by simp [results, Try.results131, go_sem, stmV, mk_nil, mk_x, *]) rfl ⟨_, rfl, okS_star Hvp.out, by simp <;> omega, by simp <;> omega, q2, by omega, ?_, ?_⟩
    · repeat (refine Rd.set ?_ (by dsimp only; omega) _)
      exact hr2
    · repeat (refine gb_set ?_ (by dsimp only; omega) _)
      exact Hg.out
  · go_wp2_with fail
    refine (reader_of R (q + 1) _ [[120], [121], [122], [97]] _ (hr1.alloc _) (reads_lit w1 [[120], [121], [122], [97]] 9 (by decide)) (by decide) (by decide) (by omega)).mono ?_
    rintro e w2 ⟨p, hp, rfl, hr2, hg2⟩
    have hp1 := mem_len 1 (by decide) hp
    have Hvp := Lib.hid (mem_vp (by decide) hp)
    have D2 := Lib.hid ((D1.out.alloc _).step hg2)
    clear hg2 hp
    go_wp2_with fail
    refine (reader_pick R (q + 1 + 1) _ _ hr2 (by omega) (by omega)).mono ?_
    rintro e w3 ⟨j, rfl, hj0, hj, hr3, hg3⟩
    have D3 := Lib.hid (D2.out.step hg3)
    clear hg3
    obtain ⟨⟨hl, hc⟩, hf, hg, hx, hw⟩ := D3.out
    have x0 : w3.cell? ⟨w.heap.size, 0, none⟩ = some (.int .i64 0) := hc 0
    have x1 : w3.cell? ⟨w.heap.size, 1, none⟩ = some (.string ByteArray.empty) := hc 1
    have x2 : w3.cell? ⟨w.heap.size, 2, none⟩ = some (.int .i64 0) := hc 2
    have x3 : w3.cell? ⟨w.heap.size, 3, none⟩ = some (.string ByteArray.empty) := hc 3
    have x4 : w3.cell? ⟨w.heap.size, 4, none⟩ = some (.int .i64 0) := hc 4
    have Hg := Lib.hid hg
    clear hc hg
    go_wp2_with fail
    refine bodyPost_ret (v := stmV ⟨3, [], 0, p, j⟩) (by simp [results, Try.results131, go_sem, stmV, mk_nil, mk_x, *]) rfl ⟨_, rfl, okS_set Hvp.out (by omega) (by omega), by simp <;> omega, by simp <;> omega, q + 1 + 1 + 1, by omega, ?_, ?_⟩
    · repeat (refine Rd.set ?_ (by dsimp only; omega) _)
      exact hr3
    · repeat (refine gb_set ?_ (by dsimp only; omega) _)
      exact Hg.out
  · go_wp2_with fail
    refine (reader_of R (q + 1) _ [[120], [121], [122], [97]] _ (hr1.alloc _) (reads_lit w1 [[120], [121], [122], [97]] 9 (by decide)) (by decide) (by decide) (by omega)).mono ?_
    rintro e w2 ⟨p, hp, rfl, hr2, hg2⟩
    have hp1 := mem_len 1 (by decide) hp
    have Hvp := Lib.hid (mem_vp (by decide) hp)
    have D2 := Lib.hid ((D1.out.alloc _).step hg2)
    clear hg2 hp
    go_wp2_with fail
    refine (reader_pick R (q + 1 + 1) _ _ hr2 (by omega) (by omega)).mono ?_
    rintro e w3 ⟨j, rfl, hj0, hj, hr3, hg3⟩
    have D3 := Lib.hid (D2.out.step hg3)
    clear hg3
    obtain ⟨⟨hl, hc⟩, hf, hg, hx, hw⟩ := D3.out
    have x0 : w3.cell? ⟨w.heap.size, 0, none⟩ = some (.int .i64 0) := hc 0
    have x1 : w3.cell? ⟨w.heap.size, 1, none⟩ = some (.string ByteArray.empty) := hc 1
    have x2 : w3.cell? ⟨w.heap.size, 2, none⟩ = some (.int .i64 0) := hc 2
    have x3 : w3.cell? ⟨w.heap.size, 3, none⟩ = some (.string ByteArray.empty) := hc 3
    have x4 : w3.cell? ⟨w.heap.size, 4, none⟩ = some (.int .i64 0) := hc 4
    have Hg := Lib.hid hg
    clear hc hg
    go_wp2_with fail
    refine bodyPost_ret (v := stmV ⟨3, [], 0, p, j⟩) (by simp [results, Try.results131, go_sem, stmV, mk_nil, mk_x, *]) rfl ⟨_, rfl, okS_set Hvp.out (by omega) (by omega), by simp <;> omega, by simp <;> omega, q + 1 + 1 + 1, by omega, ?_, ?_⟩
    · repeat (refine Rd.set ?_ (by dsimp only; omega) _)
      exact hr3
    · repeat (refine gb_set ?_ (by dsimp only; omega) _)
      exact Hg.out
  · go_wp2_with fail
    refine (reader_of R (q + 1) _ [[120], [121], [122], [97]] _ (hr1.alloc _) (reads_lit w1 [[120], [121], [122], [97]] 9 (by decide)) (by decide) (by decide) (by omega)).mono ?_
    rintro e w2 ⟨p, hp, rfl, hr2, hg2⟩
    have hp1 := mem_len 1 (by decide) hp
    have Hvp := Lib.hid (mem_vp (by decide) hp)
    have D2 := Lib.hid ((D1.out.alloc _).step hg2)
    clear hg2 hp
    go_wp2_with fail
    refine (reader_pick R (q + 1 + 1) _ _ hr2 (by omega) (by omega)).mono ?_
    rintro e w3 ⟨j, rfl, hj0, hj, hr3, hg3⟩
    have D3 := Lib.hid (D2.out.step hg3)
    clear hg3
    obtain ⟨⟨hl, hc⟩, hf, hg, hx, hw⟩ := D3.out
    have x0 : w3.cell? ⟨w.heap.size, 0, none⟩ = some (.int .i64 0) := hc 0
    have x1 : w3.cell? ⟨w.heap.size, 1, none⟩ = some (.string ByteArray.empty) := hc 1
    have x2 : w3.cell? ⟨w.heap.size, 2, none⟩ = some (.int .i64 0) := hc 2
    have x3 : w3.cell? ⟨w.heap.size, 3, none⟩ = some (.string ByteArray.empty) := hc 3
    have x4 : w3.cell? ⟨w.heap.size, 4, none⟩ = some (.int .i64 0) := hc 4
    have Hg := Lib.hid hg
    clear hc hg
    go_wp2_with fail
    refine bodyPost_ret (v := stmV ⟨3, [], 0, p, j⟩) (by simp [results, Try.results131, go_sem, stmV, mk_nil, mk_x, *]) rfl ⟨_, rfl, okS_set Hvp.out (by omega) (by omega), by simp <;> omega, by simp <;> omega, q + 1 + 1 + 1, by omega, ?_, ?_⟩
    · repeat (refine Rd.set ?_ (by dsimp only; omega) _)
      exact hr3
    · repeat (refine gb_set ?_ (by dsimp only; omega) _)
      exact Hg.out
  · go_wp2_with fail
    refine (reader_of R (q + 1) _ [[120], [121], [97], [98], [120]] _ (hr1.alloc _) (reads_lit w1 [[120], [121], [97], [98], [120]] 9 (by decide)) (by decide) (by decide) (by omega)).mono ?_
    rintro e w2 ⟨p, hp, rfl, hr2, hg2⟩
    have hp1 := mem_len 1 (by decide) hp
    have Hvp := Lib.hid (mem_vp (by decide) hp)
    have D2 := Lib.hid ((D1.out.alloc _).step hg2)
    clear hg2 hp
    obtain ⟨⟨hl, hc⟩, hf, hg, hx, hw⟩ := D2.out
    have x0 : w2.cell? ⟨w.heap.size, 0, none⟩ = some (.int .i64 0) := hc 0
    have x1 : w2.cell? ⟨w.heap.size, 1, none⟩ = some (.string ByteArray.empty) := hc 1
    have x2 : w2.cell? ⟨w.heap.size, 2, none⟩ = some (.int .i64 0) := hc 2
    have x3 : w2.cell? ⟨w.heap.size, 3, none⟩ = some (.string ByteArray.empty) := hc 3
    have x4 : w2.cell? ⟨w.heap.size, 4, none⟩ = some (.int .i64 0) := hc 4
    have Hg := Lib.hid hg
    clear hc hg
    go_wp2_with fail
    refine bodyPost_ret (v := stmV ⟨4, [], 0, p, 0⟩) (by simp [results, Try.results131, go_sem, stmV, mk_nil, mk_x, *]) rfl ⟨_, rfl, okS_print Hvp.out, by simp <;> omega, by simp <;> omega, q + 1 + 1, by omega, ?_, ?_⟩
    · repeat (refine Rd.set ?_ (by dsimp only; omega) _)
      exact hr2
    · repeat (refine gb_set ?_ (by dsimp only; omega) _)
      exact Hg.out
  · go_wp2_with fail
    refine (reader_pick R (q + 1) _ _ hr1 (by omega) (by omega)).mono ?_
    rintro e w2 ⟨j, rfl, hj0, hj, hr2, hg2⟩
    have D2 := Lib.hid (D1.out.step hg2)
    clear hg2
    by_cases hj1 : j = 0
    · subst hj1
      obtain ⟨⟨hl, hc⟩, hf, hg, hx, hw⟩ := D2.out
      have x0 : w2.cell? ⟨w.heap.size, 0, none⟩ = some (.int .i64 0) := hc 0
      have x1 : w2.cell? ⟨w.heap.size, 1, none⟩ = some (.string ByteArray.empty) := hc 1
      have x2 : w2.cell? ⟨w.heap.size, 2, none⟩ = some (.int .i64 0) := hc 2
      have x3 : w2.cell? ⟨w.heap.size, 3, none⟩ = some (.string ByteArray.empty) := hc 3
      have x4 : w2.cell? ⟨w.heap.size, 4, none⟩ = some (.int .i64 0) := hc 4
      have Hg := Lib.hid hg
      clear hc hg
      go_wp2_with fail
      refine bodyPost_ret (v := stmV ⟨5, [], 0, [], 0⟩) (by simp [results, Try.results131, go_sem, stmV, mk_nil, mk_x, *]) rfl ⟨_, rfl, okS_fail, by simp <;> omega, by simp <;> omega, q + 1 + 1, by omega, ?_, ?_⟩
      · repeat (refine Rd.set ?_ (by dsimp only; omega) _)
        exact hr2
      · repeat (refine gb_set ?_ (by dsimp only; omega) _)
        exact Hg.out
    · have hjb : (j == 0) = false := by simpa using hj1
      go_wp2_with fail
      refine (reader_pick R (q + 1 + 1) _ _ hr2 (by omega) (by omega)).mono ?_
      rintro e w3 ⟨i, rfl, hi0, hi, hr3, hg3⟩
      have D3 := Lib.hid (D2.out.step hg3)
      clear hg3
      obtain ⟨⟨hl, hc⟩, hf, hg, hx, hw⟩ := D3.out
      have x0 : w3.cell? ⟨w.heap.size, 0, none⟩ = some (.int .i64 0) := hc 0
      have x1 : w3.cell? ⟨w.heap.size, 1, none⟩ = some (.string ByteArray.empty) := hc 1
      have x2 : w3.cell? ⟨w.heap.size, 2, none⟩ = some (.int .i64 0) := hc 2
      have x3 : w3.cell? ⟨w.heap.size, 3, none⟩ = some (.string ByteArray.empty) := hc 3
      have x4 : w3.cell? ⟨w.heap.size, 4, none⟩ = some (.int .i64 0) := hc 4
      have Hg := Lib.hid hg
      clear hc hg
      go_wp2_with fail
      refine bodyPost_ret (v := stmV ⟨3, [], 0, [120], i⟩) (by simp [results, Try.results131, go_sem, stmV, mk_nil, mk_x, *]) rfl ⟨_, rfl, okS_set (by decide) (by omega) (by omega), by simp <;> omega, by simp <;> omega, q + 1 + 1 + 1, by omega, ?_, ?_⟩
      · repeat (refine Rd.set ?_ (by dsimp only; omega) _)
        exact hr3
      · repeat (refine gb_set ?_ (by dsimp only; omega) _)
        exact Hg.out
theorem spec_someStmt (R q : Nat) (w : World) (hr : Rd w R q) (hq : q ≤ 800000) :
    Calls Try.prog 131 #[.pointer (some ⟨R, 0, none⟩)] w (DrawStm R q w) :=
  (spec_someStmtK R q w hr hq).mono fun _ _ ⟨s, h1, _, h2⟩ => ⟨s, h1, h2⟩
end Go.Proofs.Ytomdmkhgkaalnaa
