/- Parts, names and statements that are drawn are valid ones. -/
import Derived.Test.YtgecemngfpgcoaaDraw
import Derived.Test.YtgecemngfpgcoaaPlainT
import Derived.Test.YtgecemngfpgcoaaBoxT
import Derived.Test.YtgecemngfpgcoaaStmT
set_option linter.unusedVariables false
set_option linter.unusedSimpArgs false
namespace Go.Proofs.Ytgecemngfpgcoaa
open Go.RowKit Go.Proofs.Ytgecemngfpgcoaa.Nm

def abc : List Bs := [[97], [98], [99]]
/-- The names of so many parts and one more. -/
def nameLst : Nat → List Bs
  | 0 => abc
  | n + 1 => (nameLst n).flatMap (fun t => abc.map (fun p => t ++ 46 :: p))
theorem nameLst_vn {m : Nat} (h : m ≤ 2) {t : Bs} (ht : t ∈ nameLst m) : vn t = true := by
  have h0 : ∀ t ∈ nameLst 0, vn t = true := by decide
  have h1 : ∀ t ∈ nameLst 1, vn t = true := by decide
  have h2 : ∀ t ∈ nameLst 2, vn t = true := by decide
  have hc : m = 0 ∨ m = 1 ∨ m = 2 := by omega
  rcases hc with rfl | rfl | rfl
  · exact h0 t ht
  · exact h1 t ht
  · exact h2 t ht
theorem nameLst_next {m : Nat} {t p : Bs} (ht : t ∈ nameLst m) (hp : p ∈ abc) : t ++ 46 :: p ∈ nameLst (m + 1) :=
  List.mem_flatMap.2 ⟨t, ht, List.mem_map.2 ⟨p, hp, rfl⟩⟩
theorem abc_vp {p : Bs} (h : p ∈ abc) : vp p = true := by
  have h0 : ∀ t ∈ abc, vp t = true := by decide
  exact h0 p h
/-- What a function that draws a text of a kind comes to. -/
def DrawSK (P : Bs → Prop) (R q c n : Nat) (w : World) (e : Ending) (w' : World) : Prop :=
  ∃ p : Bs, e = .returned (.string (mk p)) ∧ P p ∧ p.length ≤ n ∧ ∃ q', q' ≤ q + c ∧ Rd w' R q' ∧ w.grownBy w' (some R)
set_option maxRecDepth 100000 in
set_option maxHeartbeats 400000 in
theorem spec_aPartK (R q : Nat) (w : World) (hr : Rd w R q) (hq : q ≤ 1000000) :
    Calls Try.prog 140 #[.pointer (some ⟨R, 0, none⟩)] w (DrawSK (fun p => p ∈ abc) R q 1 1 w) := by
  go_enter Try.func140, Try.ntmps140
  go_wp2_with fail
  refine (reader_of R q _ [[97], [98], [99], [97], [98]] _ (hr.alloc _) (reads_lit w [[97], [98], [99], [97], [98]] 9 (by decide)) (by decide) (by decide) hq).mono ?_
  rintro e w1 ⟨p, hp, rfl, hr1, hg⟩
  have Hp := Lib.hid hp
  have Hr := Lib.hid hr1
  have Hg := Lib.hid hg
  clear hp hr1 hg
  go_wp2_with fail
  go_ret
  have h0 : ∀ p ∈ [[97], [98], [99], [97], [98]], p ∈ abc := by decide
  exact ⟨p, rfl, h0 p Hp.out, mem_len 1 (by decide) Hp.out, q + 1, Nat.le_refl _, Hr.out, gb_trans (World.grownBy_alloc w _ _) Hg.out⟩
set_option maxRecDepth 100000 in
set_option maxHeartbeats 400000 in
theorem spec_aNameK (R q : Nat) (w : World) (hr : Rd w R q) (hq : q ≤ 900000) :
    Calls Try.prog 132 #[.pointer (some ⟨R, 0, none⟩)] w (DrawSK (fun p => vn p = true) R q 4 5 w) := by
  go_enter Try.func132, Try.ntmps132
  go_wp2_with fail
  refine (spec_aPartK R q _ hr (by omega)).mono ?_
  rintro e w1 ⟨p, rfl, hpm, hp, q1, hq1, hr1, hg1⟩
  go_wp2_with fail
  have hlt := hr1.lt
  refine (reader_one R q1 w1.heap.size 3 [0, 1, 0, 1, 2] _ (hr1.alloc _) (heap_new w1 _ _) (by omega) (by decide) (by decide) (by omega)).mono ?_
  rintro e w2 ⟨n, hn, rfl, hr2, hg2⟩
  have hn' := mem_int 0 2 (by decide) hn
  have Hg := Lib.hid (gb_trans hg1 (gb_trans (World.grownBy_alloc w1 _ _) hg2))
  have Hpm := Lib.hid hpm
  clear hn hg2 hg1 hpm
  go_wp2_with fail
  go_loopw [3, 4] (fun tv nv wr => ∃ (t : Bs) (m : Nat) (k : Int) (q2 : Nat), tv = .string (mk t) ∧ nv = .int .i64 k ∧ 0 ≤ k ∧ (m : Int) + k ≤ 2 ∧ t ∈ nameLst m ∧ (t.length : Int) + 2 * k ≤ 5 ∧ (q2 : Int) + k ≤ q + 4 ∧ Rd wr R q2 ∧ w.grownBy wr (some R)) (fun _ nv _ => (intOf nv).toNat)
  case atStart => exact ⟨p, 0, n, q1 + 1, rfl, rfl, by omega, by omega, Hpm.out, by omega, by omega, hr2, Hg.out⟩
  case round =>
    obtain ⟨t, m, k, q2, rfl, rfl, hk0, hk2, htm, ht, hq2, hr3, hg3⟩ := hrel
    have Hg3 := Lib.hid hg3
    have Htm := Lib.hid htm
    clear hg3 htm
    by_cases hk : 0 < k
    · go_wp2_with fail
      refine (spec_aPartK R q2 _ hr3 (by omega)).mono ?_
      rintro e w4 ⟨p4, rfl, hpm4, hp4, q4, hq4, hr4, hg4⟩
      have Hg4 := Lib.hid (gb_trans Hg3.out hg4)
      have Ht4 := Lib.hid (nameLst_next Htm.out hpm4)
      clear hg4 hpm4
      go_wp2_with fail
      go_roundw
      case rel => exact ⟨t ++ 46 :: p4, m + 1, k - 1, q4, by simp, rfl, by omega, by omega, Ht4.out, by simp; omega, by omega, hr4, Hg4.out⟩
      case measure => simp [intOf]; omega
    · go_wp2_with fail
      go_ret
      exact ⟨t, rfl, nameLst_vn (by omega) Htm.out, by omega, q2, by omega, hr3, Hg3.out⟩

theorem vn_ne {p : Bs} (h : vn p = true) : p.isEmpty = false := by
  cases p with
  | nil => rw [vn_nil] at h; cases h
  | cons a l => rfl
theorem vpk_of {p : Bs} (h : vn p = true) : vpk p = true := by unfold vpk; rw [h]; simp
theorem okS_imp {p : Bs} (h : vn p = true) : okStm ⟨0, p, 0, [], 0⟩ = true := by simp [okStm, h]
theorem okS_star {p : Bs} (h : vn p = true) : okStm ⟨2, p, 0, [], 0⟩ = true := by simp [okStm, h]
theorem okS_from {p n : Bs} {lv : Int} (h : vn p = true) (hn : n ∈ abc) (h0 : 0 ≤ lv) (h2 : lv ≤ 2) : okStm ⟨1, p, lv, n, 0⟩ = true := by
  simp [okStm, okSrc, inr, vpk_of h, vn_ne h, abc_vp hn]; omega
theorem okS_up {n : Bs} {lv : Int} (hn : n ∈ abc) (h0 : 0 < lv) (h2 : lv ≤ 2) : okStm ⟨1, [], lv, n, 0⟩ = true := by
  simp [okStm, okSrc, inr, vpk_nil, abc_vp hn]; omega
theorem okS_set {n : Bs} {v : Int} (hn : vp n = true) (h0 : 0 ≤ v) (h2 : v < 100) : okStm ⟨3, [], 0, n, v⟩ = true := by
  simp [okStm, inr, hn]; omega
theorem okS_print {n : Bs} (hn : vp n = true) : okStm ⟨4, [], 0, n, 0⟩ = true := by simp [okStm, hn]
theorem okS_fail : okStm ⟨5, [], 0, [], 0⟩ = true := by decide
theorem mem_vp {l : List Bs} (h : ∀ p ∈ l, vp p = true) {p : Bs} (hp : p ∈ l) : vp p = true := h p hp
/-- The places of the files that are drawn. -/
theorem okF_name {rt st : Int} {p : Bs} {ss : List Stm} (hr : 0 ≤ rt ∧ rt ≤ 2) (hs : 0 ≤ st ∧ st < 100) (hb : okBody ss = true) (hp : p ∈ abc) : okFil ⟨rt, [], p, false, st, ss⟩ = true := by
  have h : ∀ p ∈ abc, (vp p && vn (child [] p)) = true := by decide
  have h1 := h p hp
  simp [okFil, inr, vpk_nil, hb] at h1 ⊢
  exact ⟨⟨⟨by omega, by omega⟩, by omega, by omega⟩, h1⟩
theorem okF_in {rt st : Int} {p n : Bs} {ss : List Stm} (hr : 0 ≤ rt ∧ rt ≤ 2) (hs : 0 ≤ st ∧ st < 100) (hb : okBody ss = true) (hp : p ∈ abc) (hn : n ∈ abc) : okFil ⟨rt, p, n, false, st, ss⟩ = true := by
  have h : ∀ p ∈ abc, ∀ n ∈ abc, (vpk p && (vp n && vn (child p n))) = true := by decide
  have h1 := h p hp n hn
  simp [okFil, inr, hb] at h1 ⊢
  exact ⟨⟨⟨⟨by omega, by omega⟩, by omega, by omega⟩, h1.1⟩, h1.2⟩
theorem okF_init {rt st : Int} {p : Bs} {ss : List Stm} (hr : 0 ≤ rt ∧ rt ≤ 2) (hs : 0 ≤ st ∧ st < 100) (hb : okBody ss = true) (hp : p ∈ abc) : okFil ⟨rt, p, [], true, st, ss⟩ = true := by
  have h : ∀ p ∈ abc, (vpk p && !p.isEmpty) = true := by decide
  have h1 := h p hp
  simp [okFil, inr, hb] at h1 ⊢
  exact ⟨⟨⟨⟨by omega, by omega⟩, by omega, by omega⟩, h1.1⟩, h1.2⟩
theorem okF_init2 {rt st : Int} {p q : Bs} {ss : List Stm} (hr : 0 ≤ rt ∧ rt ≤ 2) (hs : 0 ≤ st ∧ st < 100) (hb : okBody ss = true) (hp : p ∈ abc) (hq : q ∈ abc) : okFil ⟨rt, p ++ 46 :: q, [], true, st, ss⟩ = true := by
  have h : ∀ p ∈ abc, ∀ q ∈ abc, vpk (p ++ 46 :: q) = true := by decide
  have h1 := h p hp q hq
  simp [okFil, inr, hb, h1]
  omega
theorem okF_in2 {rt st : Int} {p q n : Bs} {ss : List Stm} (hr : 0 ≤ rt ∧ rt ≤ 2) (hs : 0 ≤ st ∧ st < 100) (hb : okBody ss = true) (hp : p ∈ abc) (hq : q ∈ abc) (hn : n ∈ abc) : okFil ⟨rt, p ++ 46 :: q, n, false, st, ss⟩ = true := by
  have h : ∀ p ∈ abc, ∀ q ∈ abc, ∀ n ∈ abc, (vpk (p ++ 46 :: q) && (vp n && vn (child (p ++ 46 :: q) n))) = true := by decide
  have h1 := h p hp q hq n hn
  simp [okFil, inr, hb] at h1 ⊢
  exact ⟨⟨⟨⟨by omega, by omega⟩, by omega, by omega⟩, h1.1⟩, h1.2⟩

/-! ### The functions that draw statements and bodies: whatever the code, they answer short ones, in memory of their own. Written by mkdraw.py. -/
theorem own_hasD {w : World} {B e s g cap n : Nat} {xs : List Value} (h : w.ownsRow B e s (.slice (some ⟨g, 0, none⟩) n cap) n xs) (j : Nat) (hj : j < n * s) : ∃ u, w.cell? ⟨g, j, none⟩ = some u := by
  rw [h.cellAt j hj]
  exact ⟨_, List.getElem?_eq_getElem (by rw [h.1]; exact hj)⟩
theorem stm_oneD (ss : List Stm) : ∀ u ∈ ss.flatMap stmCells, u.oneCell' = true := fun u hu => by
  obtain ⟨s, _, h⟩ := List.mem_flatMap.1 hu
  simp only [stmCells, List.mem_cons, List.not_mem_nil, or_false] at h
  rcases h with rfl | rfl | rfl | rfl | rfl <;> rfl
theorem new_cellsD (w : World) (cs : Array Value) (T : TypeId) (b : Nat) (hb : b = w.heap.size) : ∀ (j : Nat) (u : Value), cs.toList[j]? = some u → (w.alloc (.cells cs T)).cell? ((⟨b, 0, none⟩ : Addr).add j) = some u := by
  subst hb
  intro j u hu
  have e : (w.alloc (.cells cs T)).heap[w.heap.size]? = some (.cells cs T (0, 0)) := by
    show (w.heap.push (Obj.cells cs T (0, 0)))[w.heap.size]? = _
    simp
  have ha : (⟨w.heap.size, 0, none⟩ : Addr).add j = ⟨w.heap.size, j, none⟩ := by unfold Addr.add; split <;> simp_all
  rw [ha]
  simp only [World.cell?, e]
  simpa using hu
theorem owns_set_otherD {w : World} {B e size n : Nat} {v : Value} {xs : List Value} (h : w.ownsRow B e size v n xs) {p : Addr} (hp : ∀ b, v.ownBlock = some b → b ≠ p.block) (u : Value) : (w.setCell p u).ownsRow B e size v n xs :=
  owns_heap h (fun b hb => Below.heap_setCell w p u b (hp b hb))
theorem mk_x : (⟨#[120]⟩ : ByteArray) = mk [120] := rfl
theorem mk_y : (⟨#[121]⟩ : ByteArray) = mk [121] := rfl
theorem Rd.set {w : World} {R q : Nat} (h : Rd w R q) {p : Addr} (hp : R < p.block) (u : Value) : Rd (w.setCell p u) R q := h.keep (fun k hk => Below.heap_setCell w p u k (by omega))
theorem gb_set {w a : World} {R : Nat} (h : w.grownBy a (some R)) {p : Addr} (hp : w.heap.size ≤ p.block) (u : Value) : w.grownBy (a.setCell p u) (some R) :=
  ⟨h.os, h.tape, h.output, by simpa using h.size, fun i hi hr => (Below.heap_setCell a p u i (by omega)).trans (h.block i hi hr)⟩
/-- A call that draws has a box of its own, at X, and has changed nothing else than the reader. -/
def Dst (w : World) (R X : Nat) (cs : Array Value) (w1 : World) : Prop := BoxC w1 X cs ∧ (∀ j, w1.frozen? ⟨X, j, none⟩ = false) ∧ w.grownBy w1 (some R) ∧ R < X ∧ w.heap.size ≤ X
theorem Dst.start {w : World} {R : Nat} (hR : R < w.heap.size) (cs : Array Value) (T : TypeId) : Dst w R w.heap.size cs (w.alloc (.cells cs T)) :=
  ⟨BoxC.start w cs T, fun j => by simp [go_sem], World.grownBy_alloc w _ _, hR, Nat.le_refl _⟩
theorem Dst.step {w w1 w2 : World} {R X : Nat} {cs : Array Value} (h : Dst w R X cs w1) (hg : w1.grownBy w2 (some R)) : Dst w R X cs w2 := by
  obtain ⟨⟨b1, b2⟩, f, g, hx, hw⟩ := h
  have hb := hg.block X b1 (fun e => by have := Option.some.inj e; omega)
  refine ⟨⟨Nat.lt_of_lt_of_le b1 hg.size, fun i => ?_⟩, fun j => ?_, gb_trans g hg, hx, hw⟩
  · rw [World.cell?_of_block (w := w1) hb]; exact b2 i
  · rw [show w2.frozen? ⟨X, j, none⟩ = w1.frozen? ⟨X, j, none⟩ by simp only [World.frozen?, hb]]; exact f j
theorem Dst.alloc {w w1 : World} {R X : Nat} {cs : Array Value} (h : Dst w R X cs w1) (o : Obj) : Dst w R X cs (w1.alloc o) := h.step (gb_below (ba (Below.refl _ _) o) _)

/-- What a function that draws a statement comes to. -/
def DrawStm (R q : Nat) (w : World) (e : Ending) (w' : World) : Prop :=
  ∃ s : Stm, e = .returned (stmV s) ∧ s.module.length ≤ 8 ∧ s.name.length ≤ 8 ∧ ∃ q', q' ≤ q + 10 ∧ Rd w' R q' ∧ w.grownBy w' (some R)
/-- .. and the statement is a valid one. -/
def DrawStmK (R q : Nat) (w : World) (e : Ending) (w' : World) : Prop :=
  ∃ s : Stm, e = .returned (stmV s) ∧ okStm s = true ∧ s.module.length ≤ 8 ∧ s.name.length ≤ 8 ∧ ∃ q', q' ≤ q + 10 ∧ Rd w' R q' ∧ w.grownBy w' (some R)
set_option maxRecDepth 100000 in
set_option maxHeartbeats 2000000 in
theorem spec_someStmtK (R q : Nat) (w : World) (hr : Rd w R q) (hq : q ≤ 800000) :
    Calls Try.prog 152 #[.pointer (some ⟨R, 0, none⟩)] w (DrawStmK R q w) := by
  have hR := hr.lt
  go_enter Try.func152, Try.ntmps152
  go_wp2_with fail
  have d0 := Dst.start hR #[.int .i64 0, .string ByteArray.empty, .int .i64 0, .string ByteArray.empty, .int .i64 0] 138
  refine (reader_pick R q _ _ (hr.alloc _) (by omega) (by omega)).mono ?_
  rintro e w1 ⟨j, rfl, hj0, hj, hr1, hg1⟩
  have D1 := Lib.hid (d0.step hg1)
  clear d0 hg1
  have hcase : j = 0 ∨ j = 1 ∨ j = 2 ∨ j = 3 ∨ j = 4 ∨ j = 5 ∨ j = 6 ∨ j = 7 ∨ j = 8 := by omega
  rcases hcase with rfl | rfl | rfl | rfl | rfl | rfl | rfl | rfl | rfl
  · skip
    go_wp2_with fail
    refine (spec_aNameK R (q + 1) _ hr1 (by omega)).mono ?_
    rintro e w2 ⟨p, rfl, hvp, hp, q2, hq2, hr2, hg2⟩
    have D2 := Lib.hid (D1.out.step hg2)
    have Hvp := Lib.hid hvp
    clear hg2 hvp
    obtain ⟨⟨hl, hc⟩, hf, hg, hx, hw⟩ := D2.out
    have x0 : w2.cell? ⟨w.heap.size, 0, none⟩ = some (.int .i64 0) := hc 0
    have x1 : w2.cell? ⟨w.heap.size, 1, none⟩ = some (.string ByteArray.empty) := hc 1
    have x2 : w2.cell? ⟨w.heap.size, 2, none⟩ = some (.int .i64 0) := hc 2
    have x3 : w2.cell? ⟨w.heap.size, 3, none⟩ = some (.string ByteArray.empty) := hc 3
    have x4 : w2.cell? ⟨w.heap.size, 4, none⟩ = some (.int .i64 0) := hc 4
    have Hg := Lib.hid hg
    clear hc hg
    go_wp2_with fail
    refine bodyPost_ret (v := stmV ⟨0, p, 0, [], 0⟩) (by simp [results, Try.results152, go_sem, stmV, mk_nil, mk_x, *]) rfl ⟨_, rfl, okS_imp Hvp.out, by simp <;> omega, by simp <;> omega, q2, by omega, ?_, ?_⟩
    · repeat (refine Rd.set ?_ (by dsimp only; omega) _)
      exact hr2
    · repeat (refine gb_set ?_ (by dsimp only; omega) _)
      exact Hg.out
  · skip
    go_wp2_with fail
    refine (spec_aNameK R (q + 1) _ hr1 (by omega)).mono ?_
    rintro e w2 ⟨p, rfl, hvp, hp, q2, hq2, hr2, hg2⟩
    have D2 := Lib.hid (D1.out.step hg2)
    have Hvp := Lib.hid hvp
    clear hg2 hvp
    obtain ⟨⟨hl, hc⟩, hf, hg, hx, hw⟩ := D2.out
    have x0 : w2.cell? ⟨w.heap.size, 0, none⟩ = some (.int .i64 0) := hc 0
    have x1 : w2.cell? ⟨w.heap.size, 1, none⟩ = some (.string ByteArray.empty) := hc 1
    have x2 : w2.cell? ⟨w.heap.size, 2, none⟩ = some (.int .i64 0) := hc 2
    have x3 : w2.cell? ⟨w.heap.size, 3, none⟩ = some (.string ByteArray.empty) := hc 3
    have x4 : w2.cell? ⟨w.heap.size, 4, none⟩ = some (.int .i64 0) := hc 4
    have Hg := Lib.hid hg
    clear hc hg
    go_wp2_with fail
    refine bodyPost_ret (v := stmV ⟨0, p, 0, [], 0⟩) (by simp [results, Try.results152, go_sem, stmV, mk_nil, mk_x, *]) rfl ⟨_, rfl, okS_imp Hvp.out, by simp <;> omega, by simp <;> omega, q2, by omega, ?_, ?_⟩
    · repeat (refine Rd.set ?_ (by dsimp only; omega) _)
      exact hr2
    · repeat (refine gb_set ?_ (by dsimp only; omega) _)
      exact Hg.out
  · go_wp2_with fail
    have hl1 := hr1.lt
    refine (reader_one R (q + 1) w1.heap.size 3 [0, 1, 2, 1] _ (hr1.alloc _) (heap_new w1 _ _) (by omega) (by decide) (by decide) (by omega)).mono ?_
    rintro e w2 ⟨lv, hlv, rfl, hr2, hg2⟩
    have hlv' := mem_int 0 2 (by decide) hlv
    have D2 := Lib.hid ((D1.out.alloc _).step hg2)
    clear hg2 hlv
    go_wp2_with fail
    refine (spec_aNameK R (q + 1 + 1) _ hr2 (by omega)).mono ?_
    rintro e w3 ⟨p, rfl, hvp, hp, q3, hq3, hr3, hg3⟩
    have D3 := Lib.hid (D2.out.step hg3)
    have Hvp := Lib.hid hvp
    clear hg3 hvp
    by_cases hlv0 : 0 < lv
    · go_wp2_with fail
      refine (reader_pick R q3 _ _ hr3 (by omega) (by omega)).mono ?_
      rintro e w4 ⟨j, rfl, hj0, hj, hr4, hg4⟩
      have D4 := Lib.hid (D3.out.step hg4)
      clear hg4
      by_cases hj1 : j = 0
      · subst hj1
        go_wp2_with fail
        refine (spec_aPartK R (q3 + 1) _ hr4 (by omega)).mono ?_
        rintro e w5 ⟨p5, rfl, hvp5, hp5, q5, hq5, hr5, hg5⟩
        have D5 := Lib.hid (D4.out.step hg5)
        have Hvp5 := Lib.hid hvp5
        clear hg5 hvp5
        obtain ⟨⟨hl, hc⟩, hf, hg, hx, hw⟩ := D5.out
        have x0 : w5.cell? ⟨w.heap.size, 0, none⟩ = some (.int .i64 0) := hc 0
        have x1 : w5.cell? ⟨w.heap.size, 1, none⟩ = some (.string ByteArray.empty) := hc 1
        have x2 : w5.cell? ⟨w.heap.size, 2, none⟩ = some (.int .i64 0) := hc 2
        have x3 : w5.cell? ⟨w.heap.size, 3, none⟩ = some (.string ByteArray.empty) := hc 3
        have x4 : w5.cell? ⟨w.heap.size, 4, none⟩ = some (.int .i64 0) := hc 4
        have Hg := Lib.hid hg
        clear hc hg
        go_wp2_with fail
        refine bodyPost_ret (v := stmV ⟨1, [], lv, p5, 0⟩) (by simp [results, Try.results152, go_sem, stmV, mk_nil, mk_x, *]) rfl ⟨_, rfl, okS_up Hvp5.out (by omega) (by omega), by simp <;> omega, by simp <;> omega, q5, by omega, ?_, ?_⟩
        · repeat (refine Rd.set ?_ (by dsimp only; omega) _)
          exact hr5
        · repeat (refine gb_set ?_ (by dsimp only; omega) _)
          exact Hg.out
      · have hjb : (j == 0) = false := by simpa using hj1
        go_wp2_with fail
        refine (spec_aPartK R (q3 + 1) _ hr4 (by omega)).mono ?_
        rintro e w5 ⟨p5, rfl, hvp5, hp5, q5, hq5, hr5, hg5⟩
        have D5 := Lib.hid (D4.out.step hg5)
        have Hvp5 := Lib.hid hvp5
        clear hg5 hvp5
        obtain ⟨⟨hl, hc⟩, hf, hg, hx, hw⟩ := D5.out
        have x0 : w5.cell? ⟨w.heap.size, 0, none⟩ = some (.int .i64 0) := hc 0
        have x1 : w5.cell? ⟨w.heap.size, 1, none⟩ = some (.string ByteArray.empty) := hc 1
        have x2 : w5.cell? ⟨w.heap.size, 2, none⟩ = some (.int .i64 0) := hc 2
        have x3 : w5.cell? ⟨w.heap.size, 3, none⟩ = some (.string ByteArray.empty) := hc 3
        have x4 : w5.cell? ⟨w.heap.size, 4, none⟩ = some (.int .i64 0) := hc 4
        have Hg := Lib.hid hg
        clear hc hg
        go_wp2_with fail
        refine bodyPost_ret (v := stmV ⟨1, p, lv, p5, 0⟩) (by simp [results, Try.results152, go_sem, stmV, mk_nil, mk_x, *]) rfl ⟨_, rfl, okS_from Hvp.out Hvp5.out (by omega) (by omega), by simp <;> omega, by simp <;> omega, q5, by omega, ?_, ?_⟩
        · repeat (refine Rd.set ?_ (by dsimp only; omega) _)
          exact hr5
        · repeat (refine gb_set ?_ (by dsimp only; omega) _)
          exact Hg.out
    · skip
      go_wp2_with fail
      refine (spec_aPartK R q3 _ hr3 (by omega)).mono ?_
      rintro e w5 ⟨p5, rfl, hvp5, hp5, q5, hq5, hr5, hg5⟩
      have D5 := Lib.hid (D3.out.step hg5)
      have Hvp5 := Lib.hid hvp5
      clear hg5 hvp5
      obtain ⟨⟨hl, hc⟩, hf, hg, hx, hw⟩ := D5.out
      have x0 : w5.cell? ⟨w.heap.size, 0, none⟩ = some (.int .i64 0) := hc 0
      have x1 : w5.cell? ⟨w.heap.size, 1, none⟩ = some (.string ByteArray.empty) := hc 1
      have x2 : w5.cell? ⟨w.heap.size, 2, none⟩ = some (.int .i64 0) := hc 2
      have x3 : w5.cell? ⟨w.heap.size, 3, none⟩ = some (.string ByteArray.empty) := hc 3
      have x4 : w5.cell? ⟨w.heap.size, 4, none⟩ = some (.int .i64 0) := hc 4
      have Hg := Lib.hid hg
      clear hc hg
      go_wp2_with fail
      refine bodyPost_ret (v := stmV ⟨1, p, lv, p5, 0⟩) (by simp [results, Try.results152, go_sem, stmV, mk_nil, mk_x, *]) rfl ⟨_, rfl, okS_from Hvp.out Hvp5.out (by omega) (by omega), by simp <;> omega, by simp <;> omega, q5, by omega, ?_, ?_⟩
      · repeat (refine Rd.set ?_ (by dsimp only; omega) _)
        exact hr5
      · repeat (refine gb_set ?_ (by dsimp only; omega) _)
        exact Hg.out
  · skip
    go_wp2_with fail
    refine (spec_aNameK R (q + 1) _ hr1 (by omega)).mono ?_
    rintro e w2 ⟨p, rfl, hvp, hp, q2, hq2, hr2, hg2⟩
    have D2 := Lib.hid (D1.out.step hg2)
    have Hvp := Lib.hid hvp
    clear hg2 hvp
    obtain ⟨⟨hl, hc⟩, hf, hg, hx, hw⟩ := D2.out
    have x0 : w2.cell? ⟨w.heap.size, 0, none⟩ = some (.int .i64 0) := hc 0
    have x1 : w2.cell? ⟨w.heap.size, 1, none⟩ = some (.string ByteArray.empty) := hc 1
    have x2 : w2.cell? ⟨w.heap.size, 2, none⟩ = some (.int .i64 0) := hc 2
    have x3 : w2.cell? ⟨w.heap.size, 3, none⟩ = some (.string ByteArray.empty) := hc 3
    have x4 : w2.cell? ⟨w.heap.size, 4, none⟩ = some (.int .i64 0) := hc 4
    have Hg := Lib.hid hg
    clear hc hg
    go_wp2_with fail
    refine bodyPost_ret (v := stmV ⟨2, p, 0, [], 0⟩) (by simp [results, Try.results152, go_sem, stmV, mk_nil, mk_x, *]) rfl ⟨_, rfl, okS_star Hvp.out, by simp <;> omega, by simp <;> omega, q2, by omega, ?_, ?_⟩
    · repeat (refine Rd.set ?_ (by dsimp only; omega) _)
      exact hr2
    · repeat (refine gb_set ?_ (by dsimp only; omega) _)
      exact Hg.out
  · go_wp2_with fail
    refine (reader_of R (q + 1) _ [[120], [121], [122], [97]] _ (hr1.alloc _) (reads_lit w1 [[120], [121], [122], [97]] 9 (by decide)) (by decide) (by decide) (by omega)).mono ?_
    rintro e w2 ⟨p, hp, rfl, hr2, hg2⟩
    have hp1 := mem_len 1 (by decide) hp
    have Hvp := Lib.hid (mem_vp (by decide) hp)
    have D2 := Lib.hid ((D1.out.alloc _).step hg2)
    clear hg2 hp
    go_wp2_with fail
    refine (reader_pick R (q + 1 + 1) _ _ hr2 (by omega) (by omega)).mono ?_
    rintro e w3 ⟨j, rfl, hj0, hj, hr3, hg3⟩
    have D3 := Lib.hid (D2.out.step hg3)
    clear hg3
    obtain ⟨⟨hl, hc⟩, hf, hg, hx, hw⟩ := D3.out
    have x0 : w3.cell? ⟨w.heap.size, 0, none⟩ = some (.int .i64 0) := hc 0
    have x1 : w3.cell? ⟨w.heap.size, 1, none⟩ = some (.string ByteArray.empty) := hc 1
    have x2 : w3.cell? ⟨w.heap.size, 2, none⟩ = some (.int .i64 0) := hc 2
    have x3 : w3.cell? ⟨w.heap.size, 3, none⟩ = some (.string ByteArray.empty) := hc 3
    have x4 : w3.cell? ⟨w.heap.size, 4, none⟩ = some (.int .i64 0) := hc 4
    have Hg := Lib.hid hg
    clear hc hg
    go_wp2_with fail
    refine bodyPost_ret (v := stmV ⟨3, [], 0, p, j⟩) (by simp [results, Try.results152, go_sem, stmV, mk_nil, mk_x, *]) rfl ⟨_, rfl, okS_set Hvp.out (by omega) (by omega), by simp <;> omega, by simp <;> omega, q + 1 + 1 + 1, by omega, ?_, ?_⟩
    · repeat (refine Rd.set ?_ (by dsimp only; omega) _)
      exact hr3
    · repeat (refine gb_set ?_ (by dsimp only; omega) _)
      exact Hg.out
  · go_wp2_with fail
    refine (reader_of R (q + 1) _ [[120], [121], [122], [97]] _ (hr1.alloc _) (reads_lit w1 [[120], [121], [122], [97]] 9 (by decide)) (by decide) (by decide) (by omega)).mono ?_
    rintro e w2 ⟨p, hp, rfl, hr2, hg2⟩
    have hp1 := mem_len 1 (by decide) hp
    have Hvp := Lib.hid (mem_vp (by decide) hp)
    have D2 := Lib.hid ((D1.out.alloc _).step hg2)
    clear hg2 hp
    go_wp2_with fail
    refine (reader_pick R (q + 1 + 1) _ _ hr2 (by omega) (by omega)).mono ?_
    rintro e w3 ⟨j, rfl, hj0, hj, hr3, hg3⟩
    have D3 := Lib.hid (D2.out.step hg3)
    clear hg3
    obtain ⟨⟨hl, hc⟩, hf, hg, hx, hw⟩ := D3.out
    have x0 : w3.cell? ⟨w.heap.size, 0, none⟩ = some (.int .i64 0) := hc 0
    have x1 : w3.cell? ⟨w.heap.size, 1, none⟩ = some (.string ByteArray.empty) := hc 1
    have x2 : w3.cell? ⟨w.heap.size, 2, none⟩ = some (.int .i64 0) := hc 2
    have x3 : w3.cell? ⟨w.heap.size, 3, none⟩ = some (.string ByteArray.empty) := hc 3
    have x4 : w3.cell? ⟨w.heap.size, 4, none⟩ = some (.int .i64 0) := hc 4
    have Hg := Lib.hid hg
    clear hc hg
    go_wp2_with fail
    refine bodyPost_ret (v := stmV ⟨3, [], 0, p, j⟩) (by simp [results, Try.results152, go_sem, stmV, mk_nil, mk_x, *]) rfl ⟨_, rfl, okS_set Hvp.out (by omega) (by omega), by simp <;> omega, by simp <;> omega, q + 1 + 1 + 1, by omega, ?_, ?_⟩
    · repeat (refine Rd.set ?_ (by dsimp only; omega) _)
      exact hr3
    · repeat (refine gb_set ?_ (by dsimp only; omega) _)
      exact Hg.out
  · go_wp2_with fail
    refine (reader_of R (q + 1) _ [[120], [121], [122], [97]] _ (hr1.alloc _) (reads_lit w1 [[120], [121], [122], [97]] 9 (by decide)) (by decide) (by decide) (by omega)).mono ?_
    rintro e w2 ⟨p, hp, rfl, hr2, hg2⟩
    have hp1 := mem_len 1 (by decide) hp
    have Hvp := Lib.hid (mem_vp (by decide) hp)
    have D2 := Lib.hid ((D1.out.alloc _).step hg2)
    clear hg2 hp
    go_wp2_with fail
    refine (reader_pick R (q + 1 + 1) _ _ hr2 (by omega) (by omega)).mono ?_
    rintro e w3 ⟨j, rfl, hj0, hj, hr3, hg3⟩
    have D3 := Lib.hid (D2.out.step hg3)
    clear hg3
    obtain ⟨⟨hl, hc⟩, hf, hg, hx, hw⟩ := D3.out
    have x0 : w3.cell? ⟨w.heap.size, 0, none⟩ = some (.int .i64 0) := hc 0
    have x1 : w3.cell? ⟨w.heap.size, 1, none⟩ = some (.string ByteArray.empty) := hc 1
    have x2 : w3.cell? ⟨w.heap.size, 2, none⟩ = some (.int .i64 0) := hc 2
    have x3 : w3.cell? ⟨w.heap.size, 3, none⟩ = some (.string ByteArray.empty) := hc 3
    have x4 : w3.cell? ⟨w.heap.size, 4, none⟩ = some (.int .i64 0) := hc 4
    have Hg := Lib.hid hg
    clear hc hg
    go_wp2_with fail
    refine bodyPost_ret (v := stmV ⟨3, [], 0, p, j⟩) (by simp [results, Try.results152, go_sem, stmV, mk_nil, mk_x, *]) rfl ⟨_, rfl, okS_set Hvp.out (by omega) (by omega), by simp <;> omega, by simp <;> omega, q + 1 + 1 + 1, by omega, ?_, ?_⟩
    · repeat (refine Rd.set ?_ (by dsimp only; omega) _)
      exact hr3
    · repeat (refine gb_set ?_ (by dsimp only; omega) _)
      exact Hg.out
  · go_wp2_with fail
    refine (reader_of R (q + 1) _ [[120], [121], [97], [98], [120]] _ (hr1.alloc _) (reads_lit w1 [[120], [121], [97], [98], [120]] 9 (by decide)) (by decide) (by decide) (by omega)).mono ?_
    rintro e w2 ⟨p, hp, rfl, hr2, hg2⟩
    have hp1 := mem_len 1 (by decide) hp
    have Hvp := Lib.hid (mem_vp (by decide) hp)
    have D2 := Lib.hid ((D1.out.alloc _).step hg2)
    clear hg2 hp
    obtain ⟨⟨hl, hc⟩, hf, hg, hx, hw⟩ := D2.out
    have x0 : w2.cell? ⟨w.heap.size, 0, none⟩ = some (.int .i64 0) := hc 0
    have x1 : w2.cell? ⟨w.heap.size, 1, none⟩ = some (.string ByteArray.empty) := hc 1
    have x2 : w2.cell? ⟨w.heap.size, 2, none⟩ = some (.int .i64 0) := hc 2
    have x3 : w2.cell? ⟨w.heap.size, 3, none⟩ = some (.string ByteArray.empty) := hc 3
    have x4 : w2.cell? ⟨w.heap.size, 4, none⟩ = some (.int .i64 0) := hc 4
    have Hg := Lib.hid hg
    clear hc hg
    go_wp2_with fail
    refine bodyPost_ret (v := stmV ⟨4, [], 0, p, 0⟩) (by simp [results, Try.results152, go_sem, stmV, mk_nil, mk_x, *]) rfl ⟨_, rfl, okS_print Hvp.out, by simp <;> omega, by simp <;> omega, q + 1 + 1, by omega, ?_, ?_⟩
    · repeat (refine Rd.set ?_ (by dsimp only; omega) _)
      exact hr2
    · repeat (refine gb_set ?_ (by dsimp only; omega) _)
      exact Hg.out
  · go_wp2_with fail
    refine (reader_pick R (q + 1) _ _ hr1 (by omega) (by omega)).mono ?_
    rintro e w2 ⟨j, rfl, hj0, hj, hr2, hg2⟩
    have D2 := Lib.hid (D1.out.step hg2)
    clear hg2
    by_cases hj1 : j = 0
    · subst hj1
      obtain ⟨⟨hl, hc⟩, hf, hg, hx, hw⟩ := D2.out
      have x0 : w2.cell? ⟨w.heap.size, 0, none⟩ = some (.int .i64 0) := hc 0
      have x1 : w2.cell? ⟨w.heap.size, 1, none⟩ = some (.string ByteArray.empty) := hc 1
      have x2 : w2.cell? ⟨w.heap.size, 2, none⟩ = some (.int .i64 0) := hc 2
      have x3 : w2.cell? ⟨w.heap.size, 3, none⟩ = some (.string ByteArray.empty) := hc 3
      have x4 : w2.cell? ⟨w.heap.size, 4, none⟩ = some (.int .i64 0) := hc 4
      have Hg := Lib.hid hg
      clear hc hg
      go_wp2_with fail
      refine bodyPost_ret (v := stmV ⟨5, [], 0, [], 0⟩) (by simp [results, Try.results152, go_sem, stmV, mk_nil, mk_x, *]) rfl ⟨_, rfl, okS_fail, by simp <;> omega, by simp <;> omega, q + 1 + 1, by omega, ?_, ?_⟩
      · repeat (refine Rd.set ?_ (by dsimp only; omega) _)
        exact hr2
      · repeat (refine gb_set ?_ (by dsimp only; omega) _)
        exact Hg.out
    · have hjb : (j == 0) = false := by simpa using hj1
      go_wp2_with fail
      refine (reader_pick R (q + 1 + 1) _ _ hr2 (by omega) (by omega)).mono ?_
      rintro e w3 ⟨i, rfl, hi0, hi, hr3, hg3⟩
      have D3 := Lib.hid (D2.out.step hg3)
      clear hg3
      obtain ⟨⟨hl, hc⟩, hf, hg, hx, hw⟩ := D3.out
      have x0 : w3.cell? ⟨w.heap.size, 0, none⟩ = some (.int .i64 0) := hc 0
      have x1 : w3.cell? ⟨w.heap.size, 1, none⟩ = some (.string ByteArray.empty) := hc 1
      have x2 : w3.cell? ⟨w.heap.size, 2, none⟩ = some (.int .i64 0) := hc 2
      have x3 : w3.cell? ⟨w.heap.size, 3, none⟩ = some (.string ByteArray.empty) := hc 3
      have x4 : w3.cell? ⟨w.heap.size, 4, none⟩ = some (.int .i64 0) := hc 4
      have Hg := Lib.hid hg
      clear hc hg
      go_wp2_with fail
      refine bodyPost_ret (v := stmV ⟨3, [], 0, [120], i⟩) (by simp [results, Try.results152, go_sem, stmV, mk_nil, mk_x, *]) rfl ⟨_, rfl, okS_set (by decide) (by omega) (by omega), by simp <;> omega, by simp <;> omega, q + 1 + 1 + 1, by omega, ?_, ?_⟩
      · repeat (refine Rd.set ?_ (by dsimp only; omega) _)
        exact hr3
      · repeat (refine gb_set ?_ (by dsimp only; omega) _)
        exact Hg.out
theorem spec_someStmt (R q : Nat) (w : World) (hr : Rd w R q) (hq : q ≤ 800000) :
    Calls Try.prog 152 #[.pointer (some ⟨R, 0, none⟩)] w (DrawStm R q w) :=
  (spec_someStmtK R q w hr hq).mono fun _ _ ⟨s, h1, _, h2⟩ => ⟨s, h1, h2⟩
end Go.Proofs.Ytgecemngfpgcoaa
