/- The functions that draw a path: whatever the code, they answer at most three numbers, in memory of their own. -/
import Derived.Test.YtcmnldomcpjlcaaGreatDraw
import Derived.Test.YtcmnldomcpjlcaaGreatInts
set_option linter.unusedVariables false
set_option linter.unusedSimpArgs false
namespace Go.Proofs.YtcmnldomcpjlcaaGreat
open Go.RowKit Go.Proofs.YtcmnldomcpjlcaaGreat.Nm

/-- The slice v holds the numbers xs in w, from the start of a block. -/
def PathIn (w : World) (v : Value) (xs : List Int) : Prop :=
  ∃ g cap, v = .slice (some ⟨g, 0, none⟩) xs.length cap ∧ xs.length ≤ cap ∧ cap ≤ 3 ∧ g < w.heap.size ∧ ∀ (j : Nat) (u : Value), (xs.map iv)[j]? = some u → w.cell? ((⟨g, 0, none⟩ : Addr).add j) = some u
theorem add0P (g j : Nat) : (⟨g, 0, none⟩ : Addr).add j = ⟨g, j, none⟩ := by unfold Addr.add; split <;> simp_all
theorem PathIn.below {w w' : World} {v : Value} {xs : List Int} (h : PathIn w v xs) (hb : Below w.heap.size w w') : PathIn w' v xs := by
  obtain ⟨g, cap, h1, h2, h3, h4, h5⟩ := h
  refine ⟨g, cap, h1, h2, h3, Nat.lt_of_lt_of_le h4 hb.size, fun j u hu => ?_⟩
  rw [add0P, hb.cell (p := ⟨g, j, none⟩) h4, ← add0P]
  exact h5 j u hu
theorem PathIn.ints {w : World} {v : Value} {xs : List Int} (h : PathIn w v xs) : IntsIn w v xs := by
  obtain ⟨g, cap, h1, h2, h3, h4, h5⟩ := h
  refine ⟨_, cap, h1, h2, by unfold maxLen; omega, fun _ => ⟨g, 0, rfl, h4, fun k hk => ?_⟩⟩
  have := h5 k (.int .i64 xs[k]) (by rw [List.getElem?_map, List.getElem?_eq_getElem hk]; rfl)
  rw [add0P] at this
  simpa using this
theorem PathIn.new (w : World) (xs : List Int) (T : TypeId) (h : xs.length ≤ 3) : PathIn (w.alloc (.cells (xs.map iv).toArray T)) (.slice (some ⟨w.heap.size, 0, none⟩) xs.length xs.length) xs := by
  refine ⟨w.heap.size, xs.length, rfl, Nat.le_refl _, h, by rw [World.size_alloc]; omega, fun j u hu => ?_⟩
  rw [add0P]
  have e : (w.alloc (.cells (xs.map iv).toArray T)).heap[w.heap.size]? = some (.cells (xs.map iv).toArray T (0, 0)) := heap_new w _ _
  simp only [World.cell?, e]
  simpa using hu
theorem PathIn.gb {w w' : World} {g cap R : Nat} {n : Nat} {xs : List Int} (h : PathIn w (.slice (some ⟨g, 0, none⟩) n cap) xs) (hg : w.grownBy w' (some R)) (hne : g ≠ R) : PathIn w' (.slice (some ⟨g, 0, none⟩) n cap) xs := by
  obtain ⟨g', cap', h1, h2, h3, h4, h5⟩ := h
  simp only [Value.slice.injEq, Option.some.injEq, Addr.mk.injEq] at h1
  obtain ⟨⟨rfl, _⟩, rfl, rfl⟩ := h1
  refine ⟨g, cap, rfl, h2, h3, Nat.lt_of_lt_of_le h4 hg.size, fun j u hu => ?_⟩
  have hb := hg.block g h4 (fun e => hne (Option.some.inj e))
  rw [add0P, World.cell?_of_block (w := w) hb, ← add0P]
  exact h5 j u hu

theorem three_paths (w : World) (T U : TypeId) :
    let W := (((w.alloc (.cells #[] T)).alloc (.cells #[.int .i64 0, .int .i64 0] T)).alloc (.cells #[.int .i64 3] T)).alloc (.cells #[.slice (some ⟨w.heap.size, 0, none⟩) 0 0, .slice (some ⟨w.heap.size + 1, 0, none⟩) 2 2, .slice (some ⟨w.heap.size + 1 + 1, 0, none⟩) 1 1] U)
    PathIn W (.slice (some ⟨w.heap.size, 0, none⟩) 0 0) [] ∧ PathIn W (.slice (some ⟨w.heap.size + 1, 0, none⟩) 2 2) [0, 0] ∧ PathIn W (.slice (some ⟨w.heap.size + 1 + 1, 0, none⟩) 1 1) [3] ∧
      W.heap[w.heap.size + 1 + 1 + 1]? = some (.cells #[.slice (some ⟨w.heap.size, 0, none⟩) 0 0, .slice (some ⟨w.heap.size + 1, 0, none⟩) 2 2, .slice (some ⟨w.heap.size + 1 + 1, 0, none⟩) 1 1] U (0, 0)) ∧ W.heap.size = w.heap.size + 1 + 1 + 1 + 1 := by
  intro W
  have p1 := PathIn.new w [] T (by decide)
  have p2 := PathIn.new (w.alloc (.cells #[] T)) [0, 0] T (by decide)
  have p3 := PathIn.new ((w.alloc (.cells #[] T)).alloc (.cells #[.int .i64 0, .int .i64 0] T)) [3] T (by decide)
  have e4 := heap_new (((w.alloc (.cells #[] T)).alloc (.cells #[.int .i64 0, .int .i64 0] T)).alloc (.cells #[.int .i64 3] T)) #[.slice (some ⟨w.heap.size, 0, none⟩) 0 0, .slice (some ⟨w.heap.size + 1, 0, none⟩) 2 2, .slice (some ⟨w.heap.size + 1 + 1, 0, none⟩) 1 1] U
  simp only [World.size_alloc] at p2 p3 e4
  exact ⟨((p1.below (ba (Below.refl _ _) _)).below (ba (Below.refl _ _) _)).below (ba (Below.refl _ _) _), (p2.below (ba (Below.refl _ _) _)).below (ba (Below.refl _ _) _), p3.below (ba (Below.refl _ _) _), e4, by simp only [W, World.size_alloc]⟩

/-- What a function that draws a path comes to. -/
def DrawPath (R q c : Nat) (w : World) (e : Ending) (w' : World) : Prop :=
  ∃ v xs, e = .returned v ∧ PathIn w' v xs ∧ xs.length ≤ 3 ∧ ∃ q', q' ≤ q + c ∧ Rd w' R q' ∧ w.grownBy w' (some R)
set_option maxRecDepth 100000 in
set_option maxHeartbeats 400000 in
theorem spec_somePath (R q : Nat) (w : World) (hr : Rd w R q) (hq : q ≤ 800000) :
    Calls Tryz.prog 164 #[.pointer (some ⟨R, 0, none⟩)] w (DrawPath R q 1 w) := by
  have hR := hr.lt
  go_enter Tryz.func164, Tryz.ntmps164
  go_wp2_with fail
  refine (reader_pick R q _ _ hr (by omega) (by omega)).mono ?_
  rintro e w1 ⟨j, rfl, hj0, hj, hr1, hg1⟩
  have hcase : j = 0 ∨ j = 1 ∨ j = 2 ∨ j = 3 ∨ j = 4 ∨ j = 5 ∨ j = 6 ∨ j = 7 := by omega
  rcases hcase with rfl | rfl | rfl | rfl | rfl | rfl | rfl | rfl
  · go_wp2_with fail
    go_ret
    exact ⟨_, [1, 0], rfl, PathIn.new w1 [1, 0] _ (by decide), by decide, q + 1, by omega, hr1.alloc _, gb_trans hg1 (World.grownBy_alloc w1 _ _)⟩
  · go_wp2_with fail
    go_ret
    exact ⟨_, [2, 1, 0], rfl, PathIn.new w1 [2, 1, 0] _ (by decide), by decide, q + 1, by omega, hr1.alloc _, gb_trans hg1 (World.grownBy_alloc w1 _ _)⟩
  · go_wp2_with fail
    go_ret
    exact ⟨_, [0], rfl, PathIn.new w1 [0] _ (by decide), by decide, q + 1, by omega, hr1.alloc _, gb_trans hg1 (World.grownBy_alloc w1 _ _)⟩
  · go_wp2_with fail
    go_ret
    exact ⟨_, [1], rfl, PathIn.new w1 [1] _ (by decide), by decide, q + 1, by omega, hr1.alloc _, gb_trans hg1 (World.grownBy_alloc w1 _ _)⟩
  · go_wp2_with fail
    go_ret
    exact ⟨_, [0, 1], rfl, PathIn.new w1 [0, 1] _ (by decide), by decide, q + 1, by omega, hr1.alloc _, gb_trans hg1 (World.grownBy_alloc w1 _ _)⟩
  all_goals
    go_wp2_with fail
    go_ret
    exact ⟨_, [0, 1, 2], rfl, PathIn.new w1 [0, 1, 2] _ (by decide), by decide, q + 1, by omega, hr1.alloc _, gb_trans hg1 (World.grownBy_alloc w1 _ _)⟩
set_option maxRecDepth 100000 in
set_option maxHeartbeats 400000 in
theorem spec_anyPath (R q : Nat) (w : World) (hr : Rd w R q) (hq : q ≤ 700000) :
    Calls Tryz.prog 129 #[.pointer (some ⟨R, 0, none⟩)] w (DrawPath R q 2 w) := by
  have hR := hr.lt
  go_enter Tryz.func129, Tryz.ntmps129
  go_wp2_with fail
  refine (reader_pick R q _ _ hr (by omega) (by omega)).mono ?_
  rintro e w1 ⟨j, rfl, hj0, hj, hr1, hg1⟩
  have hz := hg1.size
  have G1 := Lib.hid hg1
  clear hg1
  by_cases h0 : j = 0
  · subst h0
    go_wp2_with fail
    obtain ⟨p1, p2, p3, ho, hs4⟩ := three_paths w1 3 25
    have P1 := Lib.hid p1
    have P2 := Lib.hid p2
    have P3 := Lib.hid p3
    have Ho := Lib.hid ho
    have Hs4 := Lib.hid hs4
    clear p1 p2 p3 ho hs4
    have hR1 := hr1.lt
    refine (reader_pick R (q + 1) _ _ ((((hr1.alloc _).alloc _).alloc _).alloc _) (by omega) (by omega)).mono ?_
    rintro e w2 ⟨i, rfl, hi0, hi, hr2, hg2⟩
    have G4 := Lib.hid (gb_trans G1.out (gb_trans (gb_trans (gb_trans (gb_trans (World.grownBy_alloc w1 _ _) (World.grownBy_alloc _ _ _)) (World.grownBy_alloc _ _ _)) (World.grownBy_alloc _ _ _)) hg2))
    have hb := hg2.block (w1.heap.size + 1 + 1 + 1) (by rw [Hs4.out]; omega) (fun e => by have := Option.some.inj e; omega)
    have q1 := Lib.hid (P1.out.gb hg2 (by omega))
    have q2 := Lib.hid (P2.out.gb hg2 (by omega))
    have q3 := Lib.hid (P3.out.gb hg2 (by omega))
    rw [Ho.out] at hb
    have c0 : w2.cell? ⟨w1.heap.size + 1 + 1 + 1, 0, none⟩ = some (.slice (some ⟨w1.heap.size, 0, none⟩) 0 0) := by simp only [World.cell?, hb]; rfl
    have c1 : w2.cell? ⟨w1.heap.size + 1 + 1 + 1, 1, none⟩ = some (.slice (some ⟨w1.heap.size + 1, 0, none⟩) 2 2) := by simp only [World.cell?, hb]; rfl
    have c2 : w2.cell? ⟨w1.heap.size + 1 + 1 + 1, 2, none⟩ = some (.slice (some ⟨w1.heap.size + 1 + 1, 0, none⟩) 1 1) := by simp only [World.cell?, hb]; rfl
    clear hg2 P1 P2 P3 Ho Hs4 G1 hb
    have hcase : i = 0 ∨ i = 1 ∨ i = 2 := by omega
    rcases hcase with rfl | rfl | rfl
    · go_wp2_with fail
      go_ret
      exact ⟨_, [], rfl, q1.out, by decide, q + 1 + 1, by omega, hr2, G4.out⟩
    · go_wp2_with fail
      go_ret
      exact ⟨_, [0, 0], rfl, q2.out, by decide, q + 1 + 1, by omega, hr2, G4.out⟩
    · go_wp2_with fail
      go_ret
      exact ⟨_, [3], rfl, q3.out, by decide, q + 1 + 1, by omega, hr2, G4.out⟩
  · have h0b : (j == 0) = false := by simpa using h0
    go_wp2_with fail
    refine (spec_somePath R (q + 1) _ hr1 (by omega)).mono ?_
    rintro e w2 ⟨v, xs, rfl, hp, hl, q2, hq2, hr2, hg2⟩
    have Hp := Lib.hid hp
    have G2 := Lib.hid (gb_trans G1.out hg2)
    clear hp hg2
    go_wp2_with fail
    go_ret
    exact ⟨_, xs, rfl, Hp.out, hl, q2, by omega, hr2, G2.out⟩
end Go.Proofs.YtcmnldomcpjlcaaGreat
