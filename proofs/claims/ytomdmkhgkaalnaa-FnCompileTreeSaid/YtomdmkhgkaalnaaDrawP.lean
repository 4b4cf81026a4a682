/- The functions that draw a path: whatever the code, they answer at most three numbers, in memory of their own. -/
import Derived.Test.YtomdmkhgkaalnaaDraw
import Derived.Test.YtomdmkhgkaalnaaInts
set_option linter.unusedVariables false
set_option linter.unusedSimpArgs false
namespace Go.Proofs.Ytomdmkhgkaalnaa
open Go.RowKit Go.Proofs.Ytomdmkhgkaalnaa.Nm

/-- The slice v holds the numbers xs in w, from the start of a block. -/
def PathIn (w : World) (v : Value) (xs : List Int) : Prop :=
  ∃ g cap, v = .slice (some ⟨g, 0, none⟩) xs.length cap ∧ xs.length ≤ cap ∧ cap ≤ 3 ∧ g < w.heap.size ∧ ∀ (j : Nat) (u : Value), (xs.map iv)[j]? = some u → w.cell? ((⟨g, 0, none⟩ : Addr).add j) = some u
theorem add0P (g j : Nat) : (⟨g, 0, none⟩ : Addr).add j = ⟨g, j, none⟩ := by unfold Addr.add; split <;> simp_all
theorem PathIn.below {w w' : World} {v : Value} {xs : List Int} (h : PathIn w v xs) (hb : Below w.heap.size w w') : PathIn w' v xs := by
  obtain ⟨g, cap, h1, h2, h3, h4, h5⟩ := h
  refine ⟨g, cap, h1, h2, h3, Nat.lt_of_lt_of_le h4 hb.size, fun j u hu => ?_⟩
  rw [add0P, hb.cell (p := ⟨g, j, none⟩) h4, ← add0P]
  exact h5 j u hu
theorem PathIn.ints {w : World} {v : Value} {xs : List Int} (h : PathIn w v xs) : IntsIn w v xs := by
  obtain ⟨g, cap, h1, h2, h3, h4, h5⟩ := h
  refine ⟨_, cap, h1, h2, by unfold maxLen; omega, fun _ => ⟨g, 0, rfl, h4, fun k hk => ?_⟩⟩
  have := h5 k (.int .i64 xs[k]) (by rw [List.getElem?_map, List.getElem?_eq_getElem hk]; rfl)
  rw [add0P] at this
  simpa using this
theorem PathIn.new (w : World) (xs : List Int) (T : TypeId) (h : xs.length ≤ 3) : PathIn (w.alloc (.cells (xs.map iv).toArray T)) (.slice (some ⟨w.heap.size, 0, none⟩) xs.length xs.length) xs := by
  refine ⟨w.heap.size, xs.length, rfl, Nat.le_refl _, h, by rw [World.size_alloc]; omega, fun j u hu => ?_⟩
  rw [add0P]
  have e : (w.alloc (.cells (xs.map iv).toArray T)).heap[w.heap.size]? = some (.cells (xs.map iv).toArray T (0, 0)) := heap_new w _ _
  simp only [World.cell?, e]
  simpa using hu
theorem PathIn.gb {w w' : World} {g cap R : Nat} {n : Nat} {xs : List Int} (h : PathIn w (.slice (some ⟨g, 0, none⟩) n cap) xs) (hg : w.grownBy w' (some R)) (hne : g ≠ R) : PathIn w' (.slice (some ⟨g, 0, none⟩) n cap) xs := by
  obtain ⟨g', cap', h1, h2, h3, h4, h5⟩ := h
  simp only [Value.slice.injEq, Option.some.injEq, Addr.mk.injEq] at h1
  obtain ⟨⟨rfl, _⟩, rfl, rfl⟩ := h1
  refine ⟨g, cap, rfl, h2, h3, Nat.lt_of_lt_of_le h4 hg.size, fun j u hu => ?_⟩
  have hb := hg.block g h4 (fun e => hne (Option.some.inj e))
  rw [add0P, World.cell?_of_block (w := w) hb, ← add0P]
  exact h5 j u hu

theorem three_paths (w : World) (T U : TypeId) :
    let W := (((w.alloc (.cells #[] T)).alloc (.cells #[.int .i64 0, .int .i64 0] T)).alloc (.cells #[.int .i64 3] T)).alloc (.cells #[.slice (some ⟨w.heap.size, 0, none⟩) 0 0, .slice (some ⟨w.heap.size + 1, 0, none⟩) 2 2, .slice (some ⟨w.heap.size + 1 + 1, 0, none⟩) 1 1] U)
    PathIn W (.slice (some ⟨w.heap.size, 0, none⟩) 0 0) [] ∧ PathIn W (.slice (some ⟨w.heap.size + 1, 0, none⟩) 2 2) [0, 0] ∧ PathIn W (.slice (some ⟨w.heap.size + 1 + 1, 0, none⟩) 1 1) [3] ∧
      W.heap[w.heap.size + 1 + 1 + 1]? = some (.cells #[.slice (some ⟨w.heap.size, 0, none⟩) 0 0, .slice (some ⟨w.heap.size + 1, 0, none⟩) 2 2, .slice (some ⟨w.heap.size + 1 + 1, 0, none⟩) 1 1] U (0, 0)) ∧ W.heap.size = w.heap.size + 1 + 1 + 1 + 1 := by
  intro W
  have p1 := PathIn.new w [] T (by decide)
  have p2 := PathIn.new (w.alloc (.cells #[] T)) [0, 0] T (by decide)
  have p3 := PathIn.new ((w.alloc (.cells #[] T)).alloc (.cells #[.int .i64 0, .int .i64 0] T)) [3] T (by decide)
  have e4 := heap_new (((w.alloc (.cells #[] T)).alloc (.cells #[.int .i64 0, .int .i64 0] T)).alloc (.cells #[.int .i64 3] T)) #[.slice (some ⟨w.heap.size, 0, none⟩) 0 0, .slice (some ⟨w.heap.size + 1, 0, none⟩) 2 2, .slice (some ⟨w.heap.size + 1 + 1, 0, none⟩) 1 1] U
  simp only [World.size_alloc] at p2 p3 e4
  exact ⟨((p1.below (ba (Below.refl _ _) _)).below (ba (Below.refl _ _) _)).below (ba (Below.refl _ _) _), (p2.below (ba (Below.refl _ _) _)).below (ba (Below.refl _ _) _), p3.below (ba (Below.refl _ _) _), e4, by simp only [W, World.size_alloc]⟩

/-- What a function that draws a path comes to. -/
def DrawPath (R q c : Nat) (w : World) (e : Ending) (w' : World) : Prop :=
  ∃ v xs, e = .returned v ∧ PathIn w' v xs ∧ xs.length ≤ 3 ∧ ∃ q', q' ≤ q + c ∧ Rd w' R q' ∧ w.grownBy w' (some R)
end Go.Proofs.Ytomdmkhgkaalnaa
