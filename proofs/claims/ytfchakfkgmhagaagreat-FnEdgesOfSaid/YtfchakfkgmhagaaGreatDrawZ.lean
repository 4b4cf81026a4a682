/- The functions that draw a tree, and what else a law takes. Written by mkdraws.py. -/
import Derived.Test.YtfchakfkgmhagaaGreatDrawY
import Derived.Test.YtfchakfkgmhagaaGreatDrawF
import Derived.Test.YtfchakfkgmhagaaGreatDrawP
import Derived.Deep.RegionLaw
set_option linter.unusedVariables false
set_option linter.unusedSimpArgs false
namespace Go.Proofs.YtfchakfkgmhagaaGreat
open Go.RowKit Go.Proofs.YtfchakfkgmhagaaGreat.Nm

theorem PathIn.gbR {w w' : World} {v : Value} {R q : Nat} {xs : List Int} (h : PathIn w v xs) (hr : Rd w R q) (hg : w.grownBy w' (some R)) : PathIn w' v xs := by
  obtain ⟨g, cap, h1, h2, h3, h4, h5⟩ := h
  refine ⟨g, cap, h1, h2, h3, Nat.lt_of_lt_of_le h4 hg.size, fun j u hu => ?_⟩
  have hj := (List.getElem?_eq_some_iff.1 hu).1
  rw [List.length_map] at hj
  have hne : g ≠ R := by
    rintro rfl
    obtain ⟨a, n, c, hRR, _⟩ := hr
    have := h5 0 (iv xs[0]) (by rw [List.getElem?_map, List.getElem?_eq_getElem (by omega)]; rfl)
    rw [add0P] at this
    simp only [World.cell?, hRR] at this
    simp [iv] at this
  rw [add0P, World.cell?_of_block (w := w) (hg.block g h4 (fun e => hne (Option.some.inj e))), ← add0P]
  exact h5 j u hu
theorem PathIn.len {w : World} {v : Value} {xs : List Int} (h : PathIn w v xs) : ∃ a c, v = .slice a xs.length c := by
  obtain ⟨g, cap, h1, _⟩ := h
  exact ⟨_, _, h1⟩
/-- A drawn tree. -/
def TreeD (w w' : World) (v : Value) (ps : List (Fil × Value)) : Prop :=
  RowsB w' w.heap.size v ps ∧ ShortT 8 (ps.map (·.1)) ∧ ps.length ≤ 11 ∧ (∀ p ∈ ps, p.1.body.length ≤ 5) ∧ Below w.heap.size w w'
theorem below_keep {w W w' : World} {c : Nat} (h : Below c W w') (hw : w.heap.size ≤ W.heap.size) (hc : w.heap.size ≤ c) (hb : Below w.heap.size w W) : Below w.heap.size w w' := hb.trans (h.mono hc)
/-- A path stays where a cell with a slice is written. -/
theorem PathIn.set_box {w : World} {v : Value} {xs : List Int} {X : Nat} {a : Option Addr} {n c : Nat} (h : PathIn w v xs) (hx : w.cell? ⟨X, 0, none⟩ = some (.slice a n c)) (u : Value) : PathIn (w.setCell ⟨X, 0, none⟩ u) v xs := by
  obtain ⟨g, cap, h1, h2, h3, h4, h5⟩ := h
  refine ⟨g, cap, h1, h2, h3, by simpa using h4, fun j x hj => ?_⟩
  have h6 := h5 j x hj
  rw [add0P] at h6 ⊢
  have hne : (⟨g, j, none⟩ : Addr) ≠ ⟨X, 0, none⟩ := by
    intro e
    rw [e, hx] at h6
    have h7 := Option.some.inj h6
    rw [List.getElem?_map] at hj
    cases hk : xs[j]? with
    | none => rw [hk] at hj; cases hj
    | some y => rw [hk] at hj; rw [← h7] at hj; simp [iv] at hj
  rw [World.cell?_setCell_other _ _ _ _ (Ne.symm hne)]
  exact h6

/-! ### The function that draws a tree and a mode for a law. -/
end Go.Proofs.YtfchakfkgmhagaaGreat
