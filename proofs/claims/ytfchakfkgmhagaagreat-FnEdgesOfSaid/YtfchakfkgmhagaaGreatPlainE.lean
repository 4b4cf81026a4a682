/- Plain facts of the edges of a name: what lies above a name stands ahead of it. Nothing of the program stands here. -/
import Derived.Test.YtfchakfkgmhagaaGreatPlainN
set_option linter.unusedVariables false
set_option linter.unusedSimpArgs false
namespace Go.Proofs.YtfchakfkgmhagaaGreat
open Go.Proofs.YtfchakfkgmhagaaGreat.Nm
/-- Each name has its parent ahead of it. -/
def Ahead (xs : List Bs) : Prop := ∀ (i : Nat) (x : Bs), xs[i]? = some x → parentOf x = [] ∨ ∃ k, k < i ∧ xs[k]? = some (parentOf x)
theorem ahead_addOne {xs : List Bs} {y : Bs} (h : Ahead xs) (hy : parentOf y = [] ∨ parentOf y ∈ xs) : Ahead (addOne xs y) := by
  unfold addOne
  split
  · exact h
  · intro i x hi
    by_cases hl : i < xs.length
    · rw [List.getElem?_append_left hl] at hi
      rcases h i x hi with h1 | ⟨k, hk, h1⟩
      · exact .inl h1
      · exact .inr ⟨k, hk, by rw [List.getElem?_append_left (by omega)]; exact h1⟩
    · rw [List.getElem?_append_right (by omega)] at hi
      have hi0 : i - xs.length = 0 := by
        by_cases e : i - xs.length = 0
        · exact e
        · rw [List.getElem?_eq_none (by simp; omega)] at hi; cases hi
      rw [hi0] at hi
      have hx : y = x := by simpa using hi
      subst hx
      rcases hy with hy | hy
      · exact .inl hy
      · obtain ⟨k, hk, e⟩ := List.getElem_of_mem hy
        exact .inr ⟨k, by omega, by rw [List.getElem?_append_left hk, List.getElem?_eq_getElem hk, e]⟩
theorem ahead_addNew : ∀ (ys xs : List Bs), Ahead xs → (∀ j (h : j < ys.length), parentOf ys[j] = [] ∨ parentOf ys[j] ∈ xs ∨ parentOf ys[j] ∈ ys.take j) → Ahead (addNew xs ys)
  | [], xs, h, _ => h
  | y :: ys, xs, h, hy => by
    have h0 := hy 0 (by simp)
    have h1 : Ahead (addOne xs y) := ahead_addOne h (by
      rcases h0 with h0 | h0 | h0
      · exact .inl h0
      · exact .inr h0
      · exact absurd h0 (by simp))
    refine ahead_addNew ys (addOne xs y) h1 (fun j hj => ?_)
    have h2 := hy (j + 1) (by simp; omega)
    simp only [List.getElem_cons_succ, List.take_succ_cons, List.mem_cons] at h2
    rcases h2 with h2 | h2 | h2 | h2
    · exact .inl h2
    · exact .inr (.inl ((mem_addOne _ _ _).2 (.inl h2)))
    · exact .inr (.inl ((mem_addOne _ _ _).2 (.inr h2)))
    · exact .inr (.inr h2)
theorem above_ahead (l : Bs) : ∀ j (h : j < (namesAbove l).length), parentOf (namesAbove l)[j] = [] ∨ parentOf (namesAbove l)[j] ∈ (namesAbove l).take j := by
  cases hv : vn l
  · intro j h
    have e : namesAbove l = [] := by simp [namesAbove, hv]
    rw [e] at h; simp at h
  · have e : namesAbove l = above l := by simp [namesAbove, hv]
    rw [e]
    intro j h
    by_cases h0 : j = 0
    · subst h0; exact .inl (above_parent0 hv h)
    · right
      rw [above_parent hv j h (by omega)]
      exact List.mem_take_iff_getElem.2 ⟨j - 1, by omega, rfl⟩
theorem ahead_fold : ∀ (ns xs : List Bs), Ahead xs → Ahead (ns.foldl (fun xs n => addNew xs (namesAbove n)) xs)
  | [], xs, h => h
  | n :: ns, xs, h => ahead_fold ns _ (ahead_addNew _ _ h (fun j hj => by
    rcases above_ahead n j hj with h1 | h1
    · exact .inl h1
    · exact .inr (.inr h1)))
theorem ahead_full (ns : List Bs) : Ahead (full ns) := ahead_fold ns [] (fun i x h => by simp at h)
theorem needs_in_edges (t : List Fil) (path : List Int) (s : Bs) : ∀ x ∈ needsOf t path s, x ∈ edgesOf t path s := by
  intro x hx
  have hv := (needsOf_ok t path s).1 x hx
  exact (mem_full x _).2 ⟨x, hx, by rw [show namesAbove x = above x by simp [namesAbove, hv]]; exact mem_above_self x⟩
end Go.Proofs.YtfchakfkgmhagaaGreat
