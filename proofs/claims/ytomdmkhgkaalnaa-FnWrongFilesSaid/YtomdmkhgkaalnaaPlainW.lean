/- Facts of the promises about files that are wrong, trees that are compiled, and stores that are pruned. -/
import Derived.Test.YtomdmkhgkaalnaaLoad
set_option linter.unusedVariables false
set_option linter.unusedSimpArgs false
namespace Go.Proofs.Ytomdmkhgkaalnaa
open Go.RowKit Go.Proofs.Ytomdmkhgkaalnaa.Nm

theorem mem_wrongGo {cs : List Cmp} : ∀ {l : List Fil} {i j : Int}, j ∈ wrongGo cs l i ↔ ∃ k, ∃ h : k < l.length, j = i + k ∧ isWrong cs l[k] = true
  | [], i, j => by simp [wrongGo]
  | f :: r, i, j => by
    unfold wrongGo
    rw [List.mem_append, mem_wrongGo]
    constructor
    · rintro (h | ⟨k, hk, e, hw⟩)
      · split at h
        · rename_i hw
          simp at h
          exact ⟨0, by simp, by simp [h], hw⟩
        · cases h
      · exact ⟨k + 1, by simpa using hk, by rw [e]; push_cast; omega, by simpa using hw⟩
    · rintro ⟨k, hk, e, hw⟩
      cases k with
      | zero =>
        left
        have hw' : isWrong cs f = true := hw
        rw [if_pos hw']
        simp at e
        simp [e]
      | succ k => exact .inr ⟨k, by simpa using hk, by rw [e]; push_cast; omega, by simpa using hw⟩
theorem wrongGo_ge {cs : List Cmp} {l : List Fil} {i j : Int} (h : j ∈ wrongGo cs l i) : i ≤ j := by
  obtain ⟨k, _, e, _⟩ := mem_wrongGo.1 h
  omega
theorem wrongGo_up {cs : List Cmp} : ∀ (l : List Fil) (i : Int), (wrongGo cs l i).Pairwise (fun a b => a < b)
  | [], i => by simp [wrongGo]
  | f :: r, i => by
    unfold wrongGo
    rw [List.pairwise_append]
    refine ⟨by split <;> simp, wrongGo_up r (i + 1), fun x hx y hy => ?_⟩
    have h1 := wrongGo_ge hy
    split at hx
    · simp at hx; omega
    · cases hx
theorem mem_wrongs {cs : List Cmp} {t : List Fil} (h1 : okStore cs = true) (h2 : okTree t = true) (k : Nat) (hk : k < t.length) : decide ((k : Int) ∈ wrongs cs t) = isWrong cs t[k] := by
  rw [wrongs_at h1 h2, List.take_length]
  cases hw : isWrong cs t[k]
  · rw [decide_eq_false_iff_not]
    intro h
    obtain ⟨j, hj, e, hw'⟩ := mem_wrongGo.1 h
    have : j = k := by omega
    subst this
    rw [hw] at hw'; cases hw'
  · rw [decide_eq_true_eq]
    exact mem_wrongGo.2 ⟨k, hk, by omega, hw⟩
theorem wrongs_up (cs : List Cmp) (t : List Fil) : (wrongs cs t).Pairwise (fun a b => a < b) := by
  unfold wrongs
  split
  · exact wrongGo_up _ _
  · simp
theorem inr_stamp : inr 0 0 2 = true := by decide
/-- A file is wrong if something else is run for it. -/
theorem wrong_body {cs : List Cmp} {f : Fil} (h1 : okStore cs = true) (h2 : okFil f = true) : decide ((loadB cs f 0).1 = f.body) = !isWrong cs f := by
  rcases usAt_range cs f with h | ⟨k, hk, h⟩
  · rw [loadB_new h1 h2 inr_stamp h, isWrong_none h]; simp
  · rw [loadB_had hk h1 h2 inr_stamp h, isWrong_at hk h]; simp
end Go.Proofs.Ytomdmkhgkaalnaa
