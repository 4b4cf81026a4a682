/- Plain facts on files: the two ways to say that one is valid. -/
import Derived.Test.YtolhgklbkjdpiaaGreatPlainT
import Derived.Test.YtolhgklbkjdpiaaGreatPlain2
set_option linter.unusedVariables false
set_option linter.unusedSimpArgs false
namespace Go.Proofs.YtolhgklbkjdpiaaGreat.Nm

/-- The module that the package and the name of a file make, "" if none. -/
def modAt (f : Fil) : Bs := if f.init then (if f.name = [] then nameOr f.pack else []) else childOf f.pack f.name

theorem child_ne {p s : Bs} (hs : s ≠ []) : child p s ≠ [] := by
  unfold child; split
  · exact hs
  · simp

theorem okFil_eq (f : Fil) : okFil f = (inr f.root 0 2 && inr f.stamp 0 99 && !(modAt f).isEmpty && okBody f.body) := by
  obtain ⟨r, p, n, i, st, b⟩ := f
  have key : (vpk p && (if i then !p.isEmpty && n.isEmpty else vp n && vn (child p n))) = !(modAt ⟨r, p, n, i, st, b⟩).isEmpty := by
    cases i
    · simp only [Bool.false_eq_true, if_false, modAt, childOf]
      cases h1 : vpk p
      · simp
      · cases h2 : vp n
        · simp
        · cases h3 : vn (child p n)
          · simp
          · have := child_ne (p := p) (vp_ne h2)
            cases hc : child p n with
            | nil => exact absurd hc this
            | cons a b => simp
    · simp only [if_true, modAt]
      by_cases hn : n = []
      · subst hn
        cases p with
        | nil => simp [nameOr, vn_nil]
        | cons a b =>
          cases h : vn (a :: b)
          · simp [vpk, h, nameOr]
          · simp [vpk, h, nameOr]
      · have : n.isEmpty = false := by simpa using hn
        simp [hn, this]
  simp only [okFil]
  rw [← key]
  cases inr r 0 2 <;> cases inr st 0 99 <;> cases vpk p <;> cases okBody b <;> simp

theorem okFil_mod {f : Fil} (h : okFil f = true) : modAt f = modName f ∧ vn (modName f) = true := by
  rw [okFil_eq] at h
  simp only [Bool.and_eq_true, Bool.not_eq_true'] at h
  obtain ⟨⟨_, h⟩, _⟩ := h
  have hne : modAt f ≠ [] := by simpa using h
  unfold modAt modName at *
  cases hi : f.init
  · rw [hi] at hne
    simp only [Bool.false_eq_true, if_false] at hne ⊢
    unfold childOf at hne ⊢
    split at hne
    · rename_i hc
      simp only [Bool.and_eq_true] at hc
      simp [hc]
    · exact absurd rfl hne
  · rw [hi] at hne
    simp only [if_true] at hne ⊢
    split at hne
    · rename_i hc
      unfold nameOr at hne
      split at hne
      · rename_i hv; simp [hc, nameOr, hv]
      · exact absurd rfl hne
    · exact absurd rfl hne

theorem modOf_eq (f : Fil) : modOf f = if okFil f then modAt f else [] := by
  unfold modOf
  split
  · rename_i h; rw [(okFil_mod h).1]
  · rfl

theorem modName_len (f : Fil) : (modName f).length ≤ f.pack.length + f.name.length + 1 := by
  unfold modName
  split
  · omega
  · exact child_len _ _

theorem okFil_pack {f : Fil} (h : okFil f = true) : vpk f.pack = true := by
  unfold okFil at h; simp only [Bool.and_eq_true] at h; exact h.1.1.2
theorem okFil_body {f : Fil} (h : okFil f = true) : okBody f.body = true := by
  unfold okFil at h; simp only [Bool.and_eq_true] at h; exact h.1.2

def firstFrom : List Fil → Pl → Nat → Int
  | [], _, _ => -1
  | f :: r, p, k => if place f = p then (k : Int) else firstFrom r p (k + 1)
/-- The index of the first file at a place, -1 if there is none. -/
def firstAt (fs : List Fil) (p : Pl) : Int := firstFrom fs p 0
theorem firstFrom_is (fs : List Fil) (p : Pl) (k : Nat) : (firstFrom fs p k = -1 ∧ ∀ j (h : j < fs.length), place fs[j] ≠ p) ∨
    ∃ j, ∃ h : j < fs.length, firstFrom fs p k = ((k + j : Nat) : Int) ∧ place fs[j] = p ∧ ∀ i (hi : i < fs.length), i < j → place fs[i] ≠ p := by
  induction fs generalizing k with
  | nil => exact .inl ⟨rfl, fun j h => absurd h (by simp)⟩
  | cons f r ih =>
    unfold firstFrom
    by_cases e : place f = p
    · rw [if_pos e]
      exact .inr ⟨0, by simp, by simp, by simpa using e, fun i _ h => absurd h (by omega)⟩
    · rw [if_neg e]
      rcases ih (k + 1) with ⟨h1, h2⟩ | ⟨j, hj, h1, h2, h3⟩
      · refine .inl ⟨h1, fun j hj => ?_⟩
        cases j with
        | zero => simpa using e
        | succ j => simpa using h2 j (by simpa using hj)
      · refine .inr ⟨j + 1, by simpa using hj, by rw [h1]; omega, by simpa using h2, fun i hi hij => ?_⟩
        cases i with
        | zero => simpa using e
        | succ i => simpa using h3 i (by simpa using hi) (by omega)
theorem firstAt_yes (fs : List Fil) (k : Nat) (h : k < fs.length) (p : Pl) (hn : ∀ j (hj : j < fs.length), j < k → place fs[j] ≠ p) (hy : place fs[k] = p) : firstAt fs p = (k : Int) := by
  rcases firstFrom_is fs p 0 with ⟨h1, h2⟩ | ⟨j, hj, h1, h2, h3⟩
  · exact absurd hy (h2 k h)
  · rcases Nat.lt_trichotomy j k with e | e | e
    · exact absurd h2 (hn j hj e)
    · subst e; unfold firstAt; rw [h1]; simp
    · exact absurd hy (h3 k h e)
theorem firstAt_no (fs : List Fil) (p : Pl) (hn : ∀ j (hj : j < fs.length), place fs[j] ≠ p) : firstAt fs p = -1 := by
  rcases firstFrom_is fs p 0 with ⟨h1, h2⟩ | ⟨j, hj, h1, h2, h3⟩
  · exact h1
  · exact absurd h2 (hn j hj)
/-- A file has another one ahead of it at its place. -/
theorem firstAt_lt (fs : List Fil) (k : Nat) (h : k < fs.length) : (firstAt fs (place fs[k]) < (k : Int)) ↔ ∃ j, ∃ hj : j < fs.length, j < k ∧ place fs[j] = place fs[k] := by
  rcases firstFrom_is fs (place fs[k]) 0 with ⟨h1, h2⟩ | ⟨j, hj, h1, h2, h3⟩
  · exact absurd rfl (h2 k h)
  · unfold firstAt
    rw [h1]
    constructor
    · intro h4; exact ⟨j, hj, by omega, h2⟩
    · rintro ⟨i, hi, h4, h5⟩
      rcases Nat.lt_or_ge i j with e | e
      · exact absurd h5 (h3 i hi e)
      · omega

end Go.Proofs.YtolhgklbkjdpiaaGreat.Nm
