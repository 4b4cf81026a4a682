/- Plain facts on files: the two ways to say that one is valid. -/
import Derived.Test.YthpegpakdofhfaaPlainT
import Derived.Test.YthpegpakdofhfaaPlain2
set_option linter.unusedVariables false
set_option linter.unusedSimpArgs false
namespace Go.Proofs.Ythpegpakdofhfaa.Nm

/-- The module that the package and the name of a file make, "" if none. -/
def modAt (f : Fil) : Bs := if f.init then (if f.name = [] then nameOr f.pack else []) else childOf f.pack f.name

theorem child_ne {p s : Bs} (hs : s ≠ []) : child p s ≠ [] := by
  unfold child; split
  · exact hs
  · simp

theorem okFil_eq (f : Fil) : okFil f = (inr f.root 0 2 && inr f.stamp 0 99 && !(modAt f).isEmpty && okBody f.body) := by
  obtain ⟨r, p, n, i, st, b⟩ := f
  have key : (vpk p && (if i then !p.isEmpty && n.isEmpty else vp n && vn (child p n))) = !(modAt ⟨r, p, n, i, st, b⟩).isEmpty := by
    cases i
    · simp only [Bool.false_eq_true, if_false, modAt, childOf]
      cases h1 : vpk p
      · simp
      · cases h2 : vp n
        · simp
        · cases h3 : vn (child p n)
          · simp
          · have := child_ne (p := p) (vp_ne h2)
            cases hc : child p n with
            | nil => exact absurd hc this
            | cons a b => simp
    · simp only [if_true, modAt]
      by_cases hn : n = []
      · subst hn
        cases p with
        | nil => simp [nameOr, vn_nil]
        | cons a b =>
          cases h : vn (a :: b)
          · simp [vpk, h, nameOr]
          · simp [vpk, h, nameOr]
      · have : n.isEmpty = false := by simpa using hn
        simp [hn, this]
  simp only [okFil]
  rw [← key]
  cases inr r 0 2 <;> cases inr st 0 99 <;> cases vpk p <;> cases okBody b <;> simp

theorem okFil_mod {f : Fil} (h : okFil f = true) : modAt f = modName f ∧ vn (modName f) = true := by
  rw [okFil_eq] at h
  simp only [Bool.and_eq_true, Bool.not_eq_true'] at h
  obtain ⟨⟨_, h⟩, _⟩ := h
  have hne : modAt f ≠ [] := by simpa using h
  unfold modAt modName at *
  cases hi : f.init
  · rw [hi] at hne
    simp only [Bool.false_eq_true, if_false] at hne ⊢
    unfold childOf at hne ⊢
    split at hne
    · rename_i hc
      simp only [Bool.and_eq_true] at hc
      simp [hc]
    · exact absurd rfl hne
  · rw [hi] at hne
    simp only [if_true] at hne ⊢
    split at hne
    · rename_i hc
      unfold nameOr at hne
      split at hne
      · rename_i hv; simp [hc, nameOr, hv]
      · exact absurd rfl hne
    · exact absurd rfl hne

theorem modOf_eq (f : Fil) : modOf f = if okFil f then modAt f else [] := by
  unfold modOf
  split
  · rename_i h; rw [(okFil_mod h).1]
  · rfl

theorem modName_len (f : Fil) : (modName f).length ≤ f.pack.length + f.name.length + 1 := by
  unfold modName
  split
  · omega
  · exact child_len _ _

theorem okFil_pack {f : Fil} (h : okFil f = true) : vpk f.pack = true := by
  unfold okFil at h; simp only [Bool.and_eq_true] at h; exact h.1.1.2
theorem okFil_body {f : Fil} (h : okFil f = true) : okBody f.body = true := by
  unfold okFil at h; simp only [Bool.and_eq_true] at h; exact h.1.2

end Go.Proofs.Ythpegpakdofhfaa.Nm
