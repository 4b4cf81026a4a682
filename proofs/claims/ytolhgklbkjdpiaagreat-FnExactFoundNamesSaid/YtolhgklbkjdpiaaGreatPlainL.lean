/- Plain facts on what a directory has. -/
import Derived.Test.YtolhgklbkjdpiaaGreatPlainS
import Derived.Test.YtolhgklbkjdpiaaGreatPlainD
set_option linter.unusedVariables false
set_option linter.unusedSimpArgs false
namespace Go.Proofs.YtolhgklbkjdpiaaGreat.Nm

theorem first_of {s p : Bs} (hs : vn s = true) (hp : vpk p = true) (hu : under s p = true) (hne : s ≠ p) : (parts s)[(parts p).length]? = some (firstBelow s p) := by
  rw [parts_of hs, firstBelow]
  have hpos := split_pos s
  by_cases h0 : p = []
  · subst h0
    rw [parts_not vn_nil]
    cases h : split s with
    | nil => rw [h] at hpos; simp at hpos
    | cons a b => simp [h]
  · have hpe : p.isEmpty = false := by cases p with | nil => exact absurd rfl h0 | cons a b => rfl
    rcases under_shape hu h0 with rfl | ⟨r, rfl⟩
    · exact absurd rfl hne
    · rw [parts_of (vn_of_vpk hp h0), split_append, hpe]
      have hr := split_pos r
      have hd : (p ++ 46 :: r).drop (p.length + 1) = r := by
        rw [List.drop_append]; simp
      rw [if_neg (by simp), hd, List.getElem?_append_right (Nat.le_refl _), Nat.sub_self]
      cases h : split r with
      | nil => rw [h] at hr; simp at hr
      | cons a b => rfl

/-- What a directory has because of a file below it. -/
def entryAt (p : Bs) (f : Fil) : Bs := if f.pack = p then (if f.init then [42] else f.name) else firstBelow f.pack p ++ [47]

theorem okFil_name {f : Fil} (h : okFil f = true) (hi : f.init = false) : f.name ≠ [] := by
  intro e
  simp only [okFil, Bool.and_eq_true, hi, Bool.false_eq_true, if_false] at h
  have := h.2.1
  rw [e] at this
  exact absurd this (by decide)
theorem entry_below {f : Fil} {root : Int} {p : Bs} (hf : okFil f = true) (hp : vpk p = true) : entry f root p = if isBelow root p f then entryAt p f else [] := by
  unfold entry isBelow entryAt
  rw [isUnder_vpk (okFil_pack hf) hp]
  by_cases h1 : f.root = root
  · rw [if_pos h1]
    by_cases h2 : f.pack = p
    · rw [if_pos h2, if_pos h2]
      simp [h1, h2]
    · rw [if_neg h2, if_neg h2]
      simp [h1, h2]
  · rw [if_neg h1]
    simp [h1]
theorem entryAt_ne {f : Fil} (p : Bs) (hf : okFil f = true) : entryAt p f ≠ [] := by
  unfold entryAt
  split
  · cases hi : f.init with
    | true => simp
    | false => simpa using okFil_name hf hi
  · simp
theorem entries_eq (root : Int) (p : Bs) (hp : vpk p = true) : ∀ (fs : List Fil), fs.all okFil = true → entries fs root p = (belowFils fs root p).map (entryAt p)
  | [], _ => rfl
  | f :: r, h => by
    simp only [List.all_cons, Bool.and_eq_true] at h
    have ih := entries_eq root p hp r h.2
    unfold entries belowFils at *
    rw [List.map_cons, entry_below h.1 hp, List.filter_cons (p := fun s : Bs => !s.isEmpty)]
    have hne : (!(entryAt p f).isEmpty) = true := by simpa using entryAt_ne p h.1
    cases hb : isBelow root p f with
    | true =>
      rw [if_pos rfl, if_pos hne, List.filter_cons, if_pos hb, List.map_cons, ih]
    | false =>
      rw [if_neg Bool.false_ne_true, if_neg (by simp), List.filter_cons, if_neg (by rw [hb]; exact Bool.false_ne_true)]
      exact ih
theorem belowFils_len (fs : List Fil) (root : Int) (p : Bs) : (belowFils fs root p).length ≤ fs.length := List.length_filter_le _ _
theorem placed_at {t : List Fil} {root : Int} {p : Bs} (h : placed t root p = true) : okTree t = true ∧ vpk p = true := by
  simp only [placed, Bool.and_eq_true] at h
  exact ⟨h.1.1, h.2⟩
theorem listDir_at {t : List Fil} {root : Int} {p : Bs} (h : placed t root p = true) : sortUp ((belowFils t root p).map (entryAt p)) = listDir t root p := by
  rw [listDir, if_pos h, entries_eq root p (placed_at h).2 t (okTree_all (placed_at h).1).1]
theorem listDir_no {t : List Fil} {root : Int} {p : Bs} (h : placed t root p = false) : listDir t root p = [] := by rw [listDir, h]; rfl
end Go.Proofs.YtolhgklbkjdpiaaGreat.Nm
