/- Plain facts of disks for promises P37 and P38. Nothing of the program stands here. -/
import Derived.Test.YtgecemngfpgcoaaPlainK
set_option linter.unusedVariables false
set_option linter.unusedSimpArgs false
namespace Go.Proofs.Ytgecemngfpgcoaa.Nm

theorem inr_iff {x lo hi : Int} : inr x lo hi = true ↔ lo ≤ x ∧ x ≤ hi := by unfold inr; simp
/-- P37: a valid disk without directories is valid, and one with a later clock. -/
theorem okDisk_less {t : List Fil} {c : Int} {ds : List Dr} (h : okDisk ⟨t, c, ds⟩ = true) : okDisk ⟨t, c, []⟩ = true ∧ okDisk ⟨t, min (c + 1) 200, ds⟩ = true := by
  unfold okDisk at h
  simp only [Bool.and_eq_true] at h
  obtain ⟨⟨h1, h2⟩, h3⟩ := h
  have hc := inr_iff.1 h1
  refine ⟨?_, ?_⟩
  · unfold okDisk
    simp only [Bool.and_eq_true]
    exact ⟨⟨h1, okDirs_yes (by simp) (by simp) (by simp)⟩, h3⟩
  · unfold okDisk
    simp only [Bool.and_eq_true]
    refine ⟨⟨inr_iff.2 (by omega), ?_⟩, h3⟩
    refine okDirs_yes (fun i hi => ?_) ?_ (okDirs_len h2)
    · have hd := okDirs_at h2 (List.getElem_mem hi)
      unfold okDr at hd ⊢
      simp only [Bool.and_eq_true] at hd ⊢
      obtain ⟨⟨⟨a, b⟩, e⟩, f⟩ := hd
      have he := inr_iff.1 e
      exact ⟨⟨⟨a, b⟩, inr_iff.2 (by omega)⟩, f⟩
    · unfold okDirs at h2
      simp only [Bool.and_eq_true, decide_eq_true_eq] at h2
      exact h2.1.2
/-- P38: a stamp is of the past, and 0 or that of a directory that the disk has. -/
theorem stampOf_past {d : Dsk} {root : Int} {p : Bs} (h : 0 ≤ stampOf d root p) : okDisk d = true ∧ stampOf d root p ≤ d.clock ∧ ((∃ x ∈ d.dirs, x.root = root ∧ x.pack = p ∧ x.stamp = stampOf d root p) ∨ stampOf d root p = 0) := by
  unfold stampOf at h ⊢
  split at h
  · rename_i hk
    rw [if_pos hk]
    simp only [Bool.and_eq_true] at hk
    have hd := hk.1
    have hd2 := hd
    unfold okDisk at hd2
    simp only [Bool.and_eq_true] at hd2
    have hc := inr_iff.1 hd2.1.1
    rcases keyAt_is (key := dplace) d.dirs (root, p) with ⟨h1, _⟩ | h2
    · have h0 : stampIn d.dirs (root, p) = 0 := stampIn_no h1
      rw [h0]
      exact ⟨hd, by omega, .inr rfl⟩
    · obtain ⟨k, hk1, hk2, hk3⟩ : ∃ k, ∃ h : k < d.dirs.length, keyAt dplace d.dirs (root, p) = (k : Int) ∧ dplace d.dirs[k] = (root, p) := by
        obtain ⟨k, hk, a, b⟩ := h2
        first
          | exact ⟨k, hk, a, b⟩
          | exact ⟨k, hk, a, b.1⟩
          | exact ⟨k, hk, b, a⟩
          | exact ⟨k, hk, b.1, a⟩
      have hs : stampIn d.dirs (root, p) = d.dirs[k].stamp := stampIn_yes hk1 hk2
      rw [hs]
      have ho := okDirs_at hd2.1.2 (List.getElem_mem hk1)
      unfold okDr at ho
      simp only [Bool.and_eq_true] at ho
      have he := inr_iff.1 ho.1.2
      have e1 : d.dirs[k].root = root := congrArg Prod.fst hk3
      have e2 : d.dirs[k].pack = p := congrArg Prod.snd hk3
      exact ⟨hd, he.2, .inl ⟨_, List.getElem_mem hk1, e1, e2, rfl⟩⟩
  · omega
end Go.Proofs.Ytgecemngfpgcoaa.Nm

/-! Stamps behind a change (P39, P40). putDr and stampAll are DskC's and DskD's own definitions: move them here when DskC is built next. -/
namespace Go.Proofs.Ytgecemngfpgcoaa.PlainKd
open Go.Proofs.Ytgecemngfpgcoaa.Nm
def putDr (ds : List Dr) (d : Dr) : List Dr := if 0 ≤ dirAt ds (dplace d) then ds.set (dirAt ds (dplace d)).toNat d else ds ++ [d]
theorem stamp_put (ds : List Dr) (d : Dr) (q : DPl) : stampIn (putDr ds d) q = if q = dplace d then d.stamp else stampIn ds q := by
  rcases keyAt_is (key := dplace) ds (dplace d) with ⟨h1, h2⟩ | ⟨k, hk, h1, h2, h3⟩
  · have e : putDr ds d = ds ++ [d] := by unfold putDr dirAt; rw [h1]; rfl
    rw [e]
    by_cases hq : q = dplace d
    · subst hq
      rw [if_pos rfl]
      have hl : ds.length < (ds ++ [d]).length := by simp
      have hd : dirAt (ds ++ [d]) (dplace d) = ((ds.length : Nat) : Int) := by
        unfold dirAt
        refine keyAt_yes _ _ hl _ (fun j hj hlt => ?_) (by simp)
        rw [List.getElem_append_left hlt]; exact h2 j hlt
      rw [stampIn_yes hl hd]; simp
    · rw [if_neg hq]
      rcases keyAt_is (key := dplace) ds q with ⟨g1, g2⟩ | ⟨j, hj, g1, g2, g3⟩
      · have hn : dirAt (ds ++ [d]) q = -1 := by
          unfold dirAt
          refine keyAt_no _ _ (fun i hi => ?_)
          by_cases hil : i < ds.length
          · rw [List.getElem_append_left hil]; exact g2 i hil
          · have : (ds ++ [d])[i] = d := by rw [List.getElem_append_right (by omega)]; simp
            rw [this]; exact fun h => hq h.symm
        rw [stampIn_no hn, stampIn_no (show dirAt ds q = -1 from g1)]
      · have hl : j < (ds ++ [d]).length := by simp; omega
        have hd : dirAt (ds ++ [d]) q = (j : Int) := by
          unfold dirAt
          refine keyAt_yes _ _ hl _ (fun i hi hlt => ?_) (by rw [List.getElem_append_left hj]; exact g2)
          rw [List.getElem_append_left (by omega)]; exact g3 i (by omega) hlt
        rw [stampIn_yes hl hd, stampIn_yes hj (show dirAt ds q = (j : Int) from g1), List.getElem_append_left hj]
  · have e : putDr ds d = ds.set k d := by unfold putDr dirAt; rw [h1]; simp
    have hkey : ∀ i (hi : i < (ds.set k d).length), dplace (ds.set k d)[i] = dplace (ds[i]'(by simpa using hi)) := fun i hi => by
      rw [List.getElem_set]
      split
      · rename_i hki; subst hki; exact h2.symm
      · rfl
    rw [e]
    rcases keyAt_is (key := dplace) ds q with ⟨g1, g2⟩ | ⟨j, hj, g1, g2, g3⟩
    · have hn : dirAt (ds.set k d) q = -1 := by
        unfold dirAt
        exact keyAt_no _ _ (fun i hi => by rw [hkey i hi]; exact g2 i (by simpa using hi))
      have hq : q ≠ dplace d := fun h => g2 k hk (h2.trans h.symm)
      rw [stampIn_no hn, if_neg hq, stampIn_no (show dirAt ds q = -1 from g1)]
    · have hl : j < (ds.set k d).length := by simpa using hj
      have hd : dirAt (ds.set k d) q = (j : Int) := by
        unfold dirAt
        exact keyAt_yes _ _ hl _ (fun i hi hlt => by rw [hkey i hi]; exact g3 i (by simpa using hi) hlt) (by rw [hkey j hl]; exact g2)
      rw [stampIn_yes hl hd]
      by_cases hq : q = dplace d
      · rw [if_pos hq]
        have hkj : k = j := by
          rcases Nat.lt_trichotomy k j with h | h | h
          · exact absurd (h2.trans hq.symm) (g3 k hk h)
          · exact h
          · exact absurd (g2.trans hq) (h3 j hj h)
        subst hkj
        rw [List.getElem_set_self]
      · rw [if_neg hq, stampIn_yes hj (show dirAt ds q = (j : Int) from g1)]
        have hne : k ≠ j := fun h => by subst h; exact hq (g2.symm.trans h2)
        rw [List.getElem_set_ne hne]
def stampAll (r c : Int) (xs : List Bs) (ds : List Dr) : List Dr := xs.foldl (fun ds p => putDr ds ⟨r, p, c, []⟩) ds
theorem stamp_all (r c : Int) (q : DPl) : ∀ (xs : List Bs) (ds : List Dr), stampIn (stampAll r c xs ds) q = if q.1 = r ∧ q.2 ∈ xs then c else stampIn ds q
  | [], ds => by simp [stampAll]
  | p :: xs, ds => by
    show stampIn (stampAll r c xs (putDr ds ⟨r, p, c, []⟩)) q = _
    rw [stamp_all r c q xs, stamp_put]
    obtain ⟨q1, q2⟩ := q
    by_cases h1 : q1 = r
    · subst h1
      by_cases h2 : q2 ∈ xs
      · simp [h2]
      · by_cases h3 : q2 = p
        · subst h3; simp [h2, dplace]
        · simp [h2, h3, dplace]
    · simp [h1, dplace]
def changed (d : Dsk) (t : List Fil) (r : Int) (p : Bs) (k : Int) : Dsk × Bool :=
  if inr k 0 (200 - d.clock) && okDisk ⟨t, d.clock + k, stampAll r (d.clock + k) ([] :: namesAbove p) d.dirs⟩ then (⟨t, d.clock + k, stampAll r (d.clock + k) ([] :: namesAbove p) d.dirs⟩, true) else (⟨[], 0, []⟩, false)
/-- What a change that is possible leaves (P39, P40). -/
theorem changed_facts {d : Dsk} {t : List Fil} {r : Int} {p : Bs} {k : Int} (h : (changed d t r p k).2 = true) :
    okDisk (changed d t r p k).1 = true ∧ (changed d t r p k).1.files = t ∧ (changed d t r p k).1.clock = d.clock + k ∧ (0 ≤ k) ∧
    ∀ q, stampIn (changed d t r p k).1.dirs q = if q.1 = r ∧ q.2 ∈ ([] :: namesAbove p) then d.clock + k else stampIn d.dirs q := by
  unfold changed at h ⊢
  split at h
  · rename_i hc
    rw [if_pos hc]
    simp only [Bool.and_eq_true] at hc
    exact ⟨hc.2, rfl, rfl, (inr_iff.1 hc.1).1, fun q => stamp_all r _ q _ _⟩
  · simp at h
/-- A package that is a module's name is among what is above it. -/
theorem self_above {p : Bs} (h : vn p = true) : p ∈ namesAbove p := by
  have e : namesAbove p = above p := by simp [namesAbove, h]
  rw [e]
  first
    | exact above_self p
    | exact self_mem_above h
    | (rw [parent_name h]; simp)
end Go.Proofs.Ytgecemngfpgcoaa.PlainKd
