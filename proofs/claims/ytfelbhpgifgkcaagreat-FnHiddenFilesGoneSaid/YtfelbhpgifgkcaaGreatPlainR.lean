/- Plain facts that promises 30, 31, 33, 34 and 35 say. Nothing of the program stands here. -/
import Derived.Test.YtfelbhpgifgkcaaGreatPlainG
set_option linter.unusedVariables false
set_option linter.unusedSimpArgs false
namespace Go.Proofs.YtfelbhpgifgkcaaGreat.Nm

/-- P30. -/
theorem found_iff {t : List Fil} {path : List Int} (hl : okLook t path = true) (s : Bs) : decide (s ∈ foundNames t path) = canFind t path s := by
  rw [canFind_iff hl]; exact decide_eq_decide.2 (mem_foundNames hl s)
theorem found_in_all {t : List Fil} {path : List Int} (hl : okLook t path = true) {s : Bs} (h : s ∈ foundNames t path) : s ∈ modulesOf t ++ packagesOf t := by
  have h2 := found_all (okLook_tree hl) ((mem_foundNames hl s).1 h)
  rw [← allNames_eq (okLook_tree hl), sortUp_mem] at h2
  exact h2

/-- P31. -/
theorem mem_hiddenGo (t : List Fil) (path : List Int) : ∀ (l : List Fil) (i x : Int), x ∈ hiddenGo t path l i ↔ ∃ k : Nat, ∃ h : k < l.length, x = i + k ∧ foundFor t path l[k] ≠ i + k
  | [], i, x => by simp [hiddenGo]
  | f :: r, i, x => by
    unfold hiddenGo
    rw [List.mem_append, mem_hiddenGo t path r (i + 1) x]
    constructor
    · rintro (h | ⟨k, hk, rfl, h⟩)
      · by_cases e : foundFor t path f = i
        · rw [if_pos e] at h; cases h
        · rw [if_neg e] at h
          simp at h
          exact ⟨0, by simp, by simpa using h, by simpa using e⟩
      · refine ⟨k + 1, by simpa using hk, by omega, ?_⟩
        simpa [Int.add_assoc, Int.add_comm 1] using h
    · rintro ⟨k, hk, rfl, h⟩
      cases k with
      | zero =>
        left
        have e : ¬ foundFor t path f = i := by simpa using h
        rw [if_neg e]; simp
      | succ k =>
        right
        refine ⟨k, by simpa using hk, by omega, ?_⟩
        simpa [Int.add_assoc, Int.add_comm 1] using h
theorem mem_hidden {t : List Fil} {path : List Int} (hl : okLook t path = true) (k : Nat) (h : k < t.length) : (k : Int) ∈ hidden t path ↔ foundFor t path t[k] ≠ k := by
  unfold hidden
  rw [if_pos hl, mem_hiddenGo]
  constructor
  · rintro ⟨j, hj, e, h2⟩
    have : j = k := by omega
    subst this
    simpa using h2
  · intro h2
    exact ⟨k, h, by omega, by simpa using h2⟩
theorem hiddenGo_up (t : List Fil) (path : List Int) : ∀ (l : List Fil) (i : Int), (hiddenGo t path l i).Pairwise (fun a b => a < b)
  | [], i => by simp [hiddenGo]
  | f :: r, i => by
    unfold hiddenGo
    rw [List.pairwise_append]
    refine ⟨?_, hiddenGo_up t path r (i + 1), ?_⟩
    · split <;> simp
    · intro a ha b hb
      obtain ⟨k, hk, rfl, _⟩ := (mem_hiddenGo t path r (i + 1) b).1 hb
      split at ha
      · cases ha
      · simp at ha; omega
theorem hidden_up (t : List Fil) (path : List Int) : (hidden t path).Pairwise (fun a b => a < b) := by
  unfold hidden; split
  · exact hiddenGo_up t path t 0
  · exact List.Pairwise.nil
theorem foundFor_eq {t : List Fil} {path : List Int} (hl : okLook t path = true) {f : Fil} (hf : f ∈ t) : foundFor t path f = (findSpec t path (modOf f)).file := by
  have ho := okTree_file (okLook_tree hl) hf
  unfold foundFor findSpec modOf
  rw [if_pos hl, if_pos ho]
/-- The modules of the first files that are not hidden. -/
def seenNames (t : List Fil) (path : List Int) : Nat → List Bs
  | 0 => []
  | k + 1 => seenNames t path k ++ (match t[k]? with
    | some f => if foundFor t path f = k then [modOf f] else []
    | none => [])
theorem seenNames_mem {t : List Fil} {path : List Int} {s : Bs} : ∀ {k : Nat}, s ∈ seenNames t path k → ∃ j, j < k ∧ ∃ h : j < t.length, foundFor t path t[j] = j ∧ modOf t[j] = s
  | 0, h => by simp [seenNames] at h
  | k + 1, h => by
    unfold seenNames at h
    rcases List.mem_append.1 h with h | h
    · obtain ⟨j, h1, h2⟩ := seenNames_mem h
      exact ⟨j, by omega, h2⟩
    · split at h
      · rename_i f hf
        obtain ⟨hk, rfl⟩ := List.getElem?_eq_some_iff.1 hf
        split at h
        · rename_i e
          simp at h
          exact ⟨k, by omega, hk, e, h.symm⟩
        · cases h
      · cases h
theorem seenNames_len (t : List Fil) (path : List Int) : ∀ k, (seenNames t path k).length ≤ k
  | 0 => by simp [seenNames]
  | k + 1 => by
    have := seenNames_len t path k
    unfold seenNames
    rw [List.length_append]
    split
    · split <;> simp <;> omega
    · simp; omega
theorem seen_new {t : List Fil} {path : List Int} (hl : okLook t path = true) {k : Nat} (h : k < t.length) (hf : foundFor t path t[k] = k) : modOf t[k] ∉ seenNames t path k := by
  intro hm
  obtain ⟨j, hj, hjl, h1, h2⟩ := seenNames_mem hm
  rw [foundFor_eq hl (List.getElem_mem hjl), h2, ← foundFor_eq hl (List.getElem_mem h), hf] at h1
  omega
theorem seen_step {t : List Fil} {path : List Int} {k : Nat} (h : k < t.length) (hf : foundFor t path t[k] = k) : seenNames t path (k + 1) = seenNames t path k ++ [modOf t[k]] := by
  simp [seenNames, List.getElem?_eq_getElem h, hf]
theorem seen_skip {t : List Fil} {path : List Int} {k : Nat} (h : k < t.length) (hf : foundFor t path t[k] ≠ k) : seenNames t path (k + 1) = seenNames t path k := by
  simp [seenNames, List.getElem?_eq_getElem h, hf]

/-- P33. -/
theorem whoHides_facts {t : List Fil} {path : List Int} {i : Int} (h : 0 ≤ (whoHides t path i).1) :
    okLook t path = true ∧ ∃ (k : Nat) (hk : k < t.length), i = k ∧ ((whoHides t path i).1 = 0 ↔ (k : Int) ∉ hidden t path) ∧ (0 ≤ (whoHides t path i).2 ↔ (whoHides t path i).1 = 2) ∧
      ((whoHides t path i).2 < 0 ∨ ∃ (j : Nat) (hj : j < t.length), (whoHides t path i).2 = j ∧ j ≠ k ∧ modOf t[j] = modOf t[k]) := by
  unfold whoHides at h ⊢
  cases hl : okLook t path
  · rw [hl] at h; simp at h
  · rw [hl] at h
    by_cases hi : inr i 0 ((t.length : Int) - 1) = true
    · rw [hi] at h ⊢
      unfold inr at hi
      simp only [Bool.and_eq_true, decide_eq_true_eq] at hi
      obtain ⟨k, rfl⟩ := Int.eq_ofNat_of_zero_le hi.1
      have hk : k < t.length := by omega
      refine ⟨rfl, k, hk, rfl, ?_⟩
      rw [mem_hidden hl k hk]
      simp only [Bool.and_self, if_true, Int.toNat_natCast, List.getElem?_eq_getElem hk] at h ⊢
      by_cases e : foundFor t path t[k] = k
      · simp [e]
      · rw [if_neg e]
        by_cases e2 : t[k].root ∈ path
        · rw [if_pos e2]
          by_cases e3 : 0 ≤ foundFor t path t[k]
          · rw [if_pos e3]
            refine ⟨by simp [e], by simp [e3], .inr ?_⟩
            have hff := foundFor_eq hl (List.getElem_mem hk)
            rw [hff] at e3
            obtain ⟨f, h1, h2, _⟩ := findSpec_file (t := t) (path := path) (s := modOf t[k]) (by omega)
            obtain ⟨j, hj⟩ := Int.eq_ofNat_of_zero_le e3
            rw [hj, Int.toNat_natCast] at h1
            obtain ⟨hjl, rfl⟩ := List.getElem?_eq_some_iff.1 h1
            refine ⟨j, hjl, by rw [hff, hj], ?_, h2⟩
            rintro rfl
            exact e (by rw [hff, hj])
          · rw [if_neg e3]
            refine ⟨by simp [e], by simp, .inl (by simp)⟩
        · rw [if_neg e2]
          exact ⟨by simp [e], by simp, .inl (by simp)⟩
    · have hi' : inr i 0 ((t.length : Int) - 1) = false := by simpa using hi
      rw [hi'] at h; simp at h

/-- P34. -/
theorem isPack_roots {t : List Fil} {path : List Int} {s : Bs} (hl : okLook t path = true) : isPack t path s = decide (0 < (findSpec t path s).roots.length) := by
  rw [isPack_iff hl]
  unfold findSpec
  rw [if_pos hl]
  exact decide_eq_decide.2 (by rw [List.length_pos_iff])

/-- P35. -/
theorem kids_count {t : List Fil} {path : List Int} (p : Bs) : ((foundNames t path).filter (fun s => decide (parentOf s = p))).length = (kidsOf t path p).length := by
  unfold kidsOf
  rw [List.length_map]
  congr 1
  refine List.filter_congr (fun s hs => ?_)
  rw [parentOf_of (foundNames_vn hs).2]
theorem kid_mem {t : List Fil} {path : List Int} {p s : Bs} (hs : s ∈ foundNames t path) (h : parentOf s = p) : lastOf s ∈ kidsOf t path p := by
  have hv := (foundNames_vn hs).2
  unfold kidsOf
  rw [List.mem_map]
  refine ⟨s, List.mem_filter.2 ⟨hs, ?_⟩, ?_⟩
  · rw [parentOf_of hv] at h; simpa using h
  · unfold lastOf; rw [if_pos hv]
end Go.Proofs.YtfelbhpgifgkcaaGreat.Nm
