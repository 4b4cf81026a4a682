/- Plain facts on finders: what is in a package, and which files are hidden. -/
import Derived.Test.YtolhgklbkjdpiaaPlainH
set_option linter.unusedVariables false
set_option linter.unusedSimpArgs false
namespace Go.Proofs.Ytolhgklbkjdpiaa.Nm

theorem above_app {p s : Bs} (hp : vpk p = true) (hs : vp s = true) (hn : vn (child p s) = true) : above (child p s) = (if p = [] then [] else above p) ++ [child p s] := by
  have h46 := split_nodot (vp_nodot hs)
  by_cases h0 : p = []
  · subst h0
    have : child [] s = s := by simp [child]
    rw [this]
    simp [above, h46, join]
  · have e : child p s = p ++ 46 :: s := by simp [child, h0]
    have e2 : split (child p s) = split p ++ [s] := by rw [e, split_append, h46]
    rw [if_neg h0]
    unfold above
    rw [e2, List.length_append, List.length_singleton, List.range_succ, List.map_append, List.map_singleton, List.take_of_length_le (by simp), ← e2, join_split]
    congr 1
    refine List.map_congr_left (fun i hi => ?_)
    rw [List.mem_range] at hi
    rw [e2, List.take_append_of_le_length (by omega)]

theorem parent_name {s : Bs} (h : vn s = true) : above s = (if parent s = [] then [] else above (parent s)) ++ [s] := by
  have hp := vpk_parent h
  have hl := getLast_vp h
  have hc := child_parent_last s h
  have := above_app hp hl (by rw [hc]; exact h)
  rw [hc] at this
  exact this

/-- A name is found over the roots that were found for the one above. -/
theorem byParts_step {t : List Fil} {path : List Int} {s : Bs} (h : vn s = true) : byParts t path s = overSpc t (if parent s = [] then path else (byParts t path (parent s)).roots) s := by
  unfold byParts
  rw [h, if_pos rfl, parent_name h]
  unfold partsGo
  rw [List.foldl_append]
  by_cases h0 : parent s = []
  · simp [h0]
  · rw [if_neg h0, if_neg h0, parent_vn h h0, if_pos rfl]
    rfl

theorem isPack_of {t : List Fil} {path : List Int} {p : Bs} (hl : okLook t path = true) (h : (byParts t path p).roots ≠ []) : isPack t path p = true := by
  have h2 := byParts_ok t path p
  unfold isPack findSpec
  rw [if_pos hl]
  rcases h2 with e | e | e | e
  · rw [e] at h; exact absurd rfl h
  · exact absurd e.2.1 h
  · simp [e.1]
  · simp [e.1]
theorem isPack_iff {t : List Fil} {path : List Int} {p : Bs} (hl : okLook t path = true) : isPack t path p = decide ((byParts t path p).roots ≠ []) := by
  by_cases h : (byParts t path p).roots = []
  · rw [decide_eq_false (by simpa using h)]
    have h2 := byParts_ok t path p
    unfold isPack findSpec
    rw [if_pos hl]
    rcases h2 with e | e | e | e
    · rw [e]; rfl
    · simp [e.1]
    · exact absurd h e.2.1
    · exact absurd h e.2.2
  · rw [decide_eq_true h]; exact isPack_of hl h

theorem ltB_app (p : Bs) : ∀ (a b : Bs), ltB (p ++ a) (p ++ b) = ltB a b := by
  intro a b
  induction p with
  | nil => rfl
  | cons c r ih => simp [ltB, ih]
theorem ltB_child (p a b : Bs) : ltB (child p a) (child p b) = ltB a b := by
  unfold child
  split
  · rfl
  · rw [show p ++ 46 :: a = (p ++ [46]) ++ a by simp, show p ++ 46 :: b = (p ++ [46]) ++ b by simp, ltB_app]

theorem foundNames_vn {t : List Fil} {path : List Int} {s : Bs} (h : s ∈ foundNames t path) : okLook t path = true ∧ vn s = true := by
  unfold foundNames at h
  cases hl : okLook t path
  · rw [hl] at h; simp at h
  · rw [hl, if_pos rfl, List.mem_filter] at h
    exact ⟨rfl, allNames_vn (okLook_tree hl) h.1⟩
theorem kids_up (t : List Fil) (path : List Int) (p : Bs) : Up (kidsOf t path p) := by
  unfold kidsOf
  have h1 := up_filter (fun s => decide (parent s = p)) (foundNames_up t path)
  have h2 : ∀ s ∈ (foundNames t path).filter (fun s => decide (parent s = p)), vn s = true ∧ parent s = p := fun s hs => by
    rw [List.mem_filter] at hs
    exact ⟨(foundNames_vn hs.1).2, by simpa using hs.2⟩
  unfold Up at h1 ⊢
  rw [List.pairwise_map]
  refine List.Pairwise.imp_of_mem ?_ h1
  intro a b ha hb hab
  have e1 := child_parent_last a (h2 a ha).1
  have e2 := child_parent_last b (h2 b hb).1
  rw [(h2 a ha).2] at e1
  rw [(h2 b hb).2] at e2
  rw [← e1, ← e2, ltB_child] at hab
  exact hab
theorem sortUp_of_up {l : List Bs} (h : Up l) : sortUp l = l := up_ext (sortUp_up l) h (fun x => sortUp_mem x l)

/-- The model's way to tell what is in a package. -/
def kidsOf' (t : List Fil) (path : List Int) (p : Bs) : List Bs :=
  if okLook t path && (p.isEmpty || isPack t path p) then sortUp (((allNames t).filter (fun s => decide (parent s = p) && decide ((byParts t path s).kind ≠ 0))).map last) else []
theorem kids_eq (t : List Fil) (path : List Int) (p : Bs) : kidsOf' t path p = kidsOf t path p := by
  unfold kidsOf'
  cases hl : okLook t path
  · simp [kidsOf, foundNames, hl]
  · have e : ((allNames t).filter (fun s => decide (parent s = p) && decide ((byParts t path s).kind ≠ 0))).map last = kidsOf t path p := by
      unfold kidsOf foundNames
      rw [if_pos hl, List.filter_filter]
    rw [e]
    by_cases hp : (p.isEmpty || isPack t path p) = true
    · rw [hp]
      simp only [Bool.and_self, if_true]
      exact sortUp_of_up (kids_up t path p)
    · have hp' : (p.isEmpty || isPack t path p) = false := by simpa using hp
      rw [hp']
      simp only [Bool.and_false, Bool.false_eq_true, if_false]
      rw [Bool.or_eq_false_iff] at hp'
      have h0 : p ≠ [] := by simpa using hp'.1
      unfold kidsOf
      symm
      rw [List.map_eq_nil_iff, List.filter_eq_nil_iff]
      intro s hs
      simp only [decide_eq_true_eq]
      intro e
      have hv := (foundNames_vn hs).2
      have hk := (mem_foundNames hl s).1 hs
      rw [byParts_step hv, e, if_neg h0] at hk
      have : (byParts t path p).roots ≠ [] := fun e2 => by rw [e2, overSpc_nil] at hk; exact hk rfl
      rw [isPack_of hl this] at hp'
      exact absurd hp'.2 (by simp)

theorem hiddenGo_len (t : List Fil) (path : List Int) : ∀ (l : List Fil) (i : Int), (hiddenGo t path l i).length ≤ l.length
  | [], i => by simp [hiddenGo]
  | f :: r, i => by
    have := hiddenGo_len t path r (i + 1)
    unfold hiddenGo
    rw [List.length_append]
    split <;> simp <;> omega
theorem hiddenGo_app (t : List Fil) (path : List Int) : ∀ (l m : List Fil) (i : Int), hiddenGo t path (l ++ m) i = hiddenGo t path l i ++ hiddenGo t path m (i + l.length)
  | [], m, i => by simp [hiddenGo]
  | f :: r, m, i => by
    have e1 : hiddenGo t path (f :: r) i = (if foundFor t path f = i then [] else [i]) ++ hiddenGo t path r (i + 1) := rfl
    have e2 : hiddenGo t path (f :: r ++ m) i = (if foundFor t path f = i then [] else [i]) ++ hiddenGo t path (r ++ m) (i + 1) := rfl
    rw [e1, e2, hiddenGo_app t path r m (i + 1), List.append_assoc, List.length_cons]
    rw [show i + 1 + (r.length : Int) = i + ((r.length + 1 : Nat) : Int) by push_cast; omega]
theorem hidden_snoc (t : List Fil) (path : List Int) (k : Nat) (h : k < t.length) : hiddenGo t path (t.take (k + 1)) 0 = hiddenGo t path (t.take k) 0 ++ (if foundFor t path t[k] = k then [] else [(k : Int)]) := by
  rw [List.take_succ_eq_append_getElem h, hiddenGo_app]
  have : (t.take k).length = k := by rw [List.length_take]; omega
  rw [this]
  simp [hiddenGo]
theorem hidden_at {t : List Fil} {path : List Int} (h : okLook t path = true) : hiddenGo t path (t.take t.length) 0 = hidden t path := by rw [List.take_length, hidden, if_pos h]

/-- Why a file is not found. -/
def whoHides (t : List Fil) (path : List Int) (i : Int) : Int × Int :=
  if okLook t path && inr i 0 ((t.length : Int) - 1) then
    match t[i.toNat]? with
    | some f => if foundFor t path f = i then (0, -1) else if f.root ∈ path then (if 0 ≤ foundFor t path f then (2, foundFor t path f) else (3, -1)) else (1, -1)
    | none => (-1, -1)
  else (-1, -1)

theorem namesAbove_le3 (l : Bs) : (namesAbove l).length ≤ 3 := by
  unfold namesAbove
  split
  · rename_i h
    rw [above_len]; exact (vps_iff.1 (show vps (split l) = true from h)).1.2
  · simp
end Go.Proofs.Ytolhgklbkjdpiaa.Nm
