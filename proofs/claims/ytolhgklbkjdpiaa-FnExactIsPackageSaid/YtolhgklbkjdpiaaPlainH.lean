/- Plain facts on finders: the model's way and the program's way come to the same. -/
import Derived.Test.YtolhgklbkjdpiaaPlainG
set_option linter.unusedVariables false
set_option linter.unusedSimpArgs false
namespace Go.Proofs.Ytolhgklbkjdpiaa.Nm

theorem dir_of_init {t : List Fil} {r : Int} {n : Bs} (h : 0 ≤ firstAt t (r, n, [], true)) (hn : n ≠ []) : dirIn t r n = true := by
  obtain ⟨f, h1, h2⟩ := firstAt_at (t := t) (p := (r, n, [], true)) (by omega)
  have hm := List.mem_of_getElem? h1
  simp only [place, Prod.mk.injEq] at h2
  obtain ⟨e1, e2, e3, e4⟩ := h2
  unfold dirIn
  rw [Bool.or_eq_true]
  left
  rw [List.any_eq_true]
  refine ⟨f, hm, ?_⟩
  have hu : under n n = true := under_self
  have hne : n.isEmpty = false := by simpa using hn
  simp [e1, e2, hu, hne]

/-- What a find looks like. -/
def SpcOk (t : List Fil) (sp : Spc) : Prop := sp = noSpc ∨ (sp.kind = 1 ∧ sp.roots = [] ∧ 0 ≤ sp.file ∧ sp.file < t.length) ∨ (sp.kind = 2 ∧ sp.roots ≠ [] ∧ 0 ≤ sp.file ∧ sp.file < t.length) ∨ (sp.kind = 3 ∧ sp.file = -1 ∧ sp.roots ≠ [])
theorem rootSpc_ok (t : List Fil) (r : Int) (n : Bs) : SpcOk t (rootSpc t r n) := by
  have h1 := firstAt_ge t (r, n, [], true)
  have h2 := firstAt_ge t (r, parent n, last n, false)
  unfold rootSpc SpcOk
  split
  · right; right; left; simp; omega
  · split
    · right; left; simp; omega
    · split
      · right; right; right; simp
      · left; rfl
theorem overGo_ok (t : List Fil) (n : Bs) : ∀ (rs ds : List Int), SpcOk t (overGo t n rs ds)
  | [], ds => by
    unfold overGo; split
    · exact .inl rfl
    · rename_i h; exact .inr (.inr (.inr ⟨rfl, rfl, h⟩))
  | r :: rs, ds => by
    unfold overGo; split
    · exact overGo_ok t n rs _
    · exact rootSpc_ok t r n
theorem overSpc_ok (t : List Fil) (n : Bs) (rs : List Int) : SpcOk t (overSpc t rs n) := overGo_ok t n rs []
theorem SpcOk.roots {t : List Fil} {sp : Spc} (h : SpcOk t sp) (h2 : sp.kind ≠ 2) (h3 : sp.kind ≠ 3) : sp.roots = [] := by
  rcases h with rfl | h | h | h
  · rfl
  · exact h.2.1
  · exact absurd h.1 h2
  · exact absurd h.1 h3
theorem SpcOk.none {t : List Fil} {sp : Spc} (h : SpcOk t sp) (h0 : sp.kind = 0) : sp = noSpc := by
  rcases h with h | h | h | h
  · exact h
  all_goals omega
theorem SpcOk.file {t : List Fil} {sp : Spc} (h : SpcOk t sp) : -1 ≤ sp.file ∧ sp.file < t.length := by
  rcases h with rfl | h | h | h
  · simp [noSpc]; omega
  all_goals omega
theorem partsGo_ok (t : List Fil) : ∀ (ns : List Bs) (sp : Spc), SpcOk t sp ∨ ns ≠ [] → SpcOk t (partsGo t ns sp)
  | [], sp, h => by rcases h with h | h; exact h; exact absurd rfl h
  | n :: r, sp, _ => by
    unfold partsGo; rw [List.foldl_cons]
    exact partsGo_ok t r _ (.inl (overSpc_ok t n _))
theorem above_pos (s : Bs) : above s ≠ [] := by
  intro h
  have := above_len s
  have h2 := split_pos s
  rw [h] at this; simp at this; omega
theorem byParts_ok (t : List Fil) (path : List Int) (s : Bs) : SpcOk t (byParts t path s) := by
  unfold byParts; split
  · exact partsGo_ok t _ _ (.inr (above_pos s))
  · exact .inl rfl
theorem findSpec_ok (t : List Fil) (path : List Int) (s : Bs) : SpcOk t (findSpec t path s) := by
  unfold findSpec; split
  · exact byParts_ok t path s
  · exact .inl rfl
theorem findIn_ok (t : List Fil) (path : List Int) (p s : Bs) : SpcOk t (findIn t path p s) := by
  unfold findIn; split
  · exact overSpc_ok t _ _
  · exact .inl rfl

theorem partsGo_drop (t : List Fil) (ns : List Bs) (k : Nat) (sp : Spc) : partsGo t ns sp = partsGo t (ns.drop k) (partsGo t (ns.take k) sp) := by
  unfold partsGo
  rw [← List.foldl_append, List.take_append_drop]
/-- Where what was found has no roots, nothing is found in it. -/
theorem partsGo_end (t : List Fil) (ns : List Bs) (k : Nat) (h : k < ns.length) (h0 : 0 < k) (sp : Spc) (h2 : (partsGo t (ns.take k) sp).kind ≠ 2) (h3 : (partsGo t (ns.take k) sp).kind ≠ 3) : partsGo t ns sp = noSpc := by
  rw [partsGo_drop t ns k sp]
  have hok : SpcOk t (partsGo t (ns.take k) sp) := partsGo_ok t _ _ (.inr (by
    intro e
    have h5 := congrArg List.length e
    rw [List.length_take, Nat.min_eq_left (by omega)] at h5
    simp only [List.length_nil] at h5
    exact absurd h5 (by omega)))
  refine partsGo_none t _ _ (hok.roots h2 h3) (fun e => ?_)
  have := congrArg List.length e
  rw [List.length_drop] at this; simp at this; omega

theorem join_ne {l : Bs} (h : vn l = true) (k : Nat) (h1 : 1 ≤ k) : join ((split l).take k) ≠ [] := vn_ne (vn_join (take_vps h k h1))
/-- A name above is a part in the package ahead of it. -/
theorem above_child {l : Bs} (h : vn l = true) (i : Nat) (hi : i < (split l).length) (hi' : i < (above l).length) : (above l)[i] = child (join ((split l).take i)) (split l)[i] := by
  rw [above_get, join_snoc _ _ hi]
  unfold child
  by_cases h0 : i = 0
  · subst h0; simp [join]
  · rw [if_neg h0, if_neg (join_ne h i (by omega))]; simp
theorem vn_parts {l : Bs} (h : vn l = true) (i : Nat) (hi : i < (split l).length) : vpk (join ((split l).take i)) = true ∧ vp (split l)[i] = true ∧ vn (child (join ((split l).take i)) (split l)[i]) = true := by
  have hi' : i < (above l).length := by rw [above_len]; exact hi
  refine ⟨?_, (vps_iff.1 h).2 _ (List.getElem_mem hi), ?_⟩
  · by_cases h0 : i = 0
    · subst h0; exact vpk_nil
    · have := vn_join (take_vps h i (by omega))
      exact vpk_iff.2 (.inr this)
  · rw [← above_child h i hi hi']
    exact above_vn h _ (List.getElem_mem hi')
theorem child_back {p s : Bs} (hp : vpk p = true) (hs : vp s = true) (hn : vn (child p s) = true) : parent (child p s) = p ∧ last (child p s) = s ∧ childOf p s = child p s := by
  have e : childOf p s = child p s := by unfold childOf; simp [hp, hs, hn]
  have h := parent_childOf (p := p) (s := s) (by rw [e]; exact vn_ne hn)
  rw [e] at h
  refine ⟨?_, ?_, e⟩
  · have := h.1; unfold parentOf at this; rwa [if_pos hn] at this
  · have := h.2.1; unfold lastOf at this; rwa [if_pos hn] at this
theorem childOf_cases (p s : Bs) : (childOf p s ≠ [] ∧ vpk p = true ∧ vp s = true ∧ vn (child p s) = true ∧ childOf p s = child p s) ∨ (childOf p s = [] ∧ (vpk p && vp s && vn (child p s)) = false) := by
  unfold childOf
  cases h : vpk p && vp s && vn (child p s)
  · exact .inr ⟨by simp, rfl⟩
  · simp only [Bool.and_eq_true] at h
    exact .inl ⟨by simpa using vn_ne h.2, h.1.1, h.1.2, h.2, by simp⟩

theorem above_last' (l : Bs) : ∃ r, above l = r ++ [l] := by
  have hl := above_len l
  have h1 := split_pos l
  refine ⟨(above l).take ((above l).length - 1), ?_⟩
  have h2 := above_last l (by omega)
  have h3 := List.take_append_drop ((above l).length - 1) (above l)
  rw [List.drop_eq_getElem_cons (by omega), h2, show (above l).length - 1 + 1 = (above l).length by omega, List.drop_length] at h3
  exact h3.symm
theorem mem_above_self (l : Bs) : l ∈ above l := by
  obtain ⟨r, h⟩ := above_last' l
  rw [h]; simp
theorem mem_above_child {p s : Bs} (hp : vpk p = true) (hs : vp s = true) (hn : vn (child p s) = true) (x : Bs) : x ∈ above (child p s) ↔ x = child p s ∨ (p ≠ [] ∧ x ∈ above p) := by
  have h46 := split_nodot (vp_nodot hs)
  by_cases h0 : p = []
  · subst h0
    have : child [] s = s := by simp [child]
    rw [this]
    simp [above, h46, join]
  · have e : child p s = p ++ 46 :: s := by simp [child, h0]
    have e2 : split (child p s) = split p ++ [s] := by rw [e, split_append, h46]
    simp only [h0, ne_eq, not_false_eq_true, true_and]
    unfold above
    rw [e2]
    simp only [List.mem_map, List.mem_range, List.length_append, List.length_singleton]
    constructor
    · rintro ⟨i, hi, rfl⟩
      by_cases hl : i < (split p).length
      · right
        exact ⟨i, hl, by rw [List.take_append_of_le_length (by omega)]⟩
      · left
        have : i = (split p).length := by omega
        subst this
        rw [List.take_of_length_le (by simp), ← e2, join_split]
    · rintro (rfl | ⟨i, hi, rfl⟩)
      · exact ⟨(split p).length, by omega, by rw [List.take_of_length_le (by simp), ← e2, join_split]⟩
      · exact ⟨i, by omega, by rw [List.take_append_of_le_length (by omega)]⟩

/-- The names above the module of a file. -/
theorem mem_above_mod {f : Fil} (h : okFil f = true) (x : Bs) : x ∈ above (modName f) ↔ x = modName f ∨ (f.pack ≠ [] ∧ x ∈ above f.pack) := by
  have hv := (okFil_mod h).2
  unfold modName at hv ⊢
  cases hi : f.init
  · simp only [hi, Bool.false_eq_true, if_false] at hv ⊢
    have h' := h
    unfold okFil at h'
    simp only [hi, Bool.and_eq_true, Bool.false_eq_true, if_false] at h'
    exact mem_above_child h'.1.1.2 h'.2.1 hv x
  · simp only [hi, if_true] at hv ⊢
    have := mem_above_self f.pack
    constructor
    · intro hx; exact .inr ⟨vn_ne hv, hx⟩
    · rintro (rfl | ⟨_, hx⟩)
      · exact this
      · exact hx

theorem mem_packs {t : List Fil} (x : Bs) : x ∈ packs t ↔ ∃ f ∈ t, f.pack ≠ [] ∧ x ∈ above f.pack := by
  unfold packs
  rw [List.mem_flatMap]
  constructor
  · rintro ⟨f, hf, hx⟩
    cases hp : f.pack with
    | nil => simp [hp] at hx
    | cons a b => exact ⟨f, hf, by simp [hp], by simpa [hp] using hx⟩
  · rintro ⟨f, hf, hp, hx⟩
    exact ⟨f, hf, by rw [if_neg (by simpa using hp)]; exact hx⟩
theorem mem_allNames {t : List Fil} (ht : okTree t = true) (x : Bs) : x ∈ allNames t ↔ ∃ f ∈ t, x ∈ above (modName f) := by
  unfold allNames
  rw [sortUp_mem, List.mem_flatMap]
/-- The names of modules and packages are all names. -/
theorem allNames_eq {t : List Fil} (ht : okTree t = true) : sortUp (modulesOf t ++ packagesOf t) = allNames t := by
  refine up_ext (sortUp_up _) (sortUp_up _) (fun x => ?_)
  have hall := List.all_eq_true.1 (okTree_all ht).1
  rw [mem_allNames ht, sortUp_mem, List.mem_append, modulesOf, packagesOf, if_pos ht, if_pos ht, sortUp_mem, sortUp_mem, List.mem_map, mem_packs]
  constructor
  · rintro (⟨f, hf, rfl⟩ | ⟨f, hf, hp, hx⟩)
    · exact ⟨f, hf, mem_above_self _⟩
    · exact ⟨f, hf, (mem_above_mod (hall f hf) x).2 (.inr ⟨hp, hx⟩)⟩
  · rintro ⟨f, hf, hx⟩
    rcases (mem_above_mod (hall f hf) x).1 hx with rfl | ⟨hp, hx⟩
    · exact .inl ⟨f, hf, rfl⟩
    · exact .inr ⟨f, hf, hp, hx⟩
theorem allNames_vn {t : List Fil} (ht : okTree t = true) {x : Bs} (hx : x ∈ allNames t) : vn x = true := by
  obtain ⟨f, hf, h⟩ := (mem_allNames ht x).1 hx
  exact above_vn (okFil_mod (List.all_eq_true.1 (okTree_all ht).1 f hf)).2 x h

theorem overGo_some (t : List Fil) (n : Bs) : ∀ (rs ds : List Int), (overGo t n rs ds).kind ≠ 0 → ds ≠ [] ∨ ∃ r ∈ rs, (rootSpc t r n).kind ≠ 0
  | [], ds, h => by
    left; intro e; subst e; exact h rfl
  | r :: rs, ds, h => by
    by_cases hr : (rootSpc t r n).kind = 0
    · have e := (rootSpc_ok t r n).none hr
      unfold overGo at h
      rw [if_pos (by rw [e]; rfl)] at h
      rcases overGo_some t n rs _ h with h1 | ⟨r', h1, h2⟩
      · rw [e] at h1; left; simpa [noSpc] using h1
      · exact .inr ⟨r', by simp [h1], h2⟩
    · exact .inr ⟨r, by simp, hr⟩
theorem partsGo_some (t : List Fil) (s : Bs) (sp : Spc) (h : (partsGo t (above s) sp).kind ≠ 0) : ∃ r, (rootSpc t r s).kind ≠ 0 := by
  obtain ⟨q, hq⟩ := above_last' s
  rw [hq] at h
  unfold partsGo at h
  rw [List.foldl_append] at h
  rcases overGo_some t s _ _ h with h1 | ⟨r, _, h2⟩
  · exact absurd rfl h1
  · exact ⟨r, h2⟩
/-- What is found has a file or a directory. -/
theorem found_all {t : List Fil} {path : List Int} {s : Bs} (ht : okTree t = true) (h : (byParts t path s).kind ≠ 0) : s ∈ allNames t := by
  unfold byParts at h
  cases hv : vn s
  · rw [hv] at h; exact absurd rfl h
  rw [hv, if_pos rfl] at h
  obtain ⟨r, hr⟩ := partsGo_some t s _ h
  have hall := List.all_eq_true.1 (okTree_all ht).1
  rw [mem_allNames ht]
  unfold rootSpc at hr
  split at hr
  · obtain ⟨f, h1, h2⟩ := firstAt_at (t := t) (p := (r, s, [], true)) (by omega)
    simp only [place, Prod.mk.injEq] at h2
    refine ⟨f, List.mem_of_getElem? h1, ?_⟩
    have : modName f = s := by unfold modName; simp [h2]
    rw [this]; exact mem_above_self s
  · split at hr
    · obtain ⟨f, h1, h2⟩ := firstAt_at (t := t) (p := (r, parent s, last s, false)) (by omega)
      simp only [place, Prod.mk.injEq] at h2
      refine ⟨f, List.mem_of_getElem? h1, ?_⟩
      have : modName f = s := by unfold modName; simp [h2, child_parent_last s hv]
      rw [this]; exact mem_above_self s
    · split at hr
      · rename_i hd
        unfold dirIn at hd
        rw [Bool.or_eq_true] at hd
        rcases hd with hd | hd
        · rw [List.any_eq_true] at hd
          obtain ⟨f, hf, h3⟩ := hd
          simp only [Bool.and_eq_true, Bool.not_eq_true', decide_eq_true_eq] at h3
          obtain ⟨⟨_, h4⟩, h5⟩ := h3
          have hp : f.pack ≠ [] := by simpa using h4
          have hpv := vn_of_vpk (okFil_pack (hall f hf)) hp
          exact ⟨f, hf, (mem_above_mod (hall f hf) s).2 (.inr ⟨hp, (mem_above hpv hv).2 h5⟩)⟩
        · exact absurd (by simpa using hd) (vn_ne hv)
      · exact absurd rfl hr
theorem findSpec_vn {t : List Fil} {path : List Int} {s : Bs} (h : (findSpec t path s).kind ≠ 0) : okLook t path = true ∧ vn s = true := by
  unfold findSpec at h
  cases hl : okLook t path
  · rw [hl] at h; exact absurd rfl h
  · rw [hl, if_pos rfl] at h
    refine ⟨rfl, ?_⟩
    unfold byParts at h
    cases hv : vn s
    · rw [hv] at h; exact absurd rfl h
    · rfl

theorem okLook_tree {t : List Fil} {path : List Int} (h : okLook t path = true) : okTree t = true := by unfold okLook at h; simp at h; exact h.2
theorem okLook_path {t : List Fil} {path : List Int} (h : okLook t path = true) : okPath path = true := by unfold okLook at h; simp at h; exact h.1
theorem up_filter {l : List Bs} (q : Bs → Bool) (h : Up l) : Up (l.filter q) := List.Pairwise.sublist List.filter_sublist h
theorem foundNames_up (t : List Fil) (path : List Int) : Up (foundNames t path) := by
  unfold foundNames; split
  · exact up_filter _ (sortUp_up _)
  · exact List.Pairwise.nil
theorem mem_foundNames {t : List Fil} {path : List Int} (h : okLook t path = true) (s : Bs) : s ∈ foundNames t path ↔ (byParts t path s).kind ≠ 0 := by
  unfold foundNames
  rw [if_pos h, List.mem_filter]
  simp only [decide_eq_true_eq]
  exact ⟨fun h1 => h1.2, fun h1 => ⟨found_all (okLook_tree h) h1, h1⟩⟩

/-- The model's way to compare looks. -/
def sameLook (t u : List Fil) (path : List Int) : Bool := okTree t && okTree u && okPath path &&
  (sortUp (allNames t ++ allNames u)).all (fun s => sameSpc t u (byParts t path s) (byParts u path s))
/-- The program's way. -/
def sameLook' (t u : List Fil) (path : List Int) : Bool := okLook t path && okLook u path && decide (foundNames t path = foundNames u path) &&
  (foundNames t path).all (fun s => sameSpc t u (byParts t path s) (byParts u path s))
theorem sameSpc_none (t u : List Fil) : sameSpc t u noSpc noSpc = true := by simp [sameSpc, noSpc]
theorem sameLook_eq (t u : List Fil) (path : List Int) : sameLook' t u path = sameLook t u path := by
  unfold sameLook sameLook'
  cases ht : okTree t
  · simp [okLook, ht]
  cases hu : okTree u
  · simp [okLook, hu]
  cases hp : okPath path
  · simp [okLook, hp]
  have h1 : okLook t path = true := by simp [okLook, ht, hp]
  have h2 : okLook u path = true := by simp [okLook, hu, hp]
  rw [h1, h2]
  simp only [Bool.and_self, Bool.true_and]
  rw [Bool.eq_iff_iff]
  simp only [Bool.and_eq_true, decide_eq_true_eq, List.all_eq_true]
  constructor
  · rintro ⟨he, ha⟩ s hs
    by_cases hk : (byParts t path s).kind = 0
    · have hk2 : (byParts u path s).kind = 0 := Classical.byContradiction fun h3 => by
        have := (mem_foundNames h2 s).2 h3
        rw [← he] at this
        exact (mem_foundNames h1 s).1 this hk
      rw [(byParts_ok t path s).none hk, (byParts_ok u path s).none hk2]
      exact sameSpc_none t u
    · exact ha s ((mem_foundNames h1 s).2 hk)
  · intro ha
    have key : ∀ s, (byParts t path s).kind ≠ 0 ↔ (byParts u path s).kind ≠ 0 := fun s => by
      have same : s ∈ sortUp (allNames t ++ allNames u) → (byParts t path s).kind = (byParts u path s).kind := fun hs => by
        have := ha s hs
        unfold sameSpc at this
        simp only [Bool.and_eq_true, decide_eq_true_eq] at this
        exact this.1.1
      constructor
      · intro h3
        rw [← same ((sortUp_mem _ _).2 (by simp [found_all ht h3]))]; exact h3
      · intro h3
        rw [same ((sortUp_mem _ _).2 (by simp [found_all hu h3]))]; exact h3
    refine ⟨up_ext (foundNames_up t path) (foundNames_up u path) (fun s => ?_), fun s hs => ?_⟩
    · rw [mem_foundNames h1, mem_foundNames h2]; exact key s
    · exact ha s ((sortUp_mem _ _).2 (by simp [found_all ht ((mem_foundNames h1 s).1 hs)]))
end Go.Proofs.Ytolhgklbkjdpiaa.Nm
