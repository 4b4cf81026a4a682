/- Graphs of modules as plain data: what the names of a body are, and where a module leads. Nothing of the program stands here. -/
import Derived.Test.YtfchakfkgmhagaaGreatPlainG
set_option linter.unusedVariables false
set_option linter.unusedSimpArgs false
namespace Go.Proofs.YtfchakfkgmhagaaGreat.Nm

/-- The name that a statement in a package names. -/
def needBy (p : Bs) (s : Stm) : Bs := if s.kind = 0 ∨ s.kind = 2 then s.module else if s.kind = 1 then resolved p s.level s.module else []
def addOne (xs : List Bs) (s : Bs) : List Bs := if s ∈ xs then xs else xs ++ [s]
def addNew (xs ys : List Bs) : List Bs := ys.foldl addOne xs
def addNeed (p : Bs) (xs : List Bs) (s : Stm) : List Bs := if needBy p s = [] then xs else addOne xs (needBy p s)
def bodyNeeds (p : Bs) (b : List Stm) : List Bs := b.foldl (addNeed p) []
/-- Names, each with all above it ahead of it. -/
def full (ns : List Bs) : List Bs := ns.foldl (fun xs n => addNew xs (namesAbove n)) []
def fileFor (t : List Fil) (path : List Int) (s : Bs) : Option Fil := if (findSpec t path s).file < 0 then none else t[(findSpec t path s).file.toNat]?
def needsOf (t : List Fil) (path : List Int) (s : Bs) : List Bs := match fileFor t path s with
  | none => []
  | some f => bodyNeeds f.pack f.body
def edgesOf (t : List Fil) (path : List Int) (s : Bs) : List Bs := full (needsOf t path s)

/-! ### Lists in which each text stands once. -/
theorem mem_addOne (xs : List Bs) (s x : Bs) : x ∈ addOne xs s ↔ x ∈ xs ∨ x = s := by
  unfold addOne; split
  · rename_i h; constructor
    · exact .inl
    · rintro (h' | rfl) <;> assumption
  · simp
theorem nodup_addOne {xs : List Bs} (h : xs.Nodup) (s : Bs) : (addOne xs s).Nodup := by
  unfold addOne; split
  · exact h
  · rename_i hx
    rw [List.nodup_append]
    exact ⟨h, by simp, fun a ha b hb => by simp at hb; subst hb; rintro rfl; exact hx ha⟩
theorem mem_addNew (xs ys : List Bs) (x : Bs) : x ∈ addNew xs ys ↔ x ∈ xs ∨ x ∈ ys := by
  unfold addNew
  induction ys generalizing xs with
  | nil => simp
  | cons y r ih => rw [List.foldl_cons, ih, mem_addOne]; simp [or_assoc]
theorem nodup_addNew {xs : List Bs} (h : xs.Nodup) (ys : List Bs) : (addNew xs ys).Nodup := by
  unfold addNew
  induction ys generalizing xs with
  | nil => exact h
  | cons y r ih => exact ih (nodup_addOne h y)
theorem addOne_len (xs : List Bs) (s : Bs) : (addOne xs s).length ≤ xs.length + 1 := by unfold addOne; split <;> simp
theorem addNew_len (xs ys : List Bs) : (addNew xs ys).length ≤ xs.length + ys.length := by
  unfold addNew
  induction ys generalizing xs with
  | nil => simp
  | cons y r ih =>
    have h1 := ih (addOne xs y)
    have h2 := addOne_len xs y
    rw [List.foldl_cons, List.length_cons]; omega
theorem addNew_snoc (xs ys : List Bs) (k : Nat) (h : k < ys.length) : addNew xs (ys.take (k + 1)) = addOne (addNew xs (ys.take k)) ys[k] := by
  unfold addNew; rw [List.take_succ_eq_append_getElem h, List.foldl_append]; rfl
theorem addOne_pre (xs : List Bs) (s : Bs) : xs <+: addOne xs s := by
  unfold addOne; split
  · exact List.prefix_refl _
  · exact List.prefix_append _ _
theorem addNew_pre (xs ys : List Bs) : xs <+: addNew xs ys := by
  unfold addNew
  induction ys generalizing xs with
  | nil => exact List.prefix_refl _
  | cons y r ih => exact (addOne_pre xs y).trans (ih _)
theorem addNew_all {xs ys : List Bs} {P : Bs → Prop} (hx : ∀ x ∈ xs, P x) (hy : ∀ y ∈ ys, P y) : ∀ z ∈ addNew xs ys, P z := fun z hz => by
  rcases (mem_addNew xs ys z).1 hz with h | h
  · exact hx z h
  · exact hy z h
theorem addNew_nodup (ys : List Bs) : ∀ xs : List Bs, (xs ++ ys).Nodup → addNew xs ys = xs ++ ys := by
  induction ys with
  | nil => intro xs _; simp [addNew]
  | cons y r ih =>
    intro xs h
    have hx : y ∉ xs := fun hm => by
      rw [List.nodup_append] at h
      exact h.2.2 y hm y (by simp) rfl
    have e : addOne xs y = xs ++ [y] := by unfold addOne; rw [if_neg hx]
    have : addNew xs (y :: r) = addNew (addOne xs y) r := rfl
    rw [this, e, ih _ (by simpa using h)]
    simp

/-! ### The names of a body. -/
theorem addNeed_snoc (p : Bs) (b : List Stm) (k : Nat) (h : k < b.length) : bodyNeeds p (b.take (k + 1)) = addNeed p (bodyNeeds p (b.take k)) b[k] := by
  unfold bodyNeeds; rw [List.take_succ_eq_append_getElem h, List.foldl_append]; rfl
theorem resolved_vn {p : Bs} {lv : Int} {s : Bs} (h : resolved p lv s ≠ []) : vn (resolved p lv s) = true := by
  unfold resolved at h ⊢
  split
  · rename_i hc
    rw [if_pos hc] at h
    split
    · rename_i h0
      rw [if_pos h0] at h
      simp only [Bool.and_eq_true] at hc
      exact (vpk_iff.1 hc.1.1.2).resolve_left h
    · rename_i h0
      rw [if_neg h0] at h
      split
      · rename_i h1; rw [if_pos h1] at h; exact absurd rfl h
      · rename_i h1
        rw [if_neg h1] at h
        unfold nameOr at h ⊢
        split
        · assumption
        · rename_i h2; rw [if_neg h2] at h; exact absurd rfl h
  · rename_i hc; rw [if_neg hc] at h; exact absurd rfl h
/-- What a valid statement names is a name, or nothing. -/
theorem needBy_vn {p : Bs} {s : Stm} (hs : okStm s = true) (h : needBy p s ≠ []) : vn (needBy p s) = true := by
  unfold needBy at h ⊢
  unfold okStm at hs
  split
  · rename_i h1
    rcases h1 with h1 | h1 <;> (rw [h1] at hs; simp at hs; exact hs.1.1.1)
  · rename_i h1
    rw [if_neg h1] at h
    split
    · rename_i h2; rw [if_pos h2] at h; exact resolved_vn h
    · rename_i h2; rw [if_neg h2] at h; exact absurd rfl h
theorem needBy_is {p : Bs} {s : Stm} (hs : okStm s = true) : vn (needBy p s) = !(needBy p s).isEmpty := by
  by_cases h : needBy p s = []
  · rw [h]; decide
  · rw [needBy_vn hs h]; simp [h]
theorem okBody_at {b : List Stm} (h : okBody b = true) {s : Stm} (hs : s ∈ b) : okStm s = true := by
  unfold okBody at h
  rw [Bool.and_eq_true] at h
  exact List.all_eq_true.1 h.1 s hs
theorem okBody_len {b : List Stm} (h : okBody b = true) : b.length ≤ 8 := by
  unfold okBody at h
  simp only [Bool.and_eq_true, decide_eq_true_eq] at h
  exact h.2
theorem bodyNeeds_facts (p : Bs) : ∀ (b : List Stm), (∀ s ∈ b, okStm s = true) → ∀ xs : List Bs, (∀ x ∈ xs, vn x = true) → xs.Nodup → (∀ x ∈ b.foldl (addNeed p) xs, vn x = true) ∧ (b.foldl (addNeed p) xs).Nodup ∧ (b.foldl (addNeed p) xs).length ≤ xs.length + b.length
  | [], _, xs, h, hn => ⟨h, hn, Nat.le_refl _⟩
  | s :: r, hb, xs, h, hn => by
    have hs := hb s (by simp)
    have key : (∀ x ∈ addNeed p xs s, vn x = true) ∧ (addNeed p xs s).Nodup ∧ (addNeed p xs s).length ≤ xs.length + 1 := by
      unfold addNeed; split
      · exact ⟨h, hn, by omega⟩
      · rename_i h0
        refine ⟨fun x hx => ?_, nodup_addOne hn _, addOne_len _ _⟩
        rcases (mem_addOne _ _ _).1 hx with hx | rfl
        · exact h x hx
        · exact needBy_vn hs h0
    have := bodyNeeds_facts p r (fun x hx => hb x (by simp [hx])) _ key.1 key.2.1
    refine ⟨this.1, this.2.1, ?_⟩
    have h1 := this.2.2
    have h2 := key.2.2
    rw [List.length_cons, List.foldl_cons]; omega
theorem bodyNeeds_ok {p : Bs} {b : List Stm} (h : okBody b = true) : (∀ x ∈ bodyNeeds p b, vn x = true) ∧ (bodyNeeds p b).Nodup ∧ (bodyNeeds p b).length ≤ 8 := by
  have h1 := bodyNeeds_facts p b (fun s hs => okBody_at h hs) [] (by simp) (by simp)
  have h2 := okBody_len h
  refine ⟨h1.1, h1.2.1, ?_⟩
  have := h1.2.2
  unfold bodyNeeds
  simp at this
  omega
/-- .. in part. -/
theorem bodyNeeds_part {p : Bs} {b : List Stm} (h : okBody b = true) (k : Nat) : (∀ x ∈ bodyNeeds p (b.take k), vn x = true) ∧ (bodyNeeds p (b.take k)).length ≤ 8 := by
  have h1 := bodyNeeds_facts p (b.take k) (fun s hs => okBody_at h (List.mem_of_mem_take hs)) [] (by simp) (by simp)
  have h2 := okBody_len h
  refine ⟨h1.1, ?_⟩
  have := h1.2.2
  rw [List.length_take] at this
  unfold bodyNeeds
  simp at this
  omega
theorem full_snoc (ns : List Bs) (k : Nat) (h : k < ns.length) : full (ns.take (k + 1)) = addNew (full (ns.take k)) (namesAbove ns[k]) := by
  unfold full; rw [List.take_succ_eq_append_getElem h, List.foldl_append]; rfl
theorem full_facts : ∀ (ns xs : List Bs), (∀ x ∈ xs, vn x = true) → xs.Nodup → (∀ x ∈ ns.foldl (fun xs n => addNew xs (namesAbove n)) xs, vn x = true) ∧ (ns.foldl (fun xs n => addNew xs (namesAbove n)) xs).Nodup ∧ (ns.foldl (fun xs n => addNew xs (namesAbove n)) xs).length ≤ xs.length + 3 * ns.length
  | [], xs, h, hn => ⟨h, hn, by simp⟩
  | n :: r, xs, h, hn => by
    have h3 := namesAbove_le3 n
    have h4 := addNew_len xs (namesAbove n)
    have := full_facts r (addNew xs (namesAbove n)) (addNew_all h (fun y hy => namesAbove_vn hy)) (nodup_addNew hn _)
    refine ⟨this.1, this.2.1, ?_⟩
    have h1 := this.2.2
    rw [List.length_cons, List.foldl_cons]; omega
theorem full_ok (ns : List Bs) : (∀ x ∈ full ns, vn x = true) ∧ (full ns).Nodup ∧ (full ns).length ≤ 3 * ns.length := by
  have h := full_facts ns [] (by simp) (by simp)
  refine ⟨h.1, h.2.1, ?_⟩
  have := h.2.2
  unfold full
  simp at this
  omega
theorem mem_full (x : Bs) (ns : List Bs) : x ∈ full ns ↔ ∃ n ∈ ns, x ∈ namesAbove n := by
  have key : ∀ (ns xs : List Bs), x ∈ ns.foldl (fun xs n => addNew xs (namesAbove n)) xs ↔ x ∈ xs ∨ ∃ n ∈ ns, x ∈ namesAbove n := by
    intro ns
    induction ns with
    | nil => intro xs; simp
    | cons n r ih => intro xs; rw [List.foldl_cons, ih, mem_addNew]; simp [or_assoc]
  have := key ns []
  simpa [full] using this

/-! ### The file of a module, and the graph. -/
theorem fileFor_no {t : List Fil} {path : List Int} {s : Bs} (h : (findSpec t path s).file < 0) : fileFor t path s = none := by unfold fileFor; rw [if_pos h]
theorem fileFor_yes {t : List Fil} {path : List Int} {s : Bs} {k : Nat} (hk : k < t.length) (h : (findSpec t path s).file = (k : Int)) : fileFor t path s = some t[k] := by
  unfold fileFor; rw [h, if_neg (by omega)]; simp [hk]
theorem fileFor_facts {t : List Fil} {path : List Int} {s : Bs} {f : Fil} (h : fileFor t path s = some f) : f ∈ t ∧ okFil f = true ∧ modName f = s ∧ vn s = true ∧ okLook t path = true ∧
    f.pack = (if (findSpec t path s).kind = 1 then parent s else s) ∧ ∃ k : Nat, ∃ hk : k < t.length, (findSpec t path s).file = (k : Int) ∧ t[k] = f := by
  unfold fileFor at h
  split at h
  · exact absurd h (by simp)
  · rename_i h0
    have hb := (findSpec_ok t path s).file
    obtain ⟨k, hk⟩ : ∃ k : Nat, (findSpec t path s).file = (k : Int) := ⟨_, (Int.toNat_of_nonneg (by omega)).symm⟩
    have hkl : k < t.length := by omega
    have hkk : (findSpec t path s).kind ≠ 0 := fun e => by rw [(findSpec_ok t path s).none e] at hk; exact absurd hk (by show (-1 : Int) ≠ k; omega)
    obtain ⟨hl, hv⟩ := findSpec_vn hkk
    obtain ⟨f', e1, e2, e3, e4⟩ := findSpec_file (t := t) (path := path) (s := s) (by omega)
    obtain rfl : f' = f := Option.some.inj (e1.symm.trans h)
    have hne : modOf f' ≠ [] := by rw [e2]; exact vn_ne hv
    obtain ⟨g1, g2, g3, g4, g5⟩ := modOf_facts hne
    rw [hk, Int.toNat_natCast, List.getElem?_eq_getElem hkl] at e1
    have e1 := Option.some.inj e1
    refine ⟨by rw [← e1]; exact List.getElem_mem _, g1, by rw [← g2, e2], hv, hl, ?_, k, hkl, hk, e1⟩
    have hko := findSpec_ok t path s
    cases hi : f'.init
    · have hp := (g5 hi).1
      rw [e2] at hp
      have h2 : (findSpec t path s).kind ≠ 2 := fun e => by have := e4.2 e; rw [hi] at this; exact absurd this (by simp)
      have h1 : (findSpec t path s).kind = 1 := by
        rcases hko with e | ⟨e, _⟩ | ⟨e, _⟩ | ⟨_, e, _⟩
        · exact absurd (by rw [e]; rfl) hkk
        · exact e
        · exact absurd e h2
        · omega
      rw [if_pos h1, ← parentOf_of hv, hp]
    · have hp := g4 hi
      rw [e2] at hp
      have h2 := e4.1 hi
      rw [if_neg (by omega), hp]
theorem needsOf_no {t : List Fil} {path : List Int} {s : Bs} (h : (findSpec t path s).file < 0) : needsOf t path s = [] := by unfold needsOf; rw [fileFor_no h]
theorem needsOf_none {t : List Fil} {path : List Int} {s : Bs} (h : (findSpec t path s).kind = 0) : needsOf t path s = [] := needsOf_no (by rw [(findSpec_ok t path s).none h]; decide)
theorem needsOf_ok (t : List Fil) (path : List Int) (s : Bs) : (∀ x ∈ needsOf t path s, vn x = true) ∧ (needsOf t path s).Nodup ∧ (needsOf t path s).length ≤ 8 := by
  unfold needsOf
  cases h : fileFor t path s with
  | none => exact ⟨by simp, by simp, by simp⟩
  | some f => exact bodyNeeds_ok (okFil_body (fileFor_facts h).2.1)
theorem edgesOf_ok (t : List Fil) (path : List Int) (s : Bs) : (∀ x ∈ edgesOf t path s, vn x = true) ∧ (edgesOf t path s).Nodup ∧ (edgesOf t path s).length ≤ 24 := by
  have h1 := full_ok (needsOf t path s)
  have h2 := (needsOf_ok t path s).2.2
  exact ⟨h1.1, h1.2.1, by unfold edgesOf; omega⟩
/-- The graph of the first k files: names with the indices of their files, the last one first. -/
def gGo (t : List Fil) (path : List Int) : Nat → List (Bs × Nat)
  | 0 => []
  | k + 1 => match t[k]? with
    | some f => if foundFor t path f = (k : Int) then (modName f, k) :: gGo t path k else gGo t path k
    | none => gGo t path k
def gAt (t : List Fil) (path : List Int) (k : Nat) (s : Bs) : Option Nat := (gGo t path k).lookup s
theorem gAt_zero (t : List Fil) (path : List Int) (s : Bs) : gAt t path 0 s = none := rfl
theorem gAt_yes {t : List Fil} {path : List Int} {k : Nat} (h : k < t.length) (hf : foundFor t path t[k] = (k : Int)) (s : Bs) : gAt t path (k + 1) s = if s = modName t[k] then some k else gAt t path k s := by
  unfold gAt
  rw [gGo, List.getElem?_eq_getElem h]
  dsimp only
  rw [if_pos hf, List.lookup_cons]
  by_cases e : s = modName t[k]
  · subst e; simp
  · rw [if_neg e]
    have : (s == modName t[k]) = false := by simpa using e
    rw [this]
theorem gAt_no {t : List Fil} {path : List Int} {k : Nat} (h : k < t.length) (hf : foundFor t path t[k] ≠ (k : Int)) (s : Bs) : gAt t path (k + 1) s = gAt t path k s := by
  unfold gAt
  rw [gGo, List.getElem?_eq_getElem h]
  dsimp only
  rw [if_neg hf]
theorem gAt_facts {t : List Fil} {path : List Int} : ∀ (k : Nat), k ≤ t.length → ∀ (s : Bs) (i : Nat), gAt t path k s = some i → ∃ h : i < t.length, i < k ∧ modName t[i] = s ∧ foundFor t path t[i] = (i : Int)
  | 0, _, s, i, h => by rw [gAt_zero] at h; exact absurd h (by simp)
  | k + 1, hk, s, i, h => by
    by_cases hf : foundFor t path t[k] = (k : Int)
    · rw [gAt_yes (by omega) hf] at h
      split at h
      · rename_i e
        cases h
        exact ⟨by omega, by omega, e.symm, hf⟩
      · obtain ⟨a, b, c⟩ := gAt_facts k (by omega) s i h
        exact ⟨a, by omega, c⟩
    · rw [gAt_no (by omega) hf] at h
      obtain ⟨a, b, c⟩ := gAt_facts k (by omega) s i h
      exact ⟨a, by omega, c⟩
theorem gAt_some {t : List Fil} {path : List Int} : ∀ (k : Nat), k ≤ t.length → ∀ (s : Bs) (i : Nat) (h : i < t.length), i < k → modName t[i] = s → foundFor t path t[i] = (i : Int) → gAt t path k s ≠ none
  | 0, _, s, i, h, hi, _, _ => absurd hi (by omega)
  | k + 1, hk, s, i, h, hi, hm, hf => by
    by_cases hk' : foundFor t path t[k] = (k : Int)
    · rw [gAt_yes (by omega) hk']
      split
      · simp
      · rename_i e
        have hik : i ≠ k := fun e' => by subst e'; exact e hm.symm
        exact gAt_some k (by omega) s i h (by omega) hm hf
    · rw [gAt_no (by omega) hk']
      have hik : i ≠ k := fun e' => by subst e'; exact hk' hf
      exact gAt_some k (by omega) s i h (by omega) hm hf
/-- The graph has the file of each module that is found with one. -/
theorem gAt_all {t : List Fil} {path : List Int} (hl : okLook t path = true) (s : Bs) : (gAt t path t.length s).bind (fun i => t[i]?) = fileFor t path s := by
  have e : ∀ n, byParts t path n = findSpec t path n := fun n => by unfold findSpec; rw [if_pos hl]
  cases h : gAt t path t.length s with
  | some i =>
    obtain ⟨hi, _, hm, hf⟩ := gAt_facts t.length (Nat.le_refl _) s i h
    unfold foundFor at hf
    rw [hm, e] at hf
    rw [fileFor_yes hi hf]
    simp [hi]
  | none =>
    cases hfo : fileFor t path s with
    | none => rfl
    | some f =>
      obtain ⟨_, _, hm, _, _, _, k, hk, hf, hkf⟩ := fileFor_facts hfo
      exact absurd h (gAt_some t.length (Nat.le_refl _) s k hk hk (by rw [hkf]; exact hm) (by unfold foundFor; rw [hkf, hm, e]; exact hf))
end Go.Proofs.YtfchakfkgmhagaaGreat.Nm
