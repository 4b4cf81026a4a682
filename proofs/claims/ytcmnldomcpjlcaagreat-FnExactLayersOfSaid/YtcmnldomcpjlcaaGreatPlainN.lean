/- Graphs of modules as plain data: what the names of a body are, and where a module leads. Nothing of the program stands here. -/
import Derived.Test.YtcmnldomcpjlcaaGreatPlainG
set_option linter.unusedVariables false
set_option linter.unusedSimpArgs false
namespace Go.Proofs.YtcmnldomcpjlcaaGreat.Nm
open Relation

/-- The name that a statement in a package names. -/
def needBy (p : Bs) (s : Stm) : Bs := if s.kind = 0 ∨ s.kind = 2 then s.module else if s.kind = 1 then resolved p s.level s.module else []
def addOne (xs : List Bs) (s : Bs) : List Bs := if s ∈ xs then xs else xs ++ [s]
def addNew (xs ys : List Bs) : List Bs := ys.foldl addOne xs
def addNeed (p : Bs) (xs : List Bs) (s : Stm) : List Bs := if needBy p s = [] then xs else addOne xs (needBy p s)
def bodyNeeds (p : Bs) (b : List Stm) : List Bs := b.foldl (addNeed p) []
/-- Names, each with all above it ahead of it. -/
def full (ns : List Bs) : List Bs := ns.foldl (fun xs n => addNew xs (namesAbove n)) []
def fileFor (t : List Fil) (path : List Int) (s : Bs) : Option Fil := if (findSpec t path s).file < 0 then none else t[(findSpec t path s).file.toNat]?
def needsOf (t : List Fil) (path : List Int) (s : Bs) : List Bs := match fileFor t path s with
  | none => []
  | some f => bodyNeeds f.pack f.body
def edgesOf (t : List Fil) (path : List Int) (s : Bs) : List Bs := full (needsOf t path s)

/-! ### Lists in which each text stands once. -/
theorem mem_addOne (xs : List Bs) (s x : Bs) : x ∈ addOne xs s ↔ x ∈ xs ∨ x = s := by
  unfold addOne; split
  · rename_i h; constructor
    · exact .inl
    · rintro (h' | rfl) <;> assumption
  · simp
theorem nodup_addOne {xs : List Bs} (h : xs.Nodup) (s : Bs) : (addOne xs s).Nodup := by
  unfold addOne; split
  · exact h
  · rename_i hx
    rw [List.nodup_append]
    exact ⟨h, by simp, fun a ha b hb => by simp at hb; subst hb; rintro rfl; exact hx ha⟩
theorem mem_addNew (xs ys : List Bs) (x : Bs) : x ∈ addNew xs ys ↔ x ∈ xs ∨ x ∈ ys := by
  unfold addNew
  induction ys generalizing xs with
  | nil => simp
  | cons y r ih => rw [List.foldl_cons, ih, mem_addOne]; simp [or_assoc]
theorem nodup_addNew {xs : List Bs} (h : xs.Nodup) (ys : List Bs) : (addNew xs ys).Nodup := by
  unfold addNew
  induction ys generalizing xs with
  | nil => exact h
  | cons y r ih => exact ih (nodup_addOne h y)
theorem addOne_len (xs : List Bs) (s : Bs) : (addOne xs s).length ≤ xs.length + 1 := by unfold addOne; split <;> simp
theorem addNew_len (xs ys : List Bs) : (addNew xs ys).length ≤ xs.length + ys.length := by
  unfold addNew
  induction ys generalizing xs with
  | nil => simp
  | cons y r ih =>
    have h1 := ih (addOne xs y)
    have h2 := addOne_len xs y
    rw [List.foldl_cons, List.length_cons]; omega
theorem addNew_snoc (xs ys : List Bs) (k : Nat) (h : k < ys.length) : addNew xs (ys.take (k + 1)) = addOne (addNew xs (ys.take k)) ys[k] := by
  unfold addNew; rw [List.take_succ_eq_append_getElem h, List.foldl_append]; rfl
theorem addOne_pre (xs : List Bs) (s : Bs) : xs <+: addOne xs s := by
  unfold addOne; split
  · exact List.prefix_refl _
  · exact List.prefix_append _ _
theorem addNew_pre (xs ys : List Bs) : xs <+: addNew xs ys := by
  unfold addNew
  induction ys generalizing xs with
  | nil => exact List.prefix_refl _
  | cons y r ih => exact (addOne_pre xs y).trans (ih _)
theorem addNew_all {xs ys : List Bs} {P : Bs → Prop} (hx : ∀ x ∈ xs, P x) (hy : ∀ y ∈ ys, P y) : ∀ z ∈ addNew xs ys, P z := fun z hz => by
  rcases (mem_addNew xs ys z).1 hz with h | h
  · exact hx z h
  · exact hy z h
theorem addNew_nodup (ys : List Bs) : ∀ xs : List Bs, (xs ++ ys).Nodup → addNew xs ys = xs ++ ys := by
  induction ys with
  | nil => intro xs _; simp [addNew]
  | cons y r ih =>
    intro xs h
    have hx : y ∉ xs := fun hm => by
      rw [List.nodup_append] at h
      exact h.2.2 y hm y (by simp) rfl
    have e : addOne xs y = xs ++ [y] := by unfold addOne; rw [if_neg hx]
    have : addNew xs (y :: r) = addNew (addOne xs y) r := rfl
    rw [this, e, ih _ (by simpa using h)]
    simp

/-! ### The names of a body. -/
theorem addNeed_snoc (p : Bs) (b : List Stm) (k : Nat) (h : k < b.length) : bodyNeeds p (b.take (k + 1)) = addNeed p (bodyNeeds p (b.take k)) b[k] := by
  unfold bodyNeeds; rw [List.take_succ_eq_append_getElem h, List.foldl_append]; rfl
theorem resolved_vn {p : Bs} {lv : Int} {s : Bs} (h : resolved p lv s ≠ []) : vn (resolved p lv s) = true := by
  unfold resolved at h ⊢
  split
  · rename_i hc
    rw [if_pos hc] at h
    split
    · rename_i h0
      rw [if_pos h0] at h
      simp only [Bool.and_eq_true] at hc
      exact (vpk_iff.1 hc.1.1.2).resolve_left h
    · rename_i h0
      rw [if_neg h0] at h
      split
      · rename_i h1; rw [if_pos h1] at h; exact absurd rfl h
      · rename_i h1
        rw [if_neg h1] at h
        unfold nameOr at h ⊢
        split
        · assumption
        · rename_i h2; rw [if_neg h2] at h; exact absurd rfl h
  · rename_i hc; rw [if_neg hc] at h; exact absurd rfl h
/-- What a valid statement names is a name, or nothing. -/
theorem needBy_vn {p : Bs} {s : Stm} (hs : okStm s = true) (h : needBy p s ≠ []) : vn (needBy p s) = true := by
  unfold needBy at h ⊢
  unfold okStm at hs
  split
  · rename_i h1
    rcases h1 with h1 | h1 <;> (rw [h1] at hs; simp at hs; exact hs.1.1.1)
  · rename_i h1
    rw [if_neg h1] at h
    split
    · rename_i h2; rw [if_pos h2] at h; exact resolved_vn h
    · rename_i h2; rw [if_neg h2] at h; exact absurd rfl h
theorem needBy_is {p : Bs} {s : Stm} (hs : okStm s = true) : vn (needBy p s) = !(needBy p s).isEmpty := by
  by_cases h : needBy p s = []
  · rw [h]; decide
  · rw [needBy_vn hs h]; simp [h]
theorem okBody_at {b : List Stm} (h : okBody b = true) {s : Stm} (hs : s ∈ b) : okStm s = true := by
  unfold okBody at h
  rw [Bool.and_eq_true] at h
  exact List.all_eq_true.1 h.1 s hs
theorem okBody_len {b : List Stm} (h : okBody b = true) : b.length ≤ 8 := by
  unfold okBody at h
  simp only [Bool.and_eq_true, decide_eq_true_eq] at h
  exact h.2
theorem bodyNeeds_facts (p : Bs) : ∀ (b : List Stm), (∀ s ∈ b, okStm s = true) → ∀ xs : List Bs, (∀ x ∈ xs, vn x = true) → xs.Nodup → (∀ x ∈ b.foldl (addNeed p) xs, vn x = true) ∧ (b.foldl (addNeed p) xs).Nodup ∧ (b.foldl (addNeed p) xs).length ≤ xs.length + b.length
  | [], _, xs, h, hn => ⟨h, hn, Nat.le_refl _⟩
  | s :: r, hb, xs, h, hn => by
    have hs := hb s (by simp)
    have key : (∀ x ∈ addNeed p xs s, vn x = true) ∧ (addNeed p xs s).Nodup ∧ (addNeed p xs s).length ≤ xs.length + 1 := by
      unfold addNeed; split
      · exact ⟨h, hn, by omega⟩
      · rename_i h0
        refine ⟨fun x hx => ?_, nodup_addOne hn _, addOne_len _ _⟩
        rcases (mem_addOne _ _ _).1 hx with hx | rfl
        · exact h x hx
        · exact needBy_vn hs h0
    have := bodyNeeds_facts p r (fun x hx => hb x (by simp [hx])) _ key.1 key.2.1
    refine ⟨this.1, this.2.1, ?_⟩
    have h1 := this.2.2
    have h2 := key.2.2
    rw [List.length_cons, List.foldl_cons]; omega
theorem bodyNeeds_ok {p : Bs} {b : List Stm} (h : okBody b = true) : (∀ x ∈ bodyNeeds p b, vn x = true) ∧ (bodyNeeds p b).Nodup ∧ (bodyNeeds p b).length ≤ 8 := by
  have h1 := bodyNeeds_facts p b (fun s hs => okBody_at h hs) [] (by simp) (by simp)
  have h2 := okBody_len h
  refine ⟨h1.1, h1.2.1, ?_⟩
  have := h1.2.2
  unfold bodyNeeds
  simp at this
  omega
/-- .. in part. -/
theorem bodyNeeds_part {p : Bs} {b : List Stm} (h : okBody b = true) (k : Nat) : (∀ x ∈ bodyNeeds p (b.take k), vn x = true) ∧ (bodyNeeds p (b.take k)).length ≤ 8 := by
  have h1 := bodyNeeds_facts p (b.take k) (fun s hs => okBody_at h (List.mem_of_mem_take hs)) [] (by simp) (by simp)
  have h2 := okBody_len h
  refine ⟨h1.1, ?_⟩
  have := h1.2.2
  rw [List.length_take] at this
  unfold bodyNeeds
  simp at this
  omega
theorem full_snoc (ns : List Bs) (k : Nat) (h : k < ns.length) : full (ns.take (k + 1)) = addNew (full (ns.take k)) (namesAbove ns[k]) := by
  unfold full; rw [List.take_succ_eq_append_getElem h, List.foldl_append]; rfl
theorem full_facts : ∀ (ns xs : List Bs), (∀ x ∈ xs, vn x = true) → xs.Nodup → (∀ x ∈ ns.foldl (fun xs n => addNew xs (namesAbove n)) xs, vn x = true) ∧ (ns.foldl (fun xs n => addNew xs (namesAbove n)) xs).Nodup ∧ (ns.foldl (fun xs n => addNew xs (namesAbove n)) xs).length ≤ xs.length + 3 * ns.length
  | [], xs, h, hn => ⟨h, hn, by simp⟩
  | n :: r, xs, h, hn => by
    have h3 := namesAbove_le3 n
    have h4 := addNew_len xs (namesAbove n)
    have := full_facts r (addNew xs (namesAbove n)) (addNew_all h (fun y hy => namesAbove_vn hy)) (nodup_addNew hn _)
    refine ⟨this.1, this.2.1, ?_⟩
    have h1 := this.2.2
    rw [List.length_cons, List.foldl_cons]; omega
theorem full_ok (ns : List Bs) : (∀ x ∈ full ns, vn x = true) ∧ (full ns).Nodup ∧ (full ns).length ≤ 3 * ns.length := by
  have h := full_facts ns [] (by simp) (by simp)
  refine ⟨h.1, h.2.1, ?_⟩
  have := h.2.2
  unfold full
  simp at this
  omega
theorem mem_full (x : Bs) (ns : List Bs) : x ∈ full ns ↔ ∃ n ∈ ns, x ∈ namesAbove n := by
  have key : ∀ (ns xs : List Bs), x ∈ ns.foldl (fun xs n => addNew xs (namesAbove n)) xs ↔ x ∈ xs ∨ ∃ n ∈ ns, x ∈ namesAbove n := by
    intro ns
    induction ns with
    | nil => intro xs; simp
    | cons n r ih => intro xs; rw [List.foldl_cons, ih, mem_addNew]; simp [or_assoc]
  have := key ns []
  simpa [full] using this

/-! ### The file of a module, and the graph. -/
theorem fileFor_no {t : List Fil} {path : List Int} {s : Bs} (h : (findSpec t path s).file < 0) : fileFor t path s = none := by unfold fileFor; rw [if_pos h]
theorem fileFor_yes {t : List Fil} {path : List Int} {s : Bs} {k : Nat} (hk : k < t.length) (h : (findSpec t path s).file = (k : Int)) : fileFor t path s = some t[k] := by
  unfold fileFor; rw [h, if_neg (by omega)]; simp [hk]
theorem fileFor_facts {t : List Fil} {path : List Int} {s : Bs} {f : Fil} (h : fileFor t path s = some f) : f ∈ t ∧ okFil f = true ∧ modName f = s ∧ vn s = true ∧ okLook t path = true ∧
    f.pack = (if (findSpec t path s).kind = 1 then parent s else s) ∧ ∃ k : Nat, ∃ hk : k < t.length, (findSpec t path s).file = (k : Int) ∧ t[k] = f := by
  unfold fileFor at h
  split at h
  · exact absurd h (by simp)
  · rename_i h0
    have hb := (findSpec_ok t path s).file
    obtain ⟨k, hk⟩ : ∃ k : Nat, (findSpec t path s).file = (k : Int) := ⟨_, (Int.toNat_of_nonneg (by omega)).symm⟩
    have hkl : k < t.length := by omega
    have hkk : (findSpec t path s).kind ≠ 0 := fun e => by rw [(findSpec_ok t path s).none e] at hk; exact absurd hk (by show (-1 : Int) ≠ k; omega)
    obtain ⟨hl, hv⟩ := findSpec_vn hkk
    obtain ⟨f', e1, e2, e3, e4⟩ := findSpec_file (t := t) (path := path) (s := s) (by omega)
    obtain rfl : f' = f := Option.some.inj (e1.symm.trans h)
    have hne : modOf f' ≠ [] := by rw [e2]; exact vn_ne hv
    obtain ⟨g1, g2, g3, g4, g5⟩ := modOf_facts hne
    rw [hk, Int.toNat_natCast, List.getElem?_eq_getElem hkl] at e1
    have e1 := Option.some.inj e1
    refine ⟨by rw [← e1]; exact List.getElem_mem _, g1, by rw [← g2, e2], hv, hl, ?_, k, hkl, hk, e1⟩
    have hko := findSpec_ok t path s
    cases hi : f'.init
    · have hp := (g5 hi).1
      rw [e2] at hp
      have h2 : (findSpec t path s).kind ≠ 2 := fun e => by have := e4.2 e; rw [hi] at this; exact absurd this (by simp)
      have h1 : (findSpec t path s).kind = 1 := by
        rcases hko with e | ⟨e, _⟩ | ⟨e, _⟩ | ⟨_, e, _⟩
        · exact absurd (by rw [e]; rfl) hkk
        · exact e
        · exact absurd e h2
        · omega
      rw [if_pos h1, ← parentOf_of hv, hp]
    · have hp := g4 hi
      rw [e2] at hp
      have h2 := e4.1 hi
      rw [if_neg (by omega), hp]
theorem needsOf_no {t : List Fil} {path : List Int} {s : Bs} (h : (findSpec t path s).file < 0) : needsOf t path s = [] := by unfold needsOf; rw [fileFor_no h]
theorem needsOf_none {t : List Fil} {path : List Int} {s : Bs} (h : (findSpec t path s).kind = 0) : needsOf t path s = [] := needsOf_no (by rw [(findSpec_ok t path s).none h]; decide)
theorem needsOf_ok (t : List Fil) (path : List Int) (s : Bs) : (∀ x ∈ needsOf t path s, vn x = true) ∧ (needsOf t path s).Nodup ∧ (needsOf t path s).length ≤ 8 := by
  unfold needsOf
  cases h : fileFor t path s with
  | none => exact ⟨by simp, by simp, by simp⟩
  | some f => exact bodyNeeds_ok (okFil_body (fileFor_facts h).2.1)
theorem edgesOf_ok (t : List Fil) (path : List Int) (s : Bs) : (∀ x ∈ edgesOf t path s, vn x = true) ∧ (edgesOf t path s).Nodup ∧ (edgesOf t path s).length ≤ 24 := by
  have h1 := full_ok (needsOf t path s)
  have h2 := (needsOf_ok t path s).2.2
  exact ⟨h1.1, h1.2.1, by unfold edgesOf; omega⟩
/-- The graph of the first k files: names with the indices of their files, the last one first. -/
def gGo (t : List Fil) (path : List Int) : Nat → List (Bs × Nat)
  | 0 => []
  | k + 1 => match t[k]? with
    | some f => if foundFor t path f = (k : Int) then (modName f, k) :: gGo t path k else gGo t path k
    | none => gGo t path k
def gAt (t : List Fil) (path : List Int) (k : Nat) (s : Bs) : Option Nat := (gGo t path k).lookup s
theorem gAt_zero (t : List Fil) (path : List Int) (s : Bs) : gAt t path 0 s = none := rfl
theorem gAt_yes {t : List Fil} {path : List Int} {k : Nat} (h : k < t.length) (hf : foundFor t path t[k] = (k : Int)) (s : Bs) : gAt t path (k + 1) s = if s = modName t[k] then some k else gAt t path k s := by
  unfold gAt
  rw [gGo, List.getElem?_eq_getElem h]
  dsimp only
  rw [if_pos hf, List.lookup_cons]
  by_cases e : s = modName t[k]
  · subst e; simp
  · rw [if_neg e]
    have : (s == modName t[k]) = false := by simpa using e
    rw [this]
theorem gAt_no {t : List Fil} {path : List Int} {k : Nat} (h : k < t.length) (hf : foundFor t path t[k] ≠ (k : Int)) (s : Bs) : gAt t path (k + 1) s = gAt t path k s := by
  unfold gAt
  rw [gGo, List.getElem?_eq_getElem h]
  dsimp only
  rw [if_neg hf]
theorem gAt_facts {t : List Fil} {path : List Int} : ∀ (k : Nat), k ≤ t.length → ∀ (s : Bs) (i : Nat), gAt t path k s = some i → ∃ h : i < t.length, i < k ∧ modName t[i] = s ∧ foundFor t path t[i] = (i : Int)
  | 0, _, s, i, h => by rw [gAt_zero] at h; exact absurd h (by simp)
  | k + 1, hk, s, i, h => by
    by_cases hf : foundFor t path t[k] = (k : Int)
    · rw [gAt_yes (by omega) hf] at h
      split at h
      · rename_i e
        cases h
        exact ⟨by omega, by omega, e.symm, hf⟩
      · obtain ⟨a, b, c⟩ := gAt_facts k (by omega) s i h
        exact ⟨a, by omega, c⟩
    · rw [gAt_no (by omega) hf] at h
      obtain ⟨a, b, c⟩ := gAt_facts k (by omega) s i h
      exact ⟨a, by omega, c⟩
theorem gAt_some {t : List Fil} {path : List Int} : ∀ (k : Nat), k ≤ t.length → ∀ (s : Bs) (i : Nat) (h : i < t.length), i < k → modName t[i] = s → foundFor t path t[i] = (i : Int) → gAt t path k s ≠ none
  | 0, _, s, i, h, hi, _, _ => absurd hi (by omega)
  | k + 1, hk, s, i, h, hi, hm, hf => by
    by_cases hk' : foundFor t path t[k] = (k : Int)
    · rw [gAt_yes (by omega) hk']
      split
      · simp
      · rename_i e
        have hik : i ≠ k := fun e' => by subst e'; exact e hm.symm
        exact gAt_some k (by omega) s i h (by omega) hm hf
    · rw [gAt_no (by omega) hk']
      have hik : i ≠ k := fun e' => by subst e'; exact hk' hf
      exact gAt_some k (by omega) s i h (by omega) hm hf
/-- The graph has the file of each module that is found with one. -/
theorem gAt_all {t : List Fil} {path : List Int} (hl : okLook t path = true) (s : Bs) : (gAt t path t.length s).bind (fun i => t[i]?) = fileFor t path s := by
  have e : ∀ n, byParts t path n = findSpec t path n := fun n => by unfold findSpec; rw [if_pos hl]
  cases h : gAt t path t.length s with
  | some i =>
    obtain ⟨hi, _, hm, hf⟩ := gAt_facts t.length (Nat.le_refl _) s i h
    unfold foundFor at hf
    rw [hm, e] at hf
    rw [fileFor_yes hi hf]
    simp [hi]
  | none =>
    cases hfo : fileFor t path s with
    | none => rfl
    | some f =>
      obtain ⟨_, _, hm, _, _, _, k, hk, hf, hkf⟩ := fileFor_facts hfo
      exact absurd h (gAt_some t.length (Nat.le_refl _) s k hk hk (by rw [hkf]; exact hm) (by unfold foundFor; rw [hkf, hm, e]; exact hf))

/-! ### Ways in the graph of modules as plain data. Nothing of the program stands here. -/
theorem nodup_leB {α : Type} [DecidableEq α] : ∀ (l m : List α), l.Nodup → (∀ x ∈ l, x ∈ m) → l.length ≤ m.length
  | [], _, _, _ => by simp
  | x :: r, m, hn, hs => by
    obtain ⟨h1, h2⟩ := List.nodup_cons.1 hn
    have hx := hs x (by simp)
    have h3 := nodup_leB r (m.erase x) h2 (fun y hy => by
      have hne : y ≠ x := fun e => h1 (e ▸ hy)
      exact (List.mem_erase_of_ne hne).2 (hs y (by simp [hy])))
    have h4 := List.length_erase_of_mem hx
    have h5 := List.length_pos_of_mem hx
    rw [List.length_cons]; omega

/-- The names to which ways lead from some, when k of them were looked at. -/
def reachK (E : Bs → List Bs) (xs : List Bs) : Nat → List Bs
  | 0 => xs
  | k + 1 => match (reachK E xs k)[k]? with
    | some n => addNew (reachK E xs k) (E n)
    | none => reachK E xs k
theorem reachK_step {E : Bs → List Bs} {xs : List Bs} {k : Nat} (h : k < (reachK E xs k).length) : reachK E xs (k + 1) = addNew (reachK E xs k) (E (reachK E xs k)[k]) := by
  rw [reachK, List.getElem?_eq_getElem h]
theorem reachK_end {E : Bs → List Bs} {xs : List Bs} {k : Nat} (h : (reachK E xs k).length ≤ k) : reachK E xs (k + 1) = reachK E xs k := by
  rw [reachK, List.getElem?_eq_none h]
theorem reachK_pre (E : Bs → List Bs) (xs : List Bs) (k : Nat) : reachK E xs k <+: reachK E xs (k + 1) := by
  by_cases h : k < (reachK E xs k).length
  · rw [reachK_step h]; exact addNew_pre _ _
  · rw [reachK_end (by omega)]; exact List.prefix_refl _
theorem reachK_le (E : Bs → List Bs) (xs : List Bs) {j k : Nat} (h : j ≤ k) : reachK E xs j <+: reachK E xs k := by
  induction k with
  | zero => obtain rfl : j = 0 := by omega
            exact List.prefix_refl _
  | succ k ih =>
    by_cases e : j = k + 1
    · subst e; exact List.prefix_refl _
    · exact (ih (by omega)).trans (reachK_pre E xs k)
theorem reachK_stay {E : Bs → List Bs} {xs : List Bs} {k : Nat} (h : (reachK E xs k).length ≤ k) : ∀ j, reachK E xs (k + j) = reachK E xs k
  | 0 => rfl
  | j + 1 => by
    have ih := reachK_stay h j
    have h1 : (reachK E xs (k + j)).length ≤ k + j := by rw [ih]; omega
    rw [← Nat.add_assoc, reachK_end h1, ih]
theorem reachK_all {E : Bs → List Bs} {P : Bs → Prop} {xs : List Bs} (hx : ∀ x ∈ xs, P x) (hE : ∀ n, P n → ∀ y ∈ E n, P y) : ∀ k, ∀ x ∈ reachK E xs k, P x
  | 0 => hx
  | k + 1 => by
    by_cases h : k < (reachK E xs k).length
    · rw [reachK_step h]
      exact addNew_all (reachK_all hx hE k) (hE _ (reachK_all hx hE k _ (List.getElem_mem h)))
    · rw [reachK_end (by omega)]; exact reachK_all hx hE k
theorem reachK_nodup {E : Bs → List Bs} {xs : List Bs} (hn : xs.Nodup) : ∀ k, (reachK E xs k).Nodup
  | 0 => hn
  | k + 1 => by
    by_cases h : k < (reachK E xs k).length
    · rw [reachK_step h]; exact nodup_addNew (reachK_nodup hn k) _
    · rw [reachK_end (by omega)]; exact reachK_nodup hn k
theorem reachK_closed {E : Bs → List Bs} {xs : List Bs} : ∀ (k i : Nat) (h : i < (reachK E xs k).length), i < k → ∀ y ∈ E (reachK E xs k)[i], y ∈ reachK E xs k
  | 0, i, h, hi, y, hy => absurd hi (by omega)
  | k + 1, i, h, hi, y, hy => by
    by_cases hk : k < (reachK E xs k).length
    · have hp := reachK_pre E xs k
      obtain ⟨r, hr⟩ := hp
      by_cases e : i = k
      · subst e
        have e1 : (reachK E xs (i + 1))[i] = (reachK E xs i)[i] := by simp only [← hr]; rw [List.getElem_append_left hk]
        rw [e1] at hy
        rw [reachK_step hk, mem_addNew]; exact .inr hy
      · have hik : i < k := by omega
        have e1 : (reachK E xs (k + 1))[i] = (reachK E xs k)[i]'(by omega) := by simp only [← hr]; rw [List.getElem_append_left (by omega)]
        rw [e1] at hy
        have := reachK_closed k i (by omega) hik y hy
        rw [← hr]; exact List.mem_append_left _ this
    · have e := reachK_end (E := E) (xs := xs) (k := k) (by omega)
      simp only [e] at h hy ⊢
      exact reachK_closed k i h (by omega) y hy
/-- All names to which the bodies of the files lead. -/
def allEdges (t : List Fil) : List Bs := t.flatMap (fun f => full (bodyNeeds f.pack f.body))
theorem allEdges_len {t : List Fil} (h : okTree t = true) : (allEdges t).length ≤ 288 := by
  obtain ⟨h1, _, h12⟩ := okTree_all h
  have key : ∀ l : List Fil, (∀ f ∈ l, okFil f = true) → (allEdges l).length ≤ 24 * l.length := by
    intro l
    induction l with
    | nil => intro _; simp [allEdges]
    | cons f r ih =>
      intro hl
      have h1 := ih (fun x hx => hl x (by simp [hx]))
      have h2 := (full_ok (bodyNeeds f.pack f.body)).2.2
      have h3 := (bodyNeeds_ok (p := f.pack) (okFil_body (hl f (by simp)))).2.2
      unfold allEdges at h1 ⊢
      rw [List.flatMap_cons, List.length_append, List.length_cons]; omega
  have := key t (fun f hf => okTree_file h hf)
  omega
theorem edgesOf_in {t : List Fil} {path : List Int} {s x : Bs} (h : x ∈ edgesOf t path s) : x ∈ allEdges t := by
  unfold edgesOf needsOf at h
  cases hf : fileFor t path s with
  | none => rw [hf] at h; simp [full] at h
  | some f =>
    rw [hf] at h
    exact List.mem_flatMap.2 ⟨f, (fileFor_facts hf).1, h⟩
/-- The names to which ways lead from some. -/
def reachAll (t : List Fil) (path : List Int) (xs : List Bs) : List Bs := reachK (edgesOf t path) xs (xs.length + 288)
theorem reachK_len {t : List Fil} {path : List Int} {xs : List Bs} (ht : okTree t = true) (hn : xs.Nodup) (k : Nat) : (reachK (edgesOf t path) xs k).length ≤ xs.length + 288 := by
  have h1 := nodup_leB _ (xs ++ allEdges t) (reachK_nodup (E := edgesOf t path) hn k) (reachK_all (P := fun x => x ∈ xs ++ allEdges t) (fun x hx => List.mem_append_left _ hx) (fun n _ y hy => List.mem_append_right _ (edgesOf_in hy)) k)
  rw [List.length_append] at h1
  have := allEdges_len ht
  omega
/-- Where the walk over the names ends. -/
theorem reachAll_at {t : List Fil} {path : List Int} {xs : List Bs} (ht : okTree t = true) (hn : xs.Nodup) {k : Nat} (h : (reachK (edgesOf t path) xs k).length ≤ k) (hk : k ≤ xs.length + 288) : reachK (edgesOf t path) xs k = reachAll t path xs := by
  have := reachK_stay h (xs.length + 288 - k)
  rw [← this, Nat.add_sub_cancel' hk]; rfl
theorem reachAll_len {t : List Fil} {path : List Int} {xs : List Bs} (ht : okTree t = true) (hn : xs.Nodup) : (reachAll t path xs).length ≤ xs.length + 288 := reachK_len ht hn _
theorem reachAll_nodup {t : List Fil} {path : List Int} {xs : List Bs} (hn : xs.Nodup) : (reachAll t path xs).Nodup := reachK_nodup hn _
theorem reachAll_vn {t : List Fil} {path : List Int} {xs : List Bs} (hx : ∀ x ∈ xs, vn x = true) : ∀ x ∈ reachAll t path xs, vn x = true := reachK_all hx (fun n _ y hy => (edgesOf_ok t path n).1 y hy) _
theorem reachAll_sub {t : List Fil} {path : List Int} {xs : List Bs} : xs <+: reachAll t path xs := reachK_le _ _ (Nat.zero_le _)
theorem reachAll_closed {t : List Fil} {path : List Int} {xs : List Bs} (ht : okTree t = true) (hn : xs.Nodup) {x y : Bs} (hx : x ∈ reachAll t path xs) (hy : y ∈ edgesOf t path x) : y ∈ reachAll t path xs := by
  obtain ⟨i, hi, rfl⟩ := List.getElem_of_mem hx
  exact reachK_closed _ i hi (Nat.lt_of_lt_of_le hi (reachAll_len ht hn)) y hy
theorem reachAll_least {t : List Fil} {path : List Int} {xs : List Bs} {P : Bs → Prop} (hx : ∀ x ∈ xs, P x) (hE : ∀ n, P n → ∀ y ∈ edgesOf t path n, P y) : ∀ x ∈ reachAll t path xs, P x := reachK_all hx hE _
theorem namesAbove_nodup (s : Bs) : (namesAbove s).Nodup := by
  unfold namesAbove
  split
  · rename_i h
    rw [List.Nodup, List.pairwise_iff_getElem]
    intro i j hi hj hij e
    have hl : (above s).length = (split s).length := by simp [above]
    have e1 : (above s)[i] = join ((split s).take (i + 1)) := by simp [above]
    have e2 : (above s)[j] = join ((split s).take (j + 1)) := by simp [above]
    rw [e1, e2] at e
    have h1 := split_of_vps (take_vps h (i + 1) (by omega))
    have h2 := split_of_vps (take_vps h (j + 1) (by omega))
    rw [e, h2] at h1
    have := congrArg List.length h1
    simp at this
    omega
  · simp

/-! ### What is asked of the names that are reached. -/
def okAsk (t : List Fil) (path : List Int) (s : Bs) : Bool := okLook t path && vn s
def reachOf (t : List Fil) (path : List Int) (s : Bs) : List Bs := if okLook t path then sortUp (reachAll t path (namesAbove s)) else []
def missingOf (t : List Fil) (path : List Int) (s : Bs) : List Bs := (reachOf t path s).filter (fun n => decide ((byParts t path n).kind = 0))
def onRing (t : List Fil) (path : List Int) (s : Bs) : Bool := decide (s ∈ reachAll t path (edgesOf t path s))
def ringsOf (t : List Fil) (path : List Int) (s : Bs) : List Bs := (reachOf t path s).filter (onRing t path)
def simpleBody (b : List Stm) : Bool := b.all (fun s => decide (s.kind = 0 ∨ s.kind = 2 ∨ s.kind = 3))
def simpleAt (t : List Fil) (path : List Int) (s : Bs) : Bool := match fileFor t path s with
  | none => true
  | some f => simpleBody f.body
def isSimple (t : List Fil) (path : List Int) (s : Bs) : Bool := okLook t path && vn s && (reachOf t path s).all (simpleAt t path)
def usersOf (t : List Fil) (path : List Int) (s : Bs) : List Bs := (foundNames t path).filter (fun n => decide (s ∈ edgesOf t path n))

/-! ### Plain facts of the edges of a name: what lies above a name stands ahead of it. Nothing of the program stands here. -/
/-- Each name has its parent ahead of it. -/
def Ahead (xs : List Bs) : Prop := ∀ (i : Nat) (x : Bs), xs[i]? = some x → parentOf x = [] ∨ ∃ k, k < i ∧ xs[k]? = some (parentOf x)
theorem ahead_addOne {xs : List Bs} {y : Bs} (h : Ahead xs) (hy : parentOf y = [] ∨ parentOf y ∈ xs) : Ahead (addOne xs y) := by
  unfold addOne
  split
  · exact h
  · intro i x hi
    by_cases hl : i < xs.length
    · rw [List.getElem?_append_left hl] at hi
      rcases h i x hi with h1 | ⟨k, hk, h1⟩
      · exact .inl h1
      · exact .inr ⟨k, hk, by rw [List.getElem?_append_left (by omega)]; exact h1⟩
    · rw [List.getElem?_append_right (by omega)] at hi
      have hi0 : i - xs.length = 0 := by
        by_cases e : i - xs.length = 0
        · exact e
        · rw [List.getElem?_eq_none (by simp; omega)] at hi; cases hi
      rw [hi0] at hi
      have hx : y = x := by simpa using hi
      subst hx
      rcases hy with hy | hy
      · exact .inl hy
      · obtain ⟨k, hk, e⟩ := List.getElem_of_mem hy
        exact .inr ⟨k, by omega, by rw [List.getElem?_append_left hk, List.getElem?_eq_getElem hk, e]⟩
theorem ahead_addNew : ∀ (ys xs : List Bs), Ahead xs → (∀ j (h : j < ys.length), parentOf ys[j] = [] ∨ parentOf ys[j] ∈ xs ∨ parentOf ys[j] ∈ ys.take j) → Ahead (addNew xs ys)
  | [], xs, h, _ => h
  | y :: ys, xs, h, hy => by
    have h0 := hy 0 (by simp)
    have h1 : Ahead (addOne xs y) := ahead_addOne h (by
      rcases h0 with h0 | h0 | h0
      · exact .inl h0
      · exact .inr h0
      · exact absurd h0 (by simp))
    refine ahead_addNew ys (addOne xs y) h1 (fun j hj => ?_)
    have h2 := hy (j + 1) (by simp; omega)
    simp only [List.getElem_cons_succ, List.take_succ_cons, List.mem_cons] at h2
    rcases h2 with h2 | h2 | h2 | h2
    · exact .inl h2
    · exact .inr (.inl ((mem_addOne _ _ _).2 (.inl h2)))
    · exact .inr (.inl ((mem_addOne _ _ _).2 (.inr h2)))
    · exact .inr (.inr h2)
theorem above_ahead (l : Bs) : ∀ j (h : j < (namesAbove l).length), parentOf (namesAbove l)[j] = [] ∨ parentOf (namesAbove l)[j] ∈ (namesAbove l).take j := by
  cases hv : vn l
  · intro j h
    have e : namesAbove l = [] := by simp [namesAbove, hv]
    rw [e] at h; simp at h
  · have e : namesAbove l = above l := by simp [namesAbove, hv]
    rw [e]
    intro j h
    by_cases h0 : j = 0
    · subst h0; exact .inl (above_parent0 hv h)
    · right
      rw [above_parent hv j h (by omega)]
      exact List.mem_take_iff_getElem.2 ⟨j - 1, by omega, rfl⟩
theorem ahead_fold : ∀ (ns xs : List Bs), Ahead xs → Ahead (ns.foldl (fun xs n => addNew xs (namesAbove n)) xs)
  | [], xs, h => h
  | n :: ns, xs, h => ahead_fold ns _ (ahead_addNew _ _ h (fun j hj => by
    rcases above_ahead n j hj with h1 | h1
    · exact .inl h1
    · exact .inr (.inr h1)))
theorem ahead_full (ns : List Bs) : Ahead (full ns) := ahead_fold ns [] (fun i x h => by simp at h)
theorem needs_in_edges (t : List Fil) (path : List Int) (s : Bs) : ∀ x ∈ needsOf t path s, x ∈ edgesOf t path s := by
  intro x hx
  have hv := (needsOf_ok t path s).1 x hx
  exact (mem_full x _).2 ⟨x, hx, by rw [show namesAbove x = above x by simp [namesAbove, hv]]; exact mem_above_self x⟩

/-! ### The plain order of modules as plain data: rings, what depends on what, and visits. Nothing of the program stands here. -/
theorem sortUp_filter (p : Bs → Bool) (L : List Bs) : sortUp (L.filter p) = (sortUp L).filter p :=
  up_ext (sortUp_up _) (up_filter p (sortUp_up _)) (fun x => by rw [sortUp_mem, List.mem_filter, List.mem_filter, sortUp_mem])

/-! ### Ways. -/
def Edge (t : List Fil) (path : List Int) (x y : Bs) : Prop := y ∈ edgesOf t path x
theorem reach_iff {t : List Fil} {path : List Int} {xs : List Bs} (ht : okTree t = true) (hn : xs.Nodup) (y : Bs) :
    y ∈ reachAll t path xs ↔ ∃ x ∈ xs, x = y ∨ TransGen (Edge t path) x y := by
  constructor
  · intro h
    refine reachAll_least (P := fun y => ∃ x ∈ xs, x = y ∨ TransGen (Edge t path) x y) (fun x hx => ⟨x, hx, .inl rfl⟩) (fun n hn' y hy => ?_) y h
    obtain ⟨x, hx, h1⟩ := hn'
    refine ⟨x, hx, .inr ?_⟩
    rcases h1 with rfl | h1
    · exact .single hy
    · exact .tail h1 hy
  · rintro ⟨x, hx, rfl | h1⟩
    · exact reachAll_sub.subset hx
    · have h0 : x ∈ reachAll t path xs := reachAll_sub.subset hx
      induction h1 with
      | single h => exact reachAll_closed ht hn h0 h
      | tail _ h ih => exact reachAll_closed ht hn ih h
theorem onRing_iff {t : List Fil} {path : List Int} (ht : okTree t = true) (s : Bs) : onRing t path s = true ↔ TransGen (Edge t path) s s := by
  unfold onRing
  rw [decide_eq_true_iff, reach_iff ht (edgesOf_ok t path s).2.1]
  constructor
  · rintro ⟨x, hx, rfl | h⟩
    · exact .single hx
    · exact TransGen.trans (.single hx) h
  · intro h
    have key : ∀ z, TransGen (Edge t path) s z → ∃ x ∈ edgesOf t path s, x = z ∨ TransGen (Edge t path) x z := by
      intro z hz
      induction hz with
      | single h => exact ⟨_, h, .inl rfl⟩
      | tail _ h ih =>
        obtain ⟨x, hx, h2⟩ := ih
        refine ⟨x, hx, .inr ?_⟩
        rcases h2 with rfl | h2
        · exact .single h
        · exact .tail h2 h
    exact key s h
theorem edge_up {t : List Fil} {path : List Int} {x y : Bs} (h : y ∈ edgesOf t path x) (hp : parentOf y ≠ []) : parentOf y ∈ edgesOf t path x := by
  obtain ⟨i, hi, e⟩ := List.getElem_of_mem h
  rcases (ahead_full (needsOf t path x)) i y (by rw [← e]; exact List.getElem?_eq_getElem hi) with h1 | ⟨k, _, h1⟩
  · exact absurd h1 hp
  · exact List.mem_of_getElem? h1

/-! ### What a module depends on: what is above it, and what it needs. -/
def dep (t : List Fil) (path : List Int) (s : Bs) : List Bs := (if parentOf s = [] then [] else [parentOf s]) ++ needsOf t path s
def Dep (t : List Fil) (path : List Int) (x y : Bs) : Prop := y ∈ dep t path x
theorem mem_dep {t : List Fil} {path : List Int} {x y : Bs} : y ∈ dep t path x ↔ (y = parentOf x ∧ parentOf x ≠ []) ∨ y ∈ needsOf t path x := by
  unfold dep
  rw [List.mem_append]
  by_cases h : parentOf x = []
  · rw [if_pos h]; simp [h]
  · rw [if_neg h]; simp [h]
theorem parentOf_lt {s : Bs} (h : parentOf s ≠ []) : (parentOf s).length < s.length := by
  have hv : vn s = true := by
    cases e : vn s
    · exact absurd (by unfold parentOf; rw [e]; rfl) h
    · rfl
  have e : parentOf s = parent s := parentOf_of hv
  rw [e] at h ⊢
  have hc := congrArg List.length (child_parent_last s hv)
  unfold child at hc
  rw [if_neg h] at hc
  simp at hc
  omega
/-- A name above, by one step or more. -/
inductive Anc : Bs → Bs → Prop
  | one {x : Bs} : parentOf x ≠ [] → Anc x (parentOf x)
  | more {x y : Bs} : Anc x y → parentOf y ≠ [] → Anc x (parentOf y)
theorem Anc.lt {x y : Bs} (h : Anc x y) : y.length < x.length := by
  induction h with
  | one h => exact parentOf_lt h
  | more _ h ih => exact Nat.lt_trans (parentOf_lt h) ih
/-- What leads to a name leads to all above it. -/
theorem Anc.edge {t : List Fil} {path : List Int} {x y z : Bs} (h : Anc x y) (he : x ∈ edgesOf t path z) : y ∈ edgesOf t path z := by
  induction h with
  | one h => exact edge_up he h
  | more _ h ih => exact edge_up ih h
theorem dep_ways {t : List Fil} {path : List Int} {x y : Bs} (h : TransGen (Dep t path) x y) : Anc x y ∨ ∃ n, (n = x ∨ Anc x n) ∧ TransGen (Edge t path) n y := by
  have needs_edge : ∀ {a b : Bs}, b ∈ needsOf t path a → Edge t path a b := fun h => needs_in_edges t path _ _ h
  have up : ∀ {n e : Bs}, TransGen (Edge t path) n e → parentOf e ≠ [] → TransGen (Edge t path) n (parentOf e) := by
    intro n e h hp
    cases h with
    | single h => exact .single (edge_up h hp)
    | tail h1 h => exact .tail h1 (edge_up h hp)
  induction h with
  | single h =>
    rcases mem_dep.1 h with ⟨rfl, hp⟩ | h
    · exact .inl (.one hp)
    · exact .inr ⟨x, .inl rfl, .single (needs_edge h)⟩
  | tail _ h ih =>
    rcases mem_dep.1 h with ⟨rfl, hp⟩ | h
    · rcases ih with ih | ⟨n, hn, ih⟩
      · exact .inl (.more ih hp)
      · exact .inr ⟨n, hn, up ih hp⟩
    · rcases ih with ih | ⟨n, hn, ih⟩
      · exact .inr ⟨_, .inr ih, .single (needs_edge h)⟩
      · exact .inr ⟨n, hn, .tail ih (needs_edge h)⟩
/-- Without a ring nothing depends on itself. -/
theorem dep_ring {t : List Fil} {path : List Int} {x : Bs} (h : TransGen (Dep t path) x x) : ∃ n, (n = x ∨ Anc x n) ∧ TransGen (Edge t path) n n := by
  rcases dep_ways h with h | ⟨n, hn, h⟩
  · exact absurd h.lt (Nat.lt_irrefl _)
  · refine ⟨n, hn, ?_⟩
    rcases hn with rfl | hn
    · exact h
    · cases h with
      | single h => exact .single (hn.edge h)
      | tail h1 h => exact .tail h1 (hn.edge h)
/-- Names that have all that they depend on, and no ring. -/
structure PlainIn (t : List Fil) (path : List Int) (R : List Bs) : Prop where
  dep : ∀ x ∈ R, ∀ y ∈ dep t path x, y ∈ R
  no : ∀ x ∈ R, ¬ TransGen (Dep t path) x x
  vn : ∀ x ∈ R, vn x = true
  nodup : R.Nodup
  len : R.length ≤ 291
theorem reach_dep {t : List Fil} {path : List Int} {s x y : Bs} (ht : okTree t = true) (hx : x ∈ reachAll t path (namesAbove s)) (hy : y ∈ dep t path x) : y ∈ reachAll t path (namesAbove s) := by
  rcases mem_dep.1 hy with ⟨rfl, hp⟩ | h
  · rcases (reach_iff ht (namesAbove_nodup s) x).1 hx with ⟨z, hz, rfl | h⟩
    · obtain ⟨j, hj, e⟩ := List.getElem_of_mem hz
      have := above_ahead s j hj
      rw [e] at this
      rcases this with h1 | h1
      · exact absurd h1 hp
      · exact reachAll_sub.subset (List.mem_of_mem_take h1)
    · refine (reach_iff ht (namesAbove_nodup s) _).2 ⟨z, hz, .inr ?_⟩
      cases h with
      | single h => exact .single (edge_up h hp)
      | tail h1 h => exact .tail h1 (edge_up h hp)
  · exact reachAll_closed ht (namesAbove_nodup s) hx (needs_in_edges t path x y h)
theorem reach_anc {t : List Fil} {path : List Int} {s x y : Bs} (ht : okTree t = true) (hx : x ∈ reachAll t path (namesAbove s)) (hy : Anc x y) : y ∈ reachAll t path (namesAbove s) := by
  induction hy with
  | one h => exact reach_dep ht hx (mem_dep.2 (.inl ⟨rfl, h⟩))
  | more _ h ih => exact reach_dep ht ih (mem_dep.2 (.inl ⟨rfl, h⟩))
theorem reachOf_mem {t : List Fil} {path : List Int} {s x : Bs} (hl : okLook t path = true) : x ∈ reachOf t path s ↔ x ∈ reachAll t path (namesAbove s) := by
  unfold reachOf; rw [if_pos hl, sortUp_mem]
theorem plain_in {t : List Fil} {path : List Int} {s : Bs} (hl : okLook t path = true) (hr : ringsOf t path s = []) : PlainIn t path (reachAll t path (namesAbove s)) where
  dep := fun x hx y hy => reach_dep (okLook_tree hl) hx hy
  no := fun x hx h => by
    obtain ⟨n, hn, hn2⟩ := dep_ring h
    have hm : n ∈ reachAll t path (namesAbove s) := by
      rcases hn with rfl | hn
      · exact hx
      · exact reach_anc (okLook_tree hl) hx hn
    have : n ∈ ringsOf t path s := List.mem_filter.2 ⟨(reachOf_mem hl).2 hm, (onRing_iff (okLook_tree hl) n).2 hn2⟩
    rw [hr] at this; simp at this
  vn := reachAll_vn (fun x hx => namesAbove_vn hx)
  nodup := reachAll_nodup (namesAbove_nodup s)
  len := by
    have h1 := reachAll_len (path := path) (okLook_tree hl) (namesAbove_nodup s)
    have h2 := namesAbove_le3 s
    omega

/-! ### How deep visits go. -/
open Classical in
noncomputable def rank (t : List Fil) (path : List Int) (R : List Bs) (s : Bs) : Nat := (R.filter (fun x => decide (TransGen (Dep t path) s x))).length
theorem filter_ltO {α : Type} {p q : α → Bool} (h : ∀ x, p x = true → q x = true) : ∀ {l : List α} {y : α}, y ∈ l → p y = false → q y = true → (l.filter p).length < (l.filter q).length
  | x :: r, y, hy, hp, hq => by
    have le : ∀ l : List α, (l.filter p).length ≤ (l.filter q).length := by
      intro l
      induction l with
      | nil => exact Nat.le_refl _
      | cons z l ih =>
        simp only [List.filter_cons]
        cases hz : p z
        · cases hq : q z <;> simp <;> omega
        · rw [h z hz]; simp; omega
    simp only [List.filter_cons]
    rcases List.mem_cons.1 hy with rfl | hy
    · rw [hp, hq]
      have := le r
      simp; omega
    · have ih := filter_ltO h hy hp hq
      cases hpx : p x
      · cases hqx : q x <;> simp <;> omega
      · rw [h x hpx]; simp; omega
theorem rank_lt {t : List Fil} {path : List Int} {R : List Bs} (hR : PlainIn t path R) {x y : Bs} (hx : x ∈ R) (hy : y ∈ dep t path x) : rank t path R y < rank t path R x := by
  classical
  unfold rank
  refine filter_ltO (fun z hz => ?_) (hR.dep x hx y hy) ?_ ?_
  · rw [decide_eq_true_iff] at hz ⊢
    exact TransGen.trans (.single hy) hz
  · rw [decide_eq_false_iff_not]
    exact hR.no y (hR.dep x hx y hy)
  · rw [decide_eq_true_iff]
    exact .single hy
theorem rank_le {t : List Fil} {path : List Int} {R : List Bs} (hR : PlainIn t path R) (x : Bs) : rank t path R x ≤ 291 := by
  classical
  exact Nat.le_trans (List.length_filter_le _ _) hR.len

/-! ### Visits. -/
def visitN (N : Bs → List Bs) : Nat → List Bs → Bs → List Bs
  | 0, o, _ => o
  | f + 1, o, s => if s = [] ∨ s ∈ o then o else (N s).foldl (visitN N f) (visitN N f o (parentOf s)) ++ [s]
def visit (t : List Fil) (path : List Int) (o : List Bs) (s : Bs) : List Bs := visitN (needsOf t path) 300 o s
theorem foldl_same {α β : Type} {f g : α → β → α} : ∀ (l : List β) (a : α), (∀ a, ∀ x ∈ l, f a x = g a x) → l.foldl f a = l.foldl g a
  | [], _, _ => rfl
  | x :: r, a, h => by
    rw [List.foldl_cons, List.foldl_cons, h a x (by simp)]
    exact foldl_same r _ (fun a y hy => h a y (by simp [hy]))
theorem visitN_nil (N : Bs → List Bs) (f : Nat) (o : List Bs) : visitN N f o [] = o := by
  cases f with
  | zero => rfl
  | succ f => rw [visitN, if_pos (.inl rfl)]
theorem visitN_same {t : List Fil} {path : List Int} {R : List Bs} (hR : PlainIn t path R) : ∀ (f g : Nat) (o : List Bs) (s : Bs), s ∈ R → rank t path R s < f → rank t path R s < g → visitN (needsOf t path) f o s = visitN (needsOf t path) g o s
  | 0, _, _, _, _, h, _ => absurd h (by omega)
  | _, 0, _, _, _, _, h => absurd h (by omega)
  | f + 1, g + 1, o, s, hs, hf, hg => by
    rw [visitN, visitN]
    split
    · rfl
    · have hp : visitN (needsOf t path) f o (parentOf s) = visitN (needsOf t path) g o (parentOf s) := by
        by_cases h0 : parentOf s = []
        · rw [h0, visitN_nil, visitN_nil]
        · have hd : parentOf s ∈ dep t path s := mem_dep.2 (.inl ⟨rfl, h0⟩)
          have := rank_lt hR hs hd
          exact visitN_same hR f g o _ (hR.dep s hs _ hd) (by omega) (by omega)
      rw [hp]
      congr 1
      refine foldl_same _ _ (fun a x hx => ?_)
      have hd : x ∈ dep t path s := mem_dep.2 (.inr hx)
      have := rank_lt hR hs hd
      exact visitN_same hR f g a x (hR.dep s hs _ hd) (by omega) (by omega)
theorem visit_step {t : List Fil} {path : List Int} {R : List Bs} (hR : PlainIn t path R) {s : Bs} (hs : s ∈ R) (o : List Bs) : visit t path o s = if s ∈ o then o else (needsOf t path s).foldl (visit t path) (visit t path o (parentOf s)) ++ [s] := by
  have hne : s ≠ [] := vn_ne (hR.vn s hs)
  have e0 : visit t path o s = if s = [] ∨ s ∈ o then o else (needsOf t path s).foldl (visitN (needsOf t path) 299) (visitN (needsOf t path) 299 o (parentOf s)) ++ [s] := rfl
  rw [e0]
  by_cases h : s ∈ o
  · rw [if_pos (.inr h), if_pos h]
  · rw [if_neg (by simp [hne, h]), if_neg h]
    have up : ∀ a x, x ∈ dep t path s → visitN (needsOf t path) 299 a x = visit t path a x := fun a x hd => by
      have h1 := rank_lt hR hs hd
      have h2 := rank_le hR s
      exact visitN_same hR 299 300 a x (hR.dep s hs _ hd) (by omega) (by omega)
    have hp : visitN (needsOf t path) 299 o (parentOf s) = visit t path o (parentOf s) := by
      by_cases h0 : parentOf s = []
      · rw [h0, visitN_nil]; exact (visitN_nil _ _ _).symm
      · exact up o _ (mem_dep.2 (.inl ⟨rfl, h0⟩))
    rw [hp]
    exact congrArg (fun l => l ++ [s]) (foldl_same _ _ (fun a x hx => up a x (mem_dep.2 (.inr hx))))
theorem visit_nil (t : List Fil) (path : List Int) (o : List Bs) : visit t path o [] = o := visitN_nil _ _ _
/-- What holds of an order stays so in a visit. -/
theorem visit_ind {t : List Fil} {path : List Int} {R : List Bs} (hR : PlainIn t path R) {P : List Bs → Prop} {s : Bs}
    (step : ∀ x, (x = s ∨ TransGen (Dep t path) s x) → x ∈ R → ∀ o o', P o → P o' → o <+: o' → x ∉ o' → (∀ y ∈ dep t path x, y ∈ o') → P (o' ++ [x])) :
    ∀ (n : Nat) (x : Bs), x ∈ R → (x = s ∨ TransGen (Dep t path) s x) → rank t path R x < n → ∀ o, P o → P (visit t path o x) ∧ o <+: visit t path o x ∧ x ∈ visit t path o x ∧ ∀ y ∈ visit t path o x, y ∈ o ∨ y = x ∨ TransGen (Dep t path) x y
  | 0, _, _, _, h, _, _ => absurd h (by omega)
  | n + 1, x, hx, hsx, hn, o, ho => by
    rw [visit_step hR hx]
    by_cases hm : x ∈ o
    · rw [if_pos hm]
      exact ⟨ho, List.prefix_refl _, hm, fun y hy => .inl hy⟩
    · rw [if_neg hm]
      have down : ∀ y, y ∈ dep t path x → y ∈ R ∧ (y = s ∨ TransGen (Dep t path) s y) ∧ rank t path R y < n := fun y hy => by
        have h1 := rank_lt hR hx hy
        refine ⟨hR.dep x hx y hy, .inr ?_, by omega⟩
        rcases hsx with rfl | h
        · exact .single hy
        · exact .tail h hy
      obtain ⟨o1, ho1⟩ : ∃ o1, o1 = visit t path o (parentOf x) := ⟨_, rfl⟩
      have h1 : P o1 ∧ o <+: o1 ∧ (parentOf x ≠ [] → parentOf x ∈ o1) ∧ ∀ y ∈ o1, y ∈ o ∨ TransGen (Dep t path) x y := by
        rw [ho1]
        by_cases h0 : parentOf x = []
        · rw [h0, visit_nil]
          exact ⟨ho, List.prefix_refl _, fun h => absurd rfl h, fun y hy => .inl hy⟩
        · have hd : parentOf x ∈ dep t path x := mem_dep.2 (.inl ⟨rfl, h0⟩)
          obtain ⟨d1, d2, d3⟩ := down _ hd
          obtain ⟨a, b, c, d⟩ := visit_ind hR step n _ d1 d2 d3 o ho
          refine ⟨a, b, fun _ => c, fun y hy => ?_⟩
          rcases d y hy with h | rfl | h
          · exact .inl h
          · exact .inr (.single hd)
          · exact .inr (TransGen.trans (.single hd) h)
      rw [← ho1]
      clear ho1
      have fold : ∀ (l : List Bs), (∀ y ∈ l, y ∈ dep t path x) → ∀ o1, P o1 → (∀ y ∈ o1, y ∈ o ∨ TransGen (Dep t path) x y) → P (l.foldl (visit t path) o1) ∧ o1 <+: l.foldl (visit t path) o1 ∧ (∀ y ∈ l, y ∈ l.foldl (visit t path) o1) ∧ ∀ y ∈ l.foldl (visit t path) o1, y ∈ o ∨ TransGen (Dep t path) x y := by
        intro l
        induction l with
        | nil => intro _ o1 h1 h4; exact ⟨h1, List.prefix_refl _, by simp, h4⟩
        | cons y r ih =>
          intro hl o1 h1 h4
          have hd := hl y (by simp)
          obtain ⟨d1, d2, d3⟩ := down _ hd
          obtain ⟨a, b, c, d⟩ := visit_ind hR step n _ d1 d2 d3 o1 h1
          obtain ⟨a', b', c', d'⟩ := ih (fun z hz => hl z (by simp [hz])) _ a (fun z hz => by
            rcases d z hz with h | rfl | h
            · exact h4 z h
            · exact .inr (.single hd)
            · exact .inr (TransGen.trans (.single hd) h))
          rw [List.foldl_cons]
          refine ⟨a', b.trans b', fun z hz => ?_, d'⟩
          rcases List.mem_cons.1 hz with rfl | hz
          · exact b'.subset c
          · exact c' z hz
      obtain ⟨a, b, c, d⟩ := fold (needsOf t path x) (fun y hy => mem_dep.2 (.inr hy)) o1 h1.1 h1.2.2.2
      have hnot : x ∉ (needsOf t path x).foldl (visit t path) o1 := fun h => by
        rcases d x h with h | h
        · exact hm h
        · exact hR.no x hx h
      refine ⟨step x hsx hx o _ ho a (h1.2.1.trans b) hnot (fun y hy => ?_), (h1.2.1.trans b).trans (List.prefix_append _ _), by simp, fun y hy => ?_⟩
      · rcases mem_dep.1 hy with ⟨rfl, hp⟩ | hy
        · exact b.subset (h1.2.2.1 hp)
        · exact c y hy
      · rcases List.mem_append.1 hy with hy | hy
        · rcases d y hy with h | h
          · exact .inl h
          · exact .inr (.inr h)
        · simp at hy; exact .inr (.inl hy)
/-- What a visit adds: the name, and what it depends on. -/
theorem visit_mem {t : List Fil} {path : List Int} {R : List Bs} (hR : PlainIn t path R) {x : Bs} (hx : x ∈ R) (o : List Bs) : o <+: visit t path o x ∧ x ∈ visit t path o x ∧ ∀ y ∈ visit t path o x, y ∈ o ∨ y = x ∨ TransGen (Dep t path) x y :=
  (visit_ind hR (P := fun _ => True) (s := x) (fun _ _ _ _ _ _ _ _ _ _ => trivial) _ x hx (.inl rfl) (Nat.lt_succ_self _) o trivial).2
theorem dep_in {t : List Fil} {path : List Int} {R : List Bs} (hR : PlainIn t path R) {x y : Bs} (hx : x ∈ R) (h : TransGen (Dep t path) x y) : y ∈ R := by
  induction h with
  | single h => exact hR.dep x hx _ h
  | tail _ h ih => exact hR.dep _ ih _ h
/-- An order of names of R, each once. -/
def Ordered (R o : List Bs) : Prop := o.Nodup ∧ ∀ x ∈ o, x ∈ R
theorem Ordered.len {t : List Fil} {path : List Int} {R o : List Bs} (hR : PlainIn t path R) (h : Ordered R o) : o.length ≤ 291 := Nat.le_trans (nodup_leB _ _ h.1 h.2) hR.len
theorem visit_ordered {t : List Fil} {path : List Int} {R : List Bs} (hR : PlainIn t path R) {x : Bs} (hx : x ∈ R) {o : List Bs} (ho : Ordered R o) : Ordered R (visit t path o x) :=
  (visit_ind hR (P := Ordered R) (s := x) (fun z _ hz o o' _ h _ hn _ => ⟨by
    rw [List.nodup_append]
    exact ⟨h.1, by simp, fun a ha b hb => by simp at hb; subst hb; rintro rfl; exact hn ha⟩, fun y hy => by
    rcases List.mem_append.1 hy with hy | hy
    · exact h.2 y hy
    · simp at hy; subst hy; exact hz⟩) _ x hx (.inl rfl) (Nat.lt_succ_self _) o ho).1
/-- Each name stands behind what it depends on. -/
def Behind (t : List Fil) (path : List Int) (o : List Bs) : Prop := ∀ (i : Nat) (x : Bs), o[i]? = some x → ∀ y ∈ dep t path x, ∃ k, k < i ∧ o[k]? = some y
theorem visit_behind {t : List Fil} {path : List Int} {R : List Bs} (hR : PlainIn t path R) {x : Bs} (hx : x ∈ R) {o : List Bs} (ho : Behind t path o) : Behind t path (visit t path o x) :=
  (visit_ind hR (P := Behind t path) (s := x) (fun z _ hz o o' _ h _ hn hd => fun i w hi y hy => by
    by_cases hl : i < o'.length
    · rw [List.getElem?_append_left hl] at hi
      obtain ⟨k, hk, e⟩ := h i w hi y hy
      exact ⟨k, hk, by rw [List.getElem?_append_left (by omega)]; exact e⟩
    · rw [List.getElem?_append_right (by omega)] at hi
      have hi0 : i - o'.length = 0 := by
        by_cases e : i - o'.length = 0
        · exact e
        · rw [List.getElem?_eq_none (by simp; omega)] at hi; cases hi
      rw [hi0] at hi
      have hw : z = w := by simpa using hi
      subst hw
      obtain ⟨k, hk, e⟩ := List.getElem_of_mem (hd y hy)
      exact ⟨k, by omega, by rw [List.getElem?_append_left hk, List.getElem?_eq_getElem hk, e]⟩) _ x hx (.inl rfl) (Nat.lt_succ_self _) o ho).1
theorem visit_last {t : List Fil} {path : List Int} {R : List Bs} (hR : PlainIn t path R) {x : Bs} (hx : x ∈ R) {o : List Bs} (hn : x ∉ o) : ∃ o', visit t path o x = o' ++ [x] := by
  rw [visit_step hR hx, if_neg hn]; exact ⟨_, rfl⟩

/-! ### The plain order. -/
def okPlain (t : List Fil) (path : List Int) (s : Bs) : Bool := okLook t path && vn s && (ringsOf t path s).isEmpty && (missingOf t path s).isEmpty
def plainOrder (t : List Fil) (path : List Int) (s : Bs) : List Bs := if okPlain t path s then visit t path [] s else []
theorem self_reach {t : List Fil} {path : List Int} {s : Bs} (hv : vn s = true) : s ∈ reachAll t path (namesAbove s) := by
  refine reachAll_sub.subset ?_
  rw [show namesAbove s = above s by simp [namesAbove, hv]]
  exact mem_above_self s
theorem plain_facts {t : List Fil} {path : List Int} {s : Bs} (h : okPlain t path s = true) : okLook t path = true ∧ vn s = true ∧ ringsOf t path s = [] ∧ missingOf t path s = [] := by
  unfold okPlain at h
  simp only [Bool.and_eq_true, List.isEmpty_iff] at h
  exact ⟨h.1.1.1, h.1.1.2, h.1.2, h.2⟩
theorem plainOrder_len (t : List Fil) (path : List Int) (s : Bs) : (plainOrder t path s).length ≤ 291 := by
  unfold plainOrder
  split
  · rename_i h
    obtain ⟨hl, hv, hr, _⟩ := plain_facts h
    have hR := plain_in hl hr
    exact (visit_ordered hR (self_reach hv) (o := []) ⟨by simp, by simp⟩).len hR
  · simp
/-- What P78 asks of the plain order. -/
theorem plain_order {t : List Fil} {path : List Int} {s : Bs} (h : okPlain t path s = true) :
    (∀ (i : Nat) (x : Bs), (plainOrder t path s)[i]? = some x → ∀ y ∈ edgesOf t path x ++ namesAbove x, ∃ k, k ≤ i ∧ (plainOrder t path s)[k]? = some y) ∧
    (∃ o, plainOrder t path s = o ++ [s]) ∧ (∀ x ∈ plainOrder t path s, x ∈ reachOf t path s ∧ vn x = true) ∧ (∀ x ∈ reachOf t path s, x ∈ plainOrder t path s) := by
  have e : plainOrder t path s = visit t path [] s := by unfold plainOrder; rw [if_pos h]
  obtain ⟨hl, hv, hr, _⟩ := plain_facts h
  have ht := okLook_tree hl
  have hR := plain_in hl hr
  have hs : s ∈ reachAll t path (namesAbove s) := self_reach hv
  have hb : Behind t path (plainOrder t path s) := by rw [e]; exact visit_behind hR hs (o := []) (fun i x hi => by simp at hi)
  have ho : Ordered (reachAll t path (namesAbove s)) (plainOrder t path s) := by rw [e]; exact visit_ordered hR hs (o := []) ⟨by simp, by simp⟩
  have hm : s ∈ plainOrder t path s := by rw [e]; exact (visit_mem hR hs []).2.1
  generalize plainOrder t path s = o at *
  -- what is above a name stands ahead of it
  have hab : ∀ (n : Nat) (i : Nat) (x : Bs), x.length ≤ n → o[i]? = some x → ∀ y ∈ namesAbove x, ∃ k, k ≤ i ∧ o[k]? = some y := by
    intro n
    induction n with
    | zero =>
      intro i x hx hi y hy
      have : x = [] := List.length_eq_zero_iff.1 (by omega)
      subst this
      exact absurd hy (by rw [show namesAbove [] = [] from rfl]; simp)
    | succ n ih =>
      intro i x hx hi y hy
      have hvx : vn x = true := hR.vn x (ho.2 x (List.mem_of_getElem? hi))
      rw [show namesAbove x = above x by simp [namesAbove, hvx], parent_name hvx, List.mem_append] at hy
      rcases hy with hy | hy
      · by_cases h0 : parent x = []
        · rw [if_pos h0] at hy; simp at hy
        · rw [if_neg h0] at hy
          have hp0 : parentOf x ≠ [] := by rw [parentOf_of hvx]; exact h0
          have hd : parentOf x ∈ dep t path x := mem_dep.2 (.inl ⟨rfl, hp0⟩)
          obtain ⟨k, hk, e3⟩ := hb i x hi _ hd
          have h4 := parentOf_lt hp0
          obtain ⟨k', hk', e5⟩ := ih k (parentOf x) (by omega) e3 y (by
            rw [parentOf_of hvx, show namesAbove (parent x) = above (parent x) by simp [namesAbove, parent_vn hvx h0]]; exact hy)
          exact ⟨k', by omega, e5⟩
      · simp at hy; subst hy
        exact ⟨i, Nat.le_refl _, hi⟩
  refine ⟨fun i x hi y hy => ?_, ?_, fun x hx => ⟨(reachOf_mem hl).2 (ho.2 x hx), hR.vn x (ho.2 x hx)⟩, fun x hx => ?_⟩
  · rcases List.mem_append.1 hy with hy | hy
    · obtain ⟨n, hn, hy⟩ := (mem_full y _).1 hy
      obtain ⟨k, hk, e1⟩ := hb i x hi n (mem_dep.2 (.inr hn))
      obtain ⟨k', hk', e2⟩ := hab _ k n (Nat.le_refl _) e1 y hy
      exact ⟨k', by omega, e2⟩
    · exact hab _ i x (Nat.le_refl _) hi y hy
  · obtain ⟨o', e1⟩ := visit_last hR hs (o := []) (by simp)
    exact ⟨o', by rw [← e1]; exact e⟩
  · rw [reachOf_mem hl] at hx
    refine reachAll_least (P := fun x => x ∈ o) (fun y hy => ?_) (fun n hn y hy => ?_) x hx
    · obtain ⟨i, hi, e1⟩ := List.getElem_of_mem hm
      obtain ⟨k, _, e2⟩ := hab _ i s (Nat.le_refl _) (by rw [List.getElem?_eq_getElem hi, e1]) y hy
      exact List.mem_of_getElem? e2
    · obtain ⟨i, hi, e1⟩ := List.getElem_of_mem hn
      obtain ⟨z, hz, hy⟩ := (mem_full y _).1 hy
      obtain ⟨k, _, e2⟩ := hb i n (by rw [List.getElem?_eq_getElem hi, e1]) z (mem_dep.2 (.inr hz))
      obtain ⟨k', _, e3⟩ := hab _ k z (Nat.le_refl _) e2 y hy
      exact List.mem_of_getElem? e3

/-! ### The names that are reached. -/
/-- Whether a name is not found. -/
def missN (fs : List Fil) (path : List Int) (n : Bs) : Bool := decide ((byParts fs path n).kind = 0)
theorem filterM_snoc (p : Bs → Bool) (L : List Bs) (k : Nat) (h : k < L.length) : (L.take (k + 1)).filter p = (L.take k).filter p ++ (if p L[k] = true then [L[k]] else []) := by
  rw [List.take_succ_eq_append_getElem h, List.filter_append]
  cases h1 : p L[k] <;> simp [List.filter_cons, h1]
theorem up_nodup {l : List Bs} (h : Up l) : l.Nodup := List.Pairwise.imp (fun {a b} hab e => by subst e; rw [ltB_irr] at hab; cases hab) h
theorem reachOf_ne {t : List Fil} {path : List Int} {s : Bs} (h : reachOf t path s ≠ []) : okLook t path = true ∧ vn s = true := by
  constructor
  · cases e : okLook t path
    · exact absurd (by unfold reachOf; rw [e]; rfl) h
    · rfl
  · cases e : vn s
    · refine absurd ?_ h
      have e1 : namesAbove s = [] := by simp [namesAbove, e]
      unfold reachOf; rw [e1]; split
      · have : ∀ k, reachK (edgesOf t path) [] k = [] := fun k => by
          induction k with
          | zero => rfl
          | succ k ih => rw [reachK_end (by rw [ih]; simp), ih]
        unfold reachAll; rw [this]; rfl
      · rfl
    · rfl
theorem reachOf_no {t : List Fil} {path : List Int} {s : Bs} (h : okLook t path = false ∨ vn s = false) : reachOf t path s = [] := by
  by_cases e : reachOf t path s = []
  · exact e
  · obtain ⟨h1, h2⟩ := reachOf_ne e
    rcases h with h | h
    · rw [h1] at h; cases h
    · rw [h2] at h; cases h
theorem reachOf_facts (t : List Fil) (path : List Int) (s : Bs) : (reachOf t path s).length ≤ 300 ∧ (∀ x ∈ reachOf t path s, vn x = true) ∧ (reachOf t path s).Nodup := by
  unfold reachOf
  split
  · rename_i h
    have h1 := reachAll_len (path := path) (okLook_tree h) (namesAbove_nodup s)
    have h2 := namesAbove_le3 s
    refine ⟨Nat.le_trans (sortUp_len _) (by omega), fun x hx => ?_, up_nodup (sortUp_up _)⟩
    rw [sortUp_mem] at hx
    exact reachAll_vn (fun x hx => namesAbove_vn hx) x hx
  · simp

/-! ### Layers of modules as plain data. Nothing of the program stands here. -/
/-- A name that leads to none of some names. -/
def freeOf (E : Bs → List Bs) (rest : List Bs) (s : Bs) : Bool := (E s ++ [parentOf s]).all (fun b => decide (b ∉ rest))
def layersGo (E : Bs → List Bs) : Nat → List Bs → Option (List (List Bs))
  | 0, _ => none
  | f + 1, rest => if rest = [] then some [] else if rest.filter (freeOf E rest) = [] then none
    else (layersGo E f (rest.filter (fun s => !freeOf E rest s))).map (fun l => rest.filter (freeOf E rest) :: l)
def layersOf (t : List Fil) (path : List Int) (s : Bs) : List (List Bs) := (layersGo (edgesOf t path) 400 (reachOf t path s)).getD []
theorem filter_split_len {α : Type} (p : α → Bool) : ∀ l : List α, (l.filter p).length + (l.filter (fun x => !p x)).length = l.length
  | [] => rfl
  | x :: r => by
    have ih := filter_split_len p r
    cases h : p x <;> simp [List.filter_cons, h] <;> omega
/-- More depth changes nothing. -/
theorem layersGo_more (E : Bs → List Bs) : ∀ (f g : Nat) (rest : List Bs), rest.length < f → rest.length < g → layersGo E f rest = layersGo E g rest
  | 0, _, _, h, _ => absurd h (by omega)
  | _, 0, _, _, h => absurd h (by omega)
  | f + 1, g + 1, rest, hf, hg => by
    rw [layersGo, layersGo]
    split
    · rfl
    · split
      · rfl
      · rename_i h1 h2
        have hl := filter_split_len (freeOf E rest) rest
        have hp := List.length_pos_iff.2 h2
        rw [layersGo_more E f g _ (by omega) (by omega)]
theorem layersGo_step (E : Bs → List Bs) {rest : List Bs} (hl : rest.length < 400) : layersGo E 400 rest = if rest = [] then some [] else if rest.filter (freeOf E rest) = [] then none
    else (layersGo E 400 (rest.filter (fun s => !freeOf E rest s))).map (fun l => rest.filter (freeOf E rest) :: l) := by
  have e : layersGo E 400 rest = if rest = [] then some [] else if rest.filter (freeOf E rest) = [] then none
    else (layersGo E 399 (rest.filter (fun s => !freeOf E rest s))).map (fun l => rest.filter (freeOf E rest) :: l) := rfl
  rw [e]
  split
  · rfl
  · split
    · rfl
    · rename_i h1 h2
      have hl2 := filter_split_len (freeOf E rest) rest
      have hp := List.length_pos_iff.2 h2
      rw [layersGo_more E 399 400 _ (by omega) (by omega)]
/-- What a run of layers is: each one leads to nothing of itself and of what follows, and all is there once. -/
theorem layersGo_facts (E : Bs → List Bs) : ∀ (f : Nat) (rest : List Bs) (ls : List (List Bs)), Up rest → layersGo E f rest = some ls →
    (∀ l ∈ ls, Up l ∧ l ≠ [] ∧ ∀ x ∈ l, x ∈ rest) ∧ ls.flatten.length = rest.length ∧ (∀ x ∈ rest, x ∈ ls.flatten) ∧
    (∀ (i : Nat) (h : i < ls.length), ∀ x ∈ ls[i], x ∉ (ls.take i).flatten ∧ ∀ y ∈ E x ++ [parentOf x], y ∈ rest → y ∈ (ls.take i).flatten)
  | 0, _, _, _, h => by simp [layersGo] at h
  | f + 1, rest, ls, hu, h => by
    rw [layersGo] at h
    split at h
    · rename_i h0
      cases h
      subst h0
      simp
    · split at h
      · cases h
      · rename_i h0 h1
        obtain ⟨l, hl, rfl⟩ := Option.map_eq_some_iff.1 h
        have hu2 : Up (rest.filter (fun s => !freeOf E rest s)) := up_filter _ hu
        obtain ⟨a, b, c, d⟩ := layersGo_facts E f _ l hu2 hl
        have hmem : ∀ x ∈ rest, x ∈ rest.filter (freeOf E rest) ∨ x ∈ rest.filter (fun s => !freeOf E rest s) := fun x hx => by
          cases hq : freeOf E rest x
          · right; exact List.mem_filter.2 ⟨hx, by simp [hq]⟩
          · left; exact List.mem_filter.2 ⟨hx, hq⟩
        refine ⟨fun l' hl' => ?_, ?_, fun x hx => ?_, fun i hi x hx => ?_⟩
        · rcases List.mem_cons.1 hl' with rfl | hl'
          · exact ⟨up_filter _ hu, h1, fun x hx => (List.mem_filter.1 hx).1⟩
          · obtain ⟨a1, a2, a3⟩ := a l' hl'
            exact ⟨a1, a2, fun x hx => (List.mem_filter.1 (a3 x hx)).1⟩
        · rw [List.flatten_cons, List.length_append, b]
          exact filter_split_len _ _
        · rw [List.flatten_cons, List.mem_append]
          rcases hmem x hx with h2 | h2
          · exact .inl h2
          · exact .inr (c x h2)
        · cases i with
          | zero =>
            simp only [List.getElem_cons_zero] at hx
            refine ⟨by simp, fun y hy hyr => ?_⟩
            have := (List.mem_filter.1 hx).2
            unfold freeOf at this
            have := List.all_eq_true.1 this y hy
            simp at this
            exact absurd hyr this
          | succ i =>
            simp only [List.getElem_cons_succ] at hx
            obtain ⟨d1, d2⟩ := d i (by simpa using hi) x hx
            have hxr := (a _ (List.getElem_mem (by simpa using hi))).2.2 x hx
            simp only [List.take_succ_cons, List.flatten_cons, List.mem_append]
            refine ⟨?_, fun y hy hyr => ?_⟩
            · rintro (h2 | h2)
              · have e1 := (List.mem_filter.1 hxr).2
                have e2 := (List.mem_filter.1 h2).2
                rw [e2] at e1; simp at e1
              · exact d1 h2
            · rcases hmem y hyr with h2 | h2
              · exact .inl h2
              · exact .inr (d2 y (List.mem_append.2 hy) h2)
theorem layersOf_some {t : List Fil} {path : List Int} {s : Bs} (h : layersOf t path s ≠ []) : layersGo (edgesOf t path) 400 (reachOf t path s) = some (layersOf t path s) := by
  unfold layersOf at h ⊢
  cases e : layersGo (edgesOf t path) 400 (reachOf t path s) with
  | none => rw [e] at h; exact absurd rfl h
  | some l => rfl
theorem layersOf_no {t : List Fil} {path : List Int} {s : Bs} (h : okLook t path = false ∨ vn s = false) : layersOf t path s = [] := by
  unfold layersOf; rw [reachOf_no h]; rfl
theorem reachOf_up (t : List Fil) (path : List Int) (s : Bs) : Up (reachOf t path s) := by
  unfold reachOf; split
  · exact sortUp_up _
  · exact List.Pairwise.nil
theorem reachOf_len (t : List Fil) (path : List Int) (s : Bs) : (reachOf t path s).length ≤ 291 := by
  unfold reachOf
  split
  · rename_i h
    have h1 := reachAll_len (path := path) (okLook_tree h) (namesAbove_nodup s)
    have h2 := namesAbove_le3 s
    exact Nat.le_trans (sortUp_len _) (by omega)
  · simp
/-- What P81 asks of layers. -/
theorem layers_facts {t : List Fil} {path : List Int} {s : Bs} (h : layersOf t path s ≠ []) :
    (∀ l ∈ layersOf t path s, Up l ∧ l ≠ [] ∧ ∀ x ∈ l, x ∈ reachOf t path s) ∧ (layersOf t path s).flatten.length = (reachOf t path s).length ∧ (∀ x ∈ reachOf t path s, x ∈ (layersOf t path s).flatten) ∧
    (∀ (i : Nat) (h : i < (layersOf t path s).length), ∀ x ∈ (layersOf t path s)[i], x ∉ ((layersOf t path s).take i).flatten ∧ ∀ y ∈ edgesOf t path x, y ∈ ((layersOf t path s).take i).flatten) ∧ ringsOf t path s = [] := by
  have hk : okLook t path = true := by
    cases e : okLook t path
    · exact absurd (layersOf_no (.inl e)) h
    · rfl
  have ht := okLook_tree hk
  obtain ⟨a, b, c, d⟩ := layersGo_facts (edgesOf t path) 400 _ _ (reachOf_up t path s) (layersOf_some h)
  generalize layersOf t path s = ls at *
  have d' : ∀ (i : Nat) (h : i < ls.length), ∀ x ∈ ls[i], x ∉ (ls.take i).flatten ∧ ∀ y ∈ edgesOf t path x, y ∈ (ls.take i).flatten := fun i hi x hx => by
    obtain ⟨d1, d2⟩ := d i hi x hx
    refine ⟨d1, fun y hy => d2 y (List.mem_append_left _ hy) ?_⟩
    have hxr := (a _ (List.getElem_mem hi)).2.2 x hx
    rw [reachOf_mem hk] at hxr ⊢
    exact reachAll_closed ht (namesAbove_nodup s) hxr hy
  refine ⟨a, b, c, d', ?_⟩
  -- a way leads to an earlier layer
  have way : ∀ x y, TransGen (Edge t path) x y → ∀ i (hi : i < ls.length), x ∈ ls[i] → ∃ j, ∃ hj : j < ls.length, j < i ∧ y ∈ ls[j] := by
    have one : ∀ x y, Edge t path x y → ∀ i (hi : i < ls.length), x ∈ ls[i] → ∃ j, ∃ hj : j < ls.length, j < i ∧ y ∈ ls[j] := fun x y he i hi hx => by
      have := (d' i hi x hx).2 y he
      obtain ⟨l, hl, hy⟩ := List.mem_flatten.1 this
      obtain ⟨j, hj, e⟩ := List.mem_take_iff_getElem.1 hl
      exact ⟨j, by omega, by omega, by rw [e]; exact hy⟩
    intro x y hxy
    induction hxy with
    | single he => exact one _ _ he
    | tail _ he ih =>
      intro i hi hx
      obtain ⟨j, hj, hji, hy⟩ := ih i hi hx
      obtain ⟨k, hk, hkj, hz⟩ := one _ _ he j hj hy
      exact ⟨k, hk, by omega, hz⟩
  rw [ringsOf, List.filter_eq_nil_iff]
  intro x hx hr
  have hw := (onRing_iff ht x).1 hr
  obtain ⟨l, hl, hxl⟩ := List.mem_flatten.1 (c x hx)
  obtain ⟨i, hi, e⟩ := List.getElem_of_mem hl
  obtain ⟨j, hj, hji, hxj⟩ := way x x hw i hi (by rw [e]; exact hxl)
  -- the first layer that has it
  have : x ∉ (ls.take i).flatten := (d' i hi x (by rw [e]; exact hxl)).1
  exact this (List.mem_flatten.2 ⟨ls[j], List.mem_take_iff_getElem.2 ⟨j, by omega, rfl⟩, hxj⟩)
/-- The model's way to find a layer: names that are not placed and lead only to what is placed. -/
theorem layer_eq {t : List Fil} {path : List Int} {s : Bs} (hl : okLook t path = true) (placed : List Bs) :
    ((reachAll t path (namesAbove s)).filter (fun x => decide (x ∉ placed) && ((edgesOf t path x).all (fun y => decide (y ∈ placed)) && (decide (parentOf x = []) || decide (parentOf x ∈ placed))))).foldl insTo [] =
      ((reachOf t path s).filter (fun x => decide (x ∉ placed))).filter (freeOf (edgesOf t path) ((reachOf t path s).filter (fun x => decide (x ∉ placed)))) := by
  have ht := okLook_tree hl
  show sortUp _ = _
  rw [sortUp_filter, List.filter_filter]
  have e : reachOf t path s = sortUp (reachAll t path (namesAbove s)) := by unfold reachOf; rw [if_pos hl]
  rw [e]
  refine List.filter_congr (fun x hx => ?_)
  rw [← e] at hx ⊢
  have hxr := (reachOf_mem hl).1 hx
  by_cases hp : x ∈ placed
  · simp [hp]
  · have h1 : ∀ y, y ∈ reachOf t path s → (y ∉ (reachOf t path s).filter (fun x => decide (x ∉ placed)) ↔ y ∈ placed) := fun y hy => by
      simp [List.mem_filter, hy]
    have hpar : parentOf x ≠ [] → parentOf x ∈ reachOf t path s := fun h => (reachOf_mem hl).2 (reach_dep ht hxr (mem_dep.2 (.inl ⟨rfl, h⟩)))
    have hnil : [] ∉ reachOf t path s := fun h => by
      have := reachAll_vn (fun x hx => namesAbove_vn hx) [] ((reachOf_mem hl).1 h)
      exact absurd this (by decide)
    rw [Bool.eq_iff_iff]
    unfold freeOf
    simp only [hp, not_false_eq_true, decide_true, Bool.true_and, Bool.and_eq_true, Bool.or_eq_true, decide_eq_true_eq, List.all_eq_true, List.mem_append, List.mem_singleton, and_true]
    constructor
    · rintro ⟨h2, h3⟩ y (hy | rfl)
      · exact (h1 y ((reachOf_mem hl).2 (reachAll_closed ht (namesAbove_nodup s) hxr hy))).2 (h2 y hy)
      · rcases h3 with h3 | h3
        · rw [h3]; exact fun h => hnil (List.mem_filter.1 h).1
        · by_cases h0 : parentOf x = []
          · rw [h0]; exact fun h => hnil (List.mem_filter.1 h).1
          · exact (h1 _ (hpar h0)).2 h3
    · intro h2
      refine ⟨fun y hy => (h1 y ((reachOf_mem hl).2 (reachAll_closed ht (namesAbove_nodup s) hxr hy))).1 (h2 y (.inl hy)), ?_⟩
      by_cases h0 : parentOf x = []
      · exact .inl h0
      · exact .inr ((h1 _ (hpar h0)).1 (h2 _ (.inr rfl)))
end Go.Proofs.YtcmnldomcpjlcaaGreat.Nm
