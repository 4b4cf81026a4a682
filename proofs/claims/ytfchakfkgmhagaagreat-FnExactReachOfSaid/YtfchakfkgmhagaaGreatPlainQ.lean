/- Ways in the graph of modules as plain data. Nothing of the program stands here. -/
import Derived.Test.YtfchakfkgmhagaaGreatPlainN
set_option linter.unusedVariables false
set_option linter.unusedSimpArgs false
namespace Go.Proofs.YtfchakfkgmhagaaGreat.Nm

theorem nodup_leB {α : Type} [DecidableEq α] : ∀ (l m : List α), l.Nodup → (∀ x ∈ l, x ∈ m) → l.length ≤ m.length
  | [], _, _, _ => by simp
  | x :: r, m, hn, hs => by
    obtain ⟨h1, h2⟩ := List.nodup_cons.1 hn
    have hx := hs x (by simp)
    have h3 := nodup_leB r (m.erase x) h2 (fun y hy => by
      have hne : y ≠ x := fun e => h1 (e ▸ hy)
      exact (List.mem_erase_of_ne hne).2 (hs y (by simp [hy])))
    have h4 := List.length_erase_of_mem hx
    have h5 := List.length_pos_of_mem hx
    rw [List.length_cons]; omega

/-- The names to which ways lead from some, when k of them were looked at. -/
def reachK (E : Bs → List Bs) (xs : List Bs) : Nat → List Bs
  | 0 => xs
  | k + 1 => match (reachK E xs k)[k]? with
    | some n => addNew (reachK E xs k) (E n)
    | none => reachK E xs k
theorem reachK_step {E : Bs → List Bs} {xs : List Bs} {k : Nat} (h : k < (reachK E xs k).length) : reachK E xs (k + 1) = addNew (reachK E xs k) (E (reachK E xs k)[k]) := by
  rw [reachK, List.getElem?_eq_getElem h]
theorem reachK_end {E : Bs → List Bs} {xs : List Bs} {k : Nat} (h : (reachK E xs k).length ≤ k) : reachK E xs (k + 1) = reachK E xs k := by
  rw [reachK, List.getElem?_eq_none h]
theorem reachK_pre (E : Bs → List Bs) (xs : List Bs) (k : Nat) : reachK E xs k <+: reachK E xs (k + 1) := by
  by_cases h : k < (reachK E xs k).length
  · rw [reachK_step h]; exact addNew_pre _ _
  · rw [reachK_end (by omega)]; exact List.prefix_refl _
theorem reachK_le (E : Bs → List Bs) (xs : List Bs) {j k : Nat} (h : j ≤ k) : reachK E xs j <+: reachK E xs k := by
  induction k with
  | zero => obtain rfl : j = 0 := by omega
            exact List.prefix_refl _
  | succ k ih =>
    by_cases e : j = k + 1
    · subst e; exact List.prefix_refl _
    · exact (ih (by omega)).trans (reachK_pre E xs k)
theorem reachK_stay {E : Bs → List Bs} {xs : List Bs} {k : Nat} (h : (reachK E xs k).length ≤ k) : ∀ j, reachK E xs (k + j) = reachK E xs k
  | 0 => rfl
  | j + 1 => by
    have ih := reachK_stay h j
    have h1 : (reachK E xs (k + j)).length ≤ k + j := by rw [ih]; omega
    rw [← Nat.add_assoc, reachK_end h1, ih]
theorem reachK_all {E : Bs → List Bs} {P : Bs → Prop} {xs : List Bs} (hx : ∀ x ∈ xs, P x) (hE : ∀ n, P n → ∀ y ∈ E n, P y) : ∀ k, ∀ x ∈ reachK E xs k, P x
  | 0 => hx
  | k + 1 => by
    by_cases h : k < (reachK E xs k).length
    · rw [reachK_step h]
      exact addNew_all (reachK_all hx hE k) (hE _ (reachK_all hx hE k _ (List.getElem_mem h)))
    · rw [reachK_end (by omega)]; exact reachK_all hx hE k
theorem reachK_nodup {E : Bs → List Bs} {xs : List Bs} (hn : xs.Nodup) : ∀ k, (reachK E xs k).Nodup
  | 0 => hn
  | k + 1 => by
    by_cases h : k < (reachK E xs k).length
    · rw [reachK_step h]; exact nodup_addNew (reachK_nodup hn k) _
    · rw [reachK_end (by omega)]; exact reachK_nodup hn k
theorem reachK_closed {E : Bs → List Bs} {xs : List Bs} : ∀ (k i : Nat) (h : i < (reachK E xs k).length), i < k → ∀ y ∈ E (reachK E xs k)[i], y ∈ reachK E xs k
  | 0, i, h, hi, y, hy => absurd hi (by omega)
  | k + 1, i, h, hi, y, hy => by
    by_cases hk : k < (reachK E xs k).length
    · have hp := reachK_pre E xs k
      obtain ⟨r, hr⟩ := hp
      by_cases e : i = k
      · subst e
        have e1 : (reachK E xs (i + 1))[i] = (reachK E xs i)[i] := by simp only [← hr]; rw [List.getElem_append_left hk]
        rw [e1] at hy
        rw [reachK_step hk, mem_addNew]; exact .inr hy
      · have hik : i < k := by omega
        have e1 : (reachK E xs (k + 1))[i] = (reachK E xs k)[i]'(by omega) := by simp only [← hr]; rw [List.getElem_append_left (by omega)]
        rw [e1] at hy
        have := reachK_closed k i (by omega) hik y hy
        rw [← hr]; exact List.mem_append_left _ this
    · have e := reachK_end (E := E) (xs := xs) (k := k) (by omega)
      simp only [e] at h hy ⊢
      exact reachK_closed k i h (by omega) y hy
/-- All names to which the bodies of the files lead. -/
def allEdges (t : List Fil) : List Bs := t.flatMap (fun f => full (bodyNeeds f.pack f.body))
theorem allEdges_len {t : List Fil} (h : okTree t = true) : (allEdges t).length ≤ 288 := by
  obtain ⟨h1, _, h12⟩ := okTree_all h
  have key : ∀ l : List Fil, (∀ f ∈ l, okFil f = true) → (allEdges l).length ≤ 24 * l.length := by
    intro l
    induction l with
    | nil => intro _; simp [allEdges]
    | cons f r ih =>
      intro hl
      have h1 := ih (fun x hx => hl x (by simp [hx]))
      have h2 := (full_ok (bodyNeeds f.pack f.body)).2.2
      have h3 := (bodyNeeds_ok (p := f.pack) (okFil_body (hl f (by simp)))).2.2
      unfold allEdges at h1 ⊢
      rw [List.flatMap_cons, List.length_append, List.length_cons]; omega
  have := key t (fun f hf => okTree_file h hf)
  omega
theorem edgesOf_in {t : List Fil} {path : List Int} {s x : Bs} (h : x ∈ edgesOf t path s) : x ∈ allEdges t := by
  unfold edgesOf needsOf at h
  cases hf : fileFor t path s with
  | none => rw [hf] at h; simp [full] at h
  | some f =>
    rw [hf] at h
    exact List.mem_flatMap.2 ⟨f, (fileFor_facts hf).1, h⟩
/-- The names to which ways lead from some. -/
def reachAll (t : List Fil) (path : List Int) (xs : List Bs) : List Bs := reachK (edgesOf t path) xs (xs.length + 288)
theorem reachK_len {t : List Fil} {path : List Int} {xs : List Bs} (ht : okTree t = true) (hn : xs.Nodup) (k : Nat) : (reachK (edgesOf t path) xs k).length ≤ xs.length + 288 := by
  have h1 := nodup_leB _ (xs ++ allEdges t) (reachK_nodup (E := edgesOf t path) hn k) (reachK_all (P := fun x => x ∈ xs ++ allEdges t) (fun x hx => List.mem_append_left _ hx) (fun n _ y hy => List.mem_append_right _ (edgesOf_in hy)) k)
  rw [List.length_append] at h1
  have := allEdges_len ht
  omega
/-- Where the walk over the names ends. -/
theorem reachAll_at {t : List Fil} {path : List Int} {xs : List Bs} (ht : okTree t = true) (hn : xs.Nodup) {k : Nat} (h : (reachK (edgesOf t path) xs k).length ≤ k) (hk : k ≤ xs.length + 288) : reachK (edgesOf t path) xs k = reachAll t path xs := by
  have := reachK_stay h (xs.length + 288 - k)
  rw [← this, Nat.add_sub_cancel' hk]; rfl
theorem reachAll_len {t : List Fil} {path : List Int} {xs : List Bs} (ht : okTree t = true) (hn : xs.Nodup) : (reachAll t path xs).length ≤ xs.length + 288 := reachK_len ht hn _
theorem reachAll_nodup {t : List Fil} {path : List Int} {xs : List Bs} (hn : xs.Nodup) : (reachAll t path xs).Nodup := reachK_nodup hn _
theorem reachAll_vn {t : List Fil} {path : List Int} {xs : List Bs} (hx : ∀ x ∈ xs, vn x = true) : ∀ x ∈ reachAll t path xs, vn x = true := reachK_all hx (fun n _ y hy => (edgesOf_ok t path n).1 y hy) _
theorem reachAll_sub {t : List Fil} {path : List Int} {xs : List Bs} : xs <+: reachAll t path xs := reachK_le _ _ (Nat.zero_le _)
theorem reachAll_closed {t : List Fil} {path : List Int} {xs : List Bs} (ht : okTree t = true) (hn : xs.Nodup) {x y : Bs} (hx : x ∈ reachAll t path xs) (hy : y ∈ edgesOf t path x) : y ∈ reachAll t path xs := by
  obtain ⟨i, hi, rfl⟩ := List.getElem_of_mem hx
  exact reachK_closed _ i hi (Nat.lt_of_lt_of_le hi (reachAll_len ht hn)) y hy
theorem reachAll_least {t : List Fil} {path : List Int} {xs : List Bs} {P : Bs → Prop} (hx : ∀ x ∈ xs, P x) (hE : ∀ n, P n → ∀ y ∈ edgesOf t path n, P y) : ∀ x ∈ reachAll t path xs, P x := reachK_all hx hE _
theorem namesAbove_nodup (s : Bs) : (namesAbove s).Nodup := by
  unfold namesAbove
  split
  · rename_i h
    rw [List.Nodup, List.pairwise_iff_getElem]
    intro i j hi hj hij e
    have hl : (above s).length = (split s).length := by simp [above]
    have e1 : (above s)[i] = join ((split s).take (i + 1)) := by simp [above]
    have e2 : (above s)[j] = join ((split s).take (j + 1)) := by simp [above]
    rw [e1, e2] at e
    have h1 := split_of_vps (take_vps h (i + 1) (by omega))
    have h2 := split_of_vps (take_vps h (j + 1) (by omega))
    rw [e, h2] at h1
    have := congrArg List.length h1
    simp at this
    omega
  · simp

/-! ### What is asked of the names that are reached. -/
def okAsk (t : List Fil) (path : List Int) (s : Bs) : Bool := okLook t path && vn s
def reachOf (t : List Fil) (path : List Int) (s : Bs) : List Bs := if okLook t path then sortUp (reachAll t path (namesAbove s)) else []
def missingOf (t : List Fil) (path : List Int) (s : Bs) : List Bs := (reachOf t path s).filter (fun n => decide ((byParts t path n).kind = 0))
def onRing (t : List Fil) (path : List Int) (s : Bs) : Bool := decide (s ∈ reachAll t path (edgesOf t path s))
def ringsOf (t : List Fil) (path : List Int) (s : Bs) : List Bs := (reachOf t path s).filter (onRing t path)
def simpleBody (b : List Stm) : Bool := b.all (fun s => decide (s.kind = 0 ∨ s.kind = 2 ∨ s.kind = 3))
def simpleAt (t : List Fil) (path : List Int) (s : Bs) : Bool := match fileFor t path s with
  | none => true
  | some f => simpleBody f.body
def isSimple (t : List Fil) (path : List Int) (s : Bs) : Bool := okLook t path && vn s && (reachOf t path s).all (simpleAt t path)
def usersOf (t : List Fil) (path : List Int) (s : Bs) : List Bs := (foundNames t path).filter (fun n => decide (s ∈ edgesOf t path n))
end Go.Proofs.YtfchakfkgmhagaaGreat.Nm
