/- Directories, disks and finders as plain data: what the model's functions of chapter 4 answer. Nothing of the program stands here. -/
import Derived.Test.YtgecemngfpgcoaaPlainG
set_option linter.unusedVariables false
set_option linter.unusedSimpArgs false
namespace Go.Proofs.Ytgecemngfpgcoaa.Nm

/-- A directory. -/
structure Dr where
  root : Int
  pack : Bs
  stamp : Int
  names : List Bs
theorem dr_ext {a b : Dr} (h1 : a.root = b.root) (h2 : a.pack = b.pack) (h3 : a.stamp = b.stamp) (h4 : a.names = b.names) : a = b := by cases a; cases b; simp_all
instance : DecidableEq Dr := fun a b =>
  if h : a.root = b.root ∧ a.pack = b.pack ∧ a.stamp = b.stamp ∧ a.names = b.names then isTrue (dr_ext h.1 h.2.1 h.2.2.1 h.2.2.2) else isFalse (fun e => h (by subst e; simp))
/-- A disk, a finder. -/
structure Dsk where
  files : List Fil
  clock : Int
  dirs : List Dr
structure Fnd where
  dirs : List Dr
  fills : Int
  hits : Int
/-- The place of a directory. -/
abbrev DPl := Int × Bs
def dplace (d : Dr) : DPl := (d.root, d.pack)
/-- The first of a list with a key, -1 if there is none. -/
def keyFrom {α β : Type} [DecidableEq β] (key : α → β) : List α → β → Nat → Int
  | [], _, _ => -1
  | x :: r, p, k => if key x = p then (k : Int) else keyFrom key r p (k + 1)
def keyAt {α β : Type} [DecidableEq β] (key : α → β) (xs : List α) (p : β) : Int := keyFrom key xs p 0
section
variable {α β : Type} [DecidableEq β] {key : α → β}
theorem keyFrom_is (xs : List α) (p : β) (k : Nat) : (keyFrom key xs p k = -1 ∧ ∀ j (h : j < xs.length), key xs[j] ≠ p) ∨
    ∃ j, ∃ h : j < xs.length, keyFrom key xs p k = ((k + j : Nat) : Int) ∧ key xs[j] = p ∧ ∀ i (hi : i < xs.length), i < j → key xs[i] ≠ p := by
  induction xs generalizing k with
  | nil => exact .inl ⟨rfl, fun j h => absurd h (by simp)⟩
  | cons f r ih =>
    unfold keyFrom
    by_cases e : key f = p
    · rw [if_pos e]
      exact .inr ⟨0, by simp, by simp, by simpa using e, fun i _ h => absurd h (by omega)⟩
    · rw [if_neg e]
      rcases ih (k + 1) with ⟨h1, h2⟩ | ⟨j, hj, h1, h2, h3⟩
      · refine .inl ⟨h1, fun j hj => ?_⟩
        cases j with
        | zero => simpa using e
        | succ j => simpa using h2 j (by simpa using hj)
      · refine .inr ⟨j + 1, by simpa using hj, by rw [h1]; omega, by simpa using h2, fun i hi hij => ?_⟩
        cases i with
        | zero => simpa using e
        | succ i => simpa using h3 i (by simpa using hi) (by omega)
theorem keyAt_is (xs : List α) (p : β) : (keyAt key xs p = -1 ∧ ∀ j (h : j < xs.length), key xs[j] ≠ p) ∨
    ∃ j, ∃ h : j < xs.length, keyAt key xs p = (j : Int) ∧ key xs[j] = p ∧ ∀ i (hi : i < xs.length), i < j → key xs[i] ≠ p := by
  rcases keyFrom_is (key := key) xs p 0 with h | ⟨j, hj, h1, h2⟩
  · exact .inl h
  · exact .inr ⟨j, hj, by unfold keyAt; rw [h1, Nat.zero_add], h2⟩
theorem keyAt_yes (xs : List α) (k : Nat) (h : k < xs.length) (p : β) (hn : ∀ j (hj : j < xs.length), j < k → key xs[j] ≠ p) (hy : key xs[k] = p) : keyAt key xs p = (k : Int) := by
  rcases keyAt_is (key := key) xs p with ⟨h1, h2⟩ | ⟨j, hj, h1, h2, h3⟩
  · exact absurd hy (h2 k h)
  · rcases Nat.lt_trichotomy j k with e | e | e
    · exact absurd h2 (hn j hj e)
    · subst e; exact h1
    · exact absurd hy (h3 k h e)
theorem keyAt_no (xs : List α) (p : β) (hn : ∀ j (hj : j < xs.length), key xs[j] ≠ p) : keyAt key xs p = -1 := by
  rcases keyAt_is (key := key) xs p with ⟨h1, h2⟩ | ⟨j, hj, h1, h2, h3⟩
  · exact h1
  · exact absurd h2 (hn j hj)
theorem keyAt_range (xs : List α) (p : β) : -1 ≤ keyAt key xs p ∧ keyAt key xs p < xs.length := by
  rcases keyAt_is (key := key) xs p with ⟨h1, h2⟩ | ⟨j, hj, h1, h2, h3⟩ <;> rw [h1] <;> omega
/-- No two have one key, as each is the first with its own. -/
theorem keys_nodup {xs : List α} (h : ∀ k (hk : k < xs.length), (k : Int) ≤ keyAt key xs (key xs[k])) : (xs.map key).Nodup := by
  rw [List.Nodup, List.pairwise_iff_getElem]
  intro i j hi hj hij
  rw [List.length_map] at hi hj
  rw [List.getElem_map, List.getElem_map]
  intro e
  have h1 := h j hj
  rcases keyAt_is (key := key) xs (key xs[j]) with ⟨h2, _⟩ | ⟨m, hm, h2, _, h4⟩
  · omega
  · exact h4 i hi (by omega) e
theorem keys_dup {xs : List α} (k : Nat) (hk : k < xs.length) (h : keyAt key xs (key xs[k]) < (k : Int)) : ¬ (xs.map key).Nodup := by
  rw [List.Nodup, List.pairwise_iff_getElem]
  intro hn
  rcases keyAt_is (key := key) xs (key xs[k]) with ⟨_, h2⟩ | ⟨m, hm, h2, h3, _⟩
  · exact h2 k hk rfl
  · have := hn m k (by rw [List.length_map]; exact hm) (by rw [List.length_map]; exact hk) (by omega)
    rw [List.getElem_map, List.getElem_map] at this
    exact this h3
/-- .. and as none ahead of it has it. -/
theorem keys_nodup' {xs : List α} (h : ∀ k (hk : k < xs.length), keyAt key (xs.take k) (key xs[k]) = -1) : (xs.map key).Nodup := by
  rw [List.Nodup, List.pairwise_iff_getElem]
  intro i j hi hj hij
  rw [List.length_map] at hi hj
  rw [List.getElem_map, List.getElem_map]
  intro e
  rcases keyAt_is (key := key) (xs.take j) (key xs[j]) with ⟨_, h2⟩ | ⟨m, hm, h2, _, _⟩
  · have h3 := h2 i (by rw [List.length_take]; omega)
    rw [List.getElem_take] at h3
    exact h3 e
  · have := h j hj; omega
theorem keys_dup' {xs : List α} (k : Nat) (hk : k < xs.length) (h : keyAt key (xs.take k) (key xs[k]) ≠ -1) : ¬ (xs.map key).Nodup := by
  rw [List.Nodup, List.pairwise_iff_getElem]
  intro hn
  rcases keyAt_is (key := key) (xs.take k) (key xs[k]) with ⟨h1, _⟩ | ⟨m, hm, h2, h3, _⟩
  · exact h h1
  · rw [List.length_take] at hm
    rw [List.getElem_take] at h3
    have := hn m k (by rw [List.length_map]; omega) (by rw [List.length_map]; exact hk) (by omega)
    rw [List.getElem_map, List.getElem_map] at this
    exact this h3
end
/-- The first directory at a place, -1 if there is none. -/
def dirAt (ds : List Dr) (p : DPl) : Int := keyAt dplace ds p
def okDr (most : Int) (names : Nat) (d : Dr) : Bool := inr d.root 0 2 && vpk d.pack && inr d.stamp 0 most && decide (d.names.length ≤ names)
def okDirs (ds : List Dr) (most : Int) (names : Nat) : Bool := ds.all (okDr most names) && decide (ds.map dplace).Nodup && decide (ds.length ≤ 20)
def okDisk (d : Dsk) : Bool := inr d.clock 0 200 && okDirs d.dirs d.clock 0 && okTree d.files
def okFnd (f : Fnd) : Bool := inr f.fills 0 1000 && inr f.hits 0 1000 && okDirs f.dirs 200 12
/-- The stamp that a directory has. -/
def stampIn (ds : List Dr) (p : DPl) : Int := if dirAt ds p < 0 then 0 else ((ds[(dirAt ds p).toNat]?).map Dr.stamp).getD 0
theorem stampIn_no {ds : List Dr} {p : DPl} (h : dirAt ds p = -1) : stampIn ds p = 0 := by unfold stampIn; rw [h]; rfl
theorem stampIn_yes {ds : List Dr} {p : DPl} {k : Nat} (hk : k < ds.length) (h : dirAt ds p = (k : Int)) : stampIn ds p = ds[k].stamp := by
  unfold stampIn; rw [h, if_neg (by omega)]; simp [hk]
def stampOf (d : Dsk) (root : Int) (p : Bs) : Int := if okDisk d && (inr root 0 2 && vpk p) then stampIn d.dirs (root, p) else -1
/-- The directories of a finder that tell what is not so. -/
def staleGo (t : List Fil) (dirs : List Dr) : List Dr → Int → List Int
  | [], _ => []
  | x :: r, i => (if x.stamp = stampIn dirs (dplace x) ∧ x.names ≠ listDir t x.root x.pack then [i] else []) ++ staleGo t dirs r (i + 1)
def stale (f : Fnd) (d : Dsk) : List Int := if okFnd f && okDisk d then staleGo d.files d.dirs f.dirs 0 else []
theorem staleGo_app (t : List Fil) (dirs a b : List Dr) (i : Int) : staleGo t dirs (a ++ b) i = staleGo t dirs a i ++ staleGo t dirs b (i + a.length) := by
  induction a generalizing i with
  | nil => simp [staleGo]
  | cons x r ih => simp only [List.cons_append, staleGo, ih, List.append_assoc, List.length_cons]; congr 3; omega
theorem staleGo_len (t : List Fil) (dirs : List Dr) : ∀ (l : List Dr) (i : Int), (staleGo t dirs l i).length ≤ l.length
  | [], _ => by simp [staleGo]
  | x :: r, i => by
    have := staleGo_len t dirs r (i + 1)
    unfold staleGo; split <;> simp <;> omega
theorem staleGo_snoc (t : List Fil) (dirs l : List Dr) (k : Nat) (h : k < l.length) : staleGo t dirs (l.take (k + 1)) 0 = staleGo t dirs (l.take k) 0 ++ (if l[k].stamp = stampIn dirs (dplace l[k]) ∧ l[k].names ≠ listDir t l[k].root l[k].pack then [(k : Int)] else []) := by
  rw [List.take_succ_eq_append_getElem h, staleGo_app]
  have e : (l.take k).length = k := by rw [List.length_take]; omega
  rw [e]
  simp [staleGo]

/-! ### When directories are valid. -/
theorem okDirs_dr {ds : List Dr} {most : Int} {nm : Nat} (k : Nat) (h : k < ds.length) (hv : okDr most nm ds[k] = false) : okDirs ds most nm = false := by
  have : ds.all (okDr most nm) = false := by rw [List.all_eq_false]; exact ⟨_, List.getElem_mem h, by simp [hv]⟩
  simp [okDirs, this]
theorem okDirs_long {ds : List Dr} {most : Int} {nm : Nat} (h : 20 < ds.length) : okDirs ds most nm = false := by
  simp [okDirs]; omega
theorem okDirs_dup {ds : List Dr} {most : Int} {nm : Nat} (h : ¬ (ds.map dplace).Nodup) : okDirs ds most nm = false := by
  simp [okDirs, h]
theorem all_okDr {ds : List Dr} {most : Int} {nm : Nat} (ha : ∀ i (h : i < ds.length), okDr most nm ds[i] = true) : ds.all (okDr most nm) = true := by
  rw [List.all_eq_true]; intro s hs
  obtain ⟨i, hi, rfl⟩ := List.getElem_of_mem hs
  exact ha i hi
theorem okDirs_yes {ds : List Dr} {most : Int} {nm : Nat} (ha : ∀ i (h : i < ds.length), okDr most nm ds[i] = true) (hn : (ds.map dplace).Nodup) (hl : ds.length ≤ 20) : okDirs ds most nm = true := by
  simp [okDirs, all_okDr ha, hn, hl]
theorem okDirs_all {ds : List Dr} {most : Int} {nm : Nat} (ha : ∀ i (h : i < ds.length), okDr most nm ds[i] = true) (hn : (ds.map dplace).Nodup) : okDirs ds most nm = decide (ds.length ≤ 20) := by
  simp [okDirs, all_okDr ha, hn]
theorem okDirs_len {ds : List Dr} {most : Int} {nm : Nat} (h : okDirs ds most nm = true) : ds.length ≤ 20 := by
  unfold okDirs at h; simp only [Bool.and_eq_true, decide_eq_true_eq] at h; exact h.2
theorem okDirs_at {ds : List Dr} {most : Int} {nm : Nat} (h : okDirs ds most nm = true) {d : Dr} (hd : d ∈ ds) : okDr most nm d = true := by
  unfold okDirs at h; simp only [Bool.and_eq_true] at h; exact List.all_eq_true.1 h.1.1 d hd
/-- The model looks at the clock of a disk by itself. -/
theorem okDisk_late {fs : List Fil} {c : Int} {ds : List Dr} (k : Nat) (h : k < ds.length) (hv : c < ds[k].stamp ∨ 0 < ds[k].names.length) : okDisk ⟨fs, c, ds⟩ = false := by
  have : okDirs ds c 0 = false := okDirs_dr k h (by
    unfold okDr inr
    rcases hv with h | h
    · have : decide (ds[k].stamp ≤ c) = false := by simp; omega
      simp [this]
    · have : decide (ds[k].names.length ≤ 0) = false := by simp only [decide_eq_false_iff_not]; omega
      rw [this]; simp)
  simp [okDisk, this]
theorem okDisk_eq {fs : List Fil} {c : Int} {ds : List Dr} (h : ∀ i (h : i < ds.length), ds[i].stamp ≤ c ∧ ds[i].names.length ≤ 0) : okDisk ⟨fs, c, ds⟩ = (okTree fs && (inr c 0 200 && okDirs ds 200 12)) := by
  unfold okDisk
  dsimp only
  by_cases hc : inr c 0 200 = true
  · have hc' := hc
    unfold inr at hc'
    simp only [Bool.and_eq_true, decide_eq_true_eq] at hc'
    have e : ds.all (okDr c 0) = ds.all (okDr 200 12) := by
      rw [Bool.eq_iff_iff, List.all_eq_true, List.all_eq_true]
      constructor
      · intro h1 d hd
        have h2 := h1 d hd
        unfold okDr inr at h2 ⊢
        simp only [Bool.and_eq_true, decide_eq_true_eq] at h2 ⊢
        obtain ⟨⟨⟨x1, x2⟩, x3⟩, x4⟩ := h2
        exact ⟨⟨⟨x1, x2⟩, by omega⟩, by omega⟩
      · intro h1 d hd
        have h2 := h1 d hd
        obtain ⟨i, hi, rfl⟩ := List.getElem_of_mem hd
        have h3 := h i hi
        unfold okDr inr at h2 ⊢
        simp only [Bool.and_eq_true, decide_eq_true_eq] at h2 ⊢
        obtain ⟨⟨⟨x1, x2⟩, x3⟩, x4⟩ := h2
        exact ⟨⟨⟨x1, x2⟩, by omega⟩, by omega⟩
    have e2 : okDirs ds c 0 = okDirs ds 200 12 := by unfold okDirs; rw [e]
    rw [e2, hc]
    cases okDirs ds 200 12 <;> cases okTree fs <;> rfl
  · have hc' : inr c 0 200 = false := by simpa using hc
    rw [hc']; simp
def forget (f : Fnd) : Fnd := if okFnd f then ⟨[], f.fills, f.hits⟩ else ⟨[], 0, 0⟩
end Go.Proofs.Ytgecemngfpgcoaa.Nm
