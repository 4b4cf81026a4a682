/- Directories, disks and finders as plain data: what the model's functions of chapter 4 answer. Nothing of the program stands here. -/
import Derived.Test.YtgecemngfpgcoaaPlainG
set_option linter.unusedVariables false
set_option linter.unusedSimpArgs false
namespace Go.Proofs.Ytgecemngfpgcoaa.Nm

/-- A directory. -/
structure Dr where
  root : Int
  pack : Bs
  stamp : Int
  names : List Bs
theorem dr_ext {a b : Dr} (h1 : a.root = b.root) (h2 : a.pack = b.pack) (h3 : a.stamp = b.stamp) (h4 : a.names = b.names) : a = b := by cases a; cases b; simp_all
instance : DecidableEq Dr := fun a b =>
  if h : a.root = b.root ∧ a.pack = b.pack ∧ a.stamp = b.stamp ∧ a.names = b.names then isTrue (dr_ext h.1 h.2.1 h.2.2.1 h.2.2.2) else isFalse (fun e => h (by subst e; simp))
/-- A disk, a finder. -/
structure Dsk where
  files : List Fil
  clock : Int
  dirs : List Dr
structure Fnd where
  dirs : List Dr
  fills : Int
  hits : Int
/-- The place of a directory. -/
abbrev DPl := Int × Bs
def dplace (d : Dr) : DPl := (d.root, d.pack)
/-- The first of a list with a key, -1 if there is none. -/
def keyFrom {α β : Type} [DecidableEq β] (key : α → β) : List α → β → Nat → Int
  | [], _, _ => -1
  | x :: r, p, k => if key x = p then (k : Int) else keyFrom key r p (k + 1)
def keyAt {α β : Type} [DecidableEq β] (key : α → β) (xs : List α) (p : β) : Int := keyFrom key xs p 0
section
variable {α β : Type} [DecidableEq β] {key : α → β}
theorem keyFrom_is (xs : List α) (p : β) (k : Nat) : (keyFrom key xs p k = -1 ∧ ∀ j (h : j < xs.length), key xs[j] ≠ p) ∨
    ∃ j, ∃ h : j < xs.length, keyFrom key xs p k = ((k + j : Nat) : Int) ∧ key xs[j] = p ∧ ∀ i (hi : i < xs.length), i < j → key xs[i] ≠ p := by
  induction xs generalizing k with
  | nil => exact .inl ⟨rfl, fun j h => absurd h (by simp)⟩
  | cons f r ih =>
    unfold keyFrom
    by_cases e : key f = p
    · rw [if_pos e]
      exact .inr ⟨0, by simp, by simp, by simpa using e, fun i _ h => absurd h (by omega)⟩
    · rw [if_neg e]
      rcases ih (k + 1) with ⟨h1, h2⟩ | ⟨j, hj, h1, h2, h3⟩
      · refine .inl ⟨h1, fun j hj => ?_⟩
        cases j with
        | zero => simpa using e
        | succ j => simpa using h2 j (by simpa using hj)
      · refine .inr ⟨j + 1, by simpa using hj, by rw [h1]; omega, by simpa using h2, fun i hi hij => ?_⟩
        cases i with
        | zero => simpa using e
        | succ i => simpa using h3 i (by simpa using hi) (by omega)
theorem keyAt_is (xs : List α) (p : β) : (keyAt key xs p = -1 ∧ ∀ j (h : j < xs.length), key xs[j] ≠ p) ∨
    ∃ j, ∃ h : j < xs.length, keyAt key xs p = (j : Int) ∧ key xs[j] = p ∧ ∀ i (hi : i < xs.length), i < j → key xs[i] ≠ p := by
  rcases keyFrom_is (key := key) xs p 0 with h | ⟨j, hj, h1, h2⟩
  · exact .inl h
  · exact .inr ⟨j, hj, by unfold keyAt; rw [h1, Nat.zero_add], h2⟩
theorem keyAt_yes (xs : List α) (k : Nat) (h : k < xs.length) (p : β) (hn : ∀ j (hj : j < xs.length), j < k → key xs[j] ≠ p) (hy : key xs[k] = p) : keyAt key xs p = (k : Int) := by
  rcases keyAt_is (key := key) xs p with ⟨h1, h2⟩ | ⟨j, hj, h1, h2, h3⟩
  · exact absurd hy (h2 k h)
  · rcases Nat.lt_trichotomy j k with e | e | e
    · exact absurd h2 (hn j hj e)
    · subst e; exact h1
    · exact absurd hy (h3 k h e)
theorem keyAt_no (xs : List α) (p : β) (hn : ∀ j (hj : j < xs.length), key xs[j] ≠ p) : keyAt key xs p = -1 := by
  rcases keyAt_is (key := key) xs p with ⟨h1, h2⟩ | ⟨j, hj, h1, h2, h3⟩
  · exact h1
  · exact absurd h2 (hn j hj)
theorem keyAt_range (xs : List α) (p : β) : -1 ≤ keyAt key xs p ∧ keyAt key xs p < xs.length := by
  rcases keyAt_is (key := key) xs p with ⟨h1, h2⟩ | ⟨j, hj, h1, h2, h3⟩ <;> rw [h1] <;> omega
/-- No two have one key, as each is the first with its own. -/
theorem keys_nodup {xs : List α} (h : ∀ k (hk : k < xs.length), (k : Int) ≤ keyAt key xs (key xs[k])) : (xs.map key).Nodup := by
  rw [List.Nodup, List.pairwise_iff_getElem]
  intro i j hi hj hij
  rw [List.length_map] at hi hj
  rw [List.getElem_map, List.getElem_map]
  intro e
  have h1 := h j hj
  rcases keyAt_is (key := key) xs (key xs[j]) with ⟨h2, _⟩ | ⟨m, hm, h2, _, h4⟩
  · omega
  · exact h4 i hi (by omega) e
theorem keys_dup {xs : List α} (k : Nat) (hk : k < xs.length) (h : keyAt key xs (key xs[k]) < (k : Int)) : ¬ (xs.map key).Nodup := by
  rw [List.Nodup, List.pairwise_iff_getElem]
  intro hn
  rcases keyAt_is (key := key) xs (key xs[k]) with ⟨_, h2⟩ | ⟨m, hm, h2, h3, _⟩
  · exact h2 k hk rfl
  · have := hn m k (by rw [List.length_map]; exact hm) (by rw [List.length_map]; exact hk) (by omega)
    rw [List.getElem_map, List.getElem_map] at this
    exact this h3
/-- .. and as none ahead of it has it. -/
theorem keys_nodup' {xs : List α} (h : ∀ k (hk : k < xs.length), keyAt key (xs.take k) (key xs[k]) = -1) : (xs.map key).Nodup := by
  rw [List.Nodup, List.pairwise_iff_getElem]
  intro i j hi hj hij
  rw [List.length_map] at hi hj
  rw [List.getElem_map, List.getElem_map]
  intro e
  rcases keyAt_is (key := key) (xs.take j) (key xs[j]) with ⟨_, h2⟩ | ⟨m, hm, h2, _, _⟩
  · have h3 := h2 i (by rw [List.length_take]; omega)
    rw [List.getElem_take] at h3
    exact h3 e
  · have := h j hj; omega
theorem keys_dup' {xs : List α} (k : Nat) (hk : k < xs.length) (h : keyAt key (xs.take k) (key xs[k]) ≠ -1) : ¬ (xs.map key).Nodup := by
  rw [List.Nodup, List.pairwise_iff_getElem]
  intro hn
  rcases keyAt_is (key := key) (xs.take k) (key xs[k]) with ⟨h1, _⟩ | ⟨m, hm, h2, h3, _⟩
  · exact h h1
  · rw [List.length_take] at hm
    rw [List.getElem_take] at h3
    have := hn m k (by rw [List.length_map]; omega) (by rw [List.length_map]; exact hk) (by omega)
    rw [List.getElem_map, List.getElem_map] at this
    exact this h3
end
/-- The first directory at a place, -1 if there is none. -/
def dirAt (ds : List Dr) (p : DPl) : Int := keyAt dplace ds p
def okDr (most : Int) (names : Nat) (d : Dr) : Bool := inr d.root 0 2 && vpk d.pack && inr d.stamp 0 most && decide (d.names.length ≤ names)
def okDirs (ds : List Dr) (most : Int) (names : Nat) : Bool := ds.all (okDr most names) && decide (ds.map dplace).Nodup && decide (ds.length ≤ 20)
def okDisk (d : Dsk) : Bool := inr d.clock 0 200 && okDirs d.dirs d.clock 0 && okTree d.files
def okFnd (f : Fnd) : Bool := inr f.fills 0 1000 && inr f.hits 0 1000 && okDirs f.dirs 200 12
/-- The stamp that a directory has. -/
def stampIn (ds : List Dr) (p : DPl) : Int := if dirAt ds p < 0 then 0 else ((ds[(dirAt ds p).toNat]?).map Dr.stamp).getD 0
theorem stampIn_no {ds : List Dr} {p : DPl} (h : dirAt ds p = -1) : stampIn ds p = 0 := by unfold stampIn; rw [h]; rfl
theorem stampIn_yes {ds : List Dr} {p : DPl} {k : Nat} (hk : k < ds.length) (h : dirAt ds p = (k : Int)) : stampIn ds p = ds[k].stamp := by
  unfold stampIn; rw [h, if_neg (by omega)]; simp [hk]
def stampOf (d : Dsk) (root : Int) (p : Bs) : Int := if okDisk d && (inr root 0 2 && vpk p) then stampIn d.dirs (root, p) else -1
/-- The directories of a finder that tell what is not so. -/
def staleGo (t : List Fil) (dirs : List Dr) : List Dr → Int → List Int
  | [], _ => []
  | x :: r, i => (if x.stamp = stampIn dirs (dplace x) ∧ x.names ≠ listDir t x.root x.pack then [i] else []) ++ staleGo t dirs r (i + 1)
def stale (f : Fnd) (d : Dsk) : List Int := if okFnd f && okDisk d then staleGo d.files d.dirs f.dirs 0 else []
theorem staleGo_app (t : List Fil) (dirs a b : List Dr) (i : Int) : staleGo t dirs (a ++ b) i = staleGo t dirs a i ++ staleGo t dirs b (i + a.length) := by
  induction a generalizing i with
  | nil => simp [staleGo]
  | cons x r ih => simp only [List.cons_append, staleGo, ih, List.append_assoc, List.length_cons]; congr 3; omega
theorem staleGo_len (t : List Fil) (dirs : List Dr) : ∀ (l : List Dr) (i : Int), (staleGo t dirs l i).length ≤ l.length
  | [], _ => by simp [staleGo]
  | x :: r, i => by
    have := staleGo_len t dirs r (i + 1)
    unfold staleGo; split <;> simp <;> omega
theorem staleGo_snoc (t : List Fil) (dirs l : List Dr) (k : Nat) (h : k < l.length) : staleGo t dirs (l.take (k + 1)) 0 = staleGo t dirs (l.take k) 0 ++ (if l[k].stamp = stampIn dirs (dplace l[k]) ∧ l[k].names ≠ listDir t l[k].root l[k].pack then [(k : Int)] else []) := by
  rw [List.take_succ_eq_append_getElem h, staleGo_app]
  have e : (l.take k).length = k := by rw [List.length_take]; omega
  rw [e]
  simp [staleGo]

/-! ### When directories are valid. -/
theorem okDirs_dr {ds : List Dr} {most : Int} {nm : Nat} (k : Nat) (h : k < ds.length) (hv : okDr most nm ds[k] = false) : okDirs ds most nm = false := by
  have : ds.all (okDr most nm) = false := by rw [List.all_eq_false]; exact ⟨_, List.getElem_mem h, by simp [hv]⟩
  simp [okDirs, this]
theorem okDirs_long {ds : List Dr} {most : Int} {nm : Nat} (h : 20 < ds.length) : okDirs ds most nm = false := by
  simp [okDirs]; omega
theorem okDirs_dup {ds : List Dr} {most : Int} {nm : Nat} (h : ¬ (ds.map dplace).Nodup) : okDirs ds most nm = false := by
  simp [okDirs, h]
theorem all_okDr {ds : List Dr} {most : Int} {nm : Nat} (ha : ∀ i (h : i < ds.length), okDr most nm ds[i] = true) : ds.all (okDr most nm) = true := by
  rw [List.all_eq_true]; intro s hs
  obtain ⟨i, hi, rfl⟩ := List.getElem_of_mem hs
  exact ha i hi
theorem okDirs_yes {ds : List Dr} {most : Int} {nm : Nat} (ha : ∀ i (h : i < ds.length), okDr most nm ds[i] = true) (hn : (ds.map dplace).Nodup) (hl : ds.length ≤ 20) : okDirs ds most nm = true := by
  simp [okDirs, all_okDr ha, hn, hl]
theorem okDirs_all {ds : List Dr} {most : Int} {nm : Nat} (ha : ∀ i (h : i < ds.length), okDr most nm ds[i] = true) (hn : (ds.map dplace).Nodup) : okDirs ds most nm = decide (ds.length ≤ 20) := by
  simp [okDirs, all_okDr ha, hn]
theorem okDirs_len {ds : List Dr} {most : Int} {nm : Nat} (h : okDirs ds most nm = true) : ds.length ≤ 20 := by
  unfold okDirs at h; simp only [Bool.and_eq_true, decide_eq_true_eq] at h; exact h.2
theorem okDirs_at {ds : List Dr} {most : Int} {nm : Nat} (h : okDirs ds most nm = true) {d : Dr} (hd : d ∈ ds) : okDr most nm d = true := by
  unfold okDirs at h; simp only [Bool.and_eq_true] at h; exact List.all_eq_true.1 h.1.1 d hd
/-- The model looks at the clock of a disk by itself. -/
theorem okDisk_late {fs : List Fil} {c : Int} {ds : List Dr} (k : Nat) (h : k < ds.length) (hv : c < ds[k].stamp ∨ 0 < ds[k].names.length) : okDisk ⟨fs, c, ds⟩ = false := by
  have : okDirs ds c 0 = false := okDirs_dr k h (by
    unfold okDr inr
    rcases hv with h | h
    · have : decide (ds[k].stamp ≤ c) = false := by simp; omega
      simp [this]
    · have : decide (ds[k].names.length ≤ 0) = false := by simp only [decide_eq_false_iff_not]; omega
      rw [this]; simp)
  simp [okDisk, this]
theorem okDisk_eq {fs : List Fil} {c : Int} {ds : List Dr} (h : ∀ i (h : i < ds.length), ds[i].stamp ≤ c ∧ ds[i].names.length ≤ 0) : okDisk ⟨fs, c, ds⟩ = (okTree fs && (inr c 0 200 && okDirs ds 200 12)) := by
  unfold okDisk
  dsimp only
  by_cases hc : inr c 0 200 = true
  · have hc' := hc
    unfold inr at hc'
    simp only [Bool.and_eq_true, decide_eq_true_eq] at hc'
    have e : ds.all (okDr c 0) = ds.all (okDr 200 12) := by
      rw [Bool.eq_iff_iff, List.all_eq_true, List.all_eq_true]
      constructor
      · intro h1 d hd
        have h2 := h1 d hd
        unfold okDr inr at h2 ⊢
        simp only [Bool.and_eq_true, decide_eq_true_eq] at h2 ⊢
        obtain ⟨⟨⟨x1, x2⟩, x3⟩, x4⟩ := h2
        exact ⟨⟨⟨x1, x2⟩, by omega⟩, by omega⟩
      · intro h1 d hd
        have h2 := h1 d hd
        obtain ⟨i, hi, rfl⟩ := List.getElem_of_mem hd
        have h3 := h i hi
        unfold okDr inr at h2 ⊢
        simp only [Bool.and_eq_true, decide_eq_true_eq] at h2 ⊢
        obtain ⟨⟨⟨x1, x2⟩, x3⟩, x4⟩ := h2
        exact ⟨⟨⟨x1, x2⟩, by omega⟩, by omega⟩
    have e2 : okDirs ds c 0 = okDirs ds 200 12 := by unfold okDirs; rw [e]
    rw [e2, hc]
    cases okDirs ds 200 12 <;> cases okTree fs <;> rfl
  · have hc' : inr c 0 200 = false := by simpa using hc
    rw [hc']; simp
def forget (f : Fnd) : Fnd := if okFnd f then ⟨[], f.fills, f.hits⟩ else ⟨[], 0, 0⟩
end Go.Proofs.Ytgecemngfpgcoaa.Nm

/-! ### Plain facts of disks for promises P37 to P40. -/
namespace Go.Proofs.Ytgecemngfpgcoaa.Nm

theorem inr_iff {x lo hi : Int} : inr x lo hi = true ↔ lo ≤ x ∧ x ≤ hi := by unfold inr; simp
/-- P37: a valid disk without directories is valid, and one with a later clock. -/
theorem okDisk_less {t : List Fil} {c : Int} {ds : List Dr} (h : okDisk ⟨t, c, ds⟩ = true) : okDisk ⟨t, c, []⟩ = true ∧ okDisk ⟨t, min (c + 1) 200, ds⟩ = true := by
  unfold okDisk at h
  simp only [Bool.and_eq_true] at h
  obtain ⟨⟨h1, h2⟩, h3⟩ := h
  have hc := inr_iff.1 h1
  refine ⟨?_, ?_⟩
  · unfold okDisk
    simp only [Bool.and_eq_true]
    exact ⟨⟨h1, okDirs_yes (by simp) (by simp) (by simp)⟩, h3⟩
  · unfold okDisk
    simp only [Bool.and_eq_true]
    refine ⟨⟨inr_iff.2 (by omega), ?_⟩, h3⟩
    refine okDirs_yes (fun i hi => ?_) ?_ (okDirs_len h2)
    · have hd := okDirs_at h2 (List.getElem_mem hi)
      unfold okDr at hd ⊢
      simp only [Bool.and_eq_true] at hd ⊢
      obtain ⟨⟨⟨a, b⟩, e⟩, f⟩ := hd
      have he := inr_iff.1 e
      exact ⟨⟨⟨a, b⟩, inr_iff.2 (by omega)⟩, f⟩
    · unfold okDirs at h2
      simp only [Bool.and_eq_true, decide_eq_true_eq] at h2
      exact h2.1.2
/-- P38: a stamp is of the past, and 0 or that of a directory that the disk has. -/
theorem stampOf_past {d : Dsk} {root : Int} {p : Bs} (h : 0 ≤ stampOf d root p) : okDisk d = true ∧ stampOf d root p ≤ d.clock ∧ ((∃ x ∈ d.dirs, x.root = root ∧ x.pack = p ∧ x.stamp = stampOf d root p) ∨ stampOf d root p = 0) := by
  unfold stampOf at h ⊢
  split at h
  · rename_i hk
    rw [if_pos hk]
    simp only [Bool.and_eq_true] at hk
    have hd := hk.1
    have hd2 := hd
    unfold okDisk at hd2
    simp only [Bool.and_eq_true] at hd2
    have hc := inr_iff.1 hd2.1.1
    rcases keyAt_is (key := dplace) d.dirs (root, p) with ⟨h1, _⟩ | h2
    · have h0 : stampIn d.dirs (root, p) = 0 := stampIn_no h1
      rw [h0]
      exact ⟨hd, by omega, .inr rfl⟩
    · obtain ⟨k, hk1, hk2, hk3⟩ : ∃ k, ∃ h : k < d.dirs.length, keyAt dplace d.dirs (root, p) = (k : Int) ∧ dplace d.dirs[k] = (root, p) := by
        obtain ⟨k, hk, a, b⟩ := h2
        first
          | exact ⟨k, hk, a, b⟩
          | exact ⟨k, hk, a, b.1⟩
          | exact ⟨k, hk, b, a⟩
          | exact ⟨k, hk, b.1, a⟩
      have hs : stampIn d.dirs (root, p) = d.dirs[k].stamp := stampIn_yes hk1 hk2
      rw [hs]
      have ho := okDirs_at hd2.1.2 (List.getElem_mem hk1)
      unfold okDr at ho
      simp only [Bool.and_eq_true] at ho
      have he := inr_iff.1 ho.1.2
      have e1 : d.dirs[k].root = root := congrArg Prod.fst hk3
      have e2 : d.dirs[k].pack = p := congrArg Prod.snd hk3
      exact ⟨hd, he.2, .inl ⟨_, List.getElem_mem hk1, e1, e2, rfl⟩⟩
  · omega
end Go.Proofs.Ytgecemngfpgcoaa.Nm

/-! Stamps behind a change (P39, P40). putDr and stampAll are DskC's and DskD's own definitions: move them here when DskC is built next. -/
namespace Go.Proofs.Ytgecemngfpgcoaa.PlainKd
open Go.Proofs.Ytgecemngfpgcoaa.Nm
def putDr (ds : List Dr) (d : Dr) : List Dr := if 0 ≤ dirAt ds (dplace d) then ds.set (dirAt ds (dplace d)).toNat d else ds ++ [d]
theorem stamp_put (ds : List Dr) (d : Dr) (q : DPl) : stampIn (putDr ds d) q = if q = dplace d then d.stamp else stampIn ds q := by
  rcases keyAt_is (key := dplace) ds (dplace d) with ⟨h1, h2⟩ | ⟨k, hk, h1, h2, h3⟩
  · have e : putDr ds d = ds ++ [d] := by unfold putDr dirAt; rw [h1]; rfl
    rw [e]
    by_cases hq : q = dplace d
    · subst hq
      rw [if_pos rfl]
      have hl : ds.length < (ds ++ [d]).length := by simp
      have hd : dirAt (ds ++ [d]) (dplace d) = ((ds.length : Nat) : Int) := by
        unfold dirAt
        refine keyAt_yes _ _ hl _ (fun j hj hlt => ?_) (by simp)
        rw [List.getElem_append_left hlt]; exact h2 j hlt
      rw [stampIn_yes hl hd]; simp
    · rw [if_neg hq]
      rcases keyAt_is (key := dplace) ds q with ⟨g1, g2⟩ | ⟨j, hj, g1, g2, g3⟩
      · have hn : dirAt (ds ++ [d]) q = -1 := by
          unfold dirAt
          refine keyAt_no _ _ (fun i hi => ?_)
          by_cases hil : i < ds.length
          · rw [List.getElem_append_left hil]; exact g2 i hil
          · have : (ds ++ [d])[i] = d := by rw [List.getElem_append_right (by omega)]; simp
            rw [this]; exact fun h => hq h.symm
        rw [stampIn_no hn, stampIn_no (show dirAt ds q = -1 from g1)]
      · have hl : j < (ds ++ [d]).length := by simp; omega
        have hd : dirAt (ds ++ [d]) q = (j : Int) := by
          unfold dirAt
          refine keyAt_yes _ _ hl _ (fun i hi hlt => ?_) (by rw [List.getElem_append_left hj]; exact g2)
          rw [List.getElem_append_left (by omega)]; exact g3 i (by omega) hlt
        rw [stampIn_yes hl hd, stampIn_yes hj (show dirAt ds q = (j : Int) from g1), List.getElem_append_left hj]
  · have e : putDr ds d = ds.set k d := by unfold putDr dirAt; rw [h1]; simp
    have hkey : ∀ i (hi : i < (ds.set k d).length), dplace (ds.set k d)[i] = dplace (ds[i]'(by simpa using hi)) := fun i hi => by
      rw [List.getElem_set]
      split
      · rename_i hki; subst hki; exact h2.symm
      · rfl
    rw [e]
    rcases keyAt_is (key := dplace) ds q with ⟨g1, g2⟩ | ⟨j, hj, g1, g2, g3⟩
    · have hn : dirAt (ds.set k d) q = -1 := by
        unfold dirAt
        exact keyAt_no _ _ (fun i hi => by rw [hkey i hi]; exact g2 i (by simpa using hi))
      have hq : q ≠ dplace d := fun h => g2 k hk (h2.trans h.symm)
      rw [stampIn_no hn, if_neg hq, stampIn_no (show dirAt ds q = -1 from g1)]
    · have hl : j < (ds.set k d).length := by simpa using hj
      have hd : dirAt (ds.set k d) q = (j : Int) := by
        unfold dirAt
        exact keyAt_yes _ _ hl _ (fun i hi hlt => by rw [hkey i hi]; exact g3 i (by simpa using hi) hlt) (by rw [hkey j hl]; exact g2)
      rw [stampIn_yes hl hd]
      by_cases hq : q = dplace d
      · rw [if_pos hq]
        have hkj : k = j := by
          rcases Nat.lt_trichotomy k j with h | h | h
          · exact absurd (h2.trans hq.symm) (g3 k hk h)
          · exact h
          · exact absurd (g2.trans hq) (h3 j hj h)
        subst hkj
        rw [List.getElem_set_self]
      · rw [if_neg hq, stampIn_yes hj (show dirAt ds q = (j : Int) from g1)]
        have hne : k ≠ j := fun h => by subst h; exact hq (g2.symm.trans h2)
        rw [List.getElem_set_ne hne]
def stampAll (r c : Int) (xs : List Bs) (ds : List Dr) : List Dr := xs.foldl (fun ds p => putDr ds ⟨r, p, c, []⟩) ds
theorem stamp_all (r c : Int) (q : DPl) : ∀ (xs : List Bs) (ds : List Dr), stampIn (stampAll r c xs ds) q = if q.1 = r ∧ q.2 ∈ xs then c else stampIn ds q
  | [], ds => by simp [stampAll]
  | p :: xs, ds => by
    show stampIn (stampAll r c xs (putDr ds ⟨r, p, c, []⟩)) q = _
    rw [stamp_all r c q xs, stamp_put]
    obtain ⟨q1, q2⟩ := q
    by_cases h1 : q1 = r
    · subst h1
      by_cases h2 : q2 ∈ xs
      · simp [h2]
      · by_cases h3 : q2 = p
        · subst h3; simp [h2, dplace]
        · simp [h2, h3, dplace]
    · simp [h1, dplace]
def changed (d : Dsk) (t : List Fil) (r : Int) (p : Bs) (k : Int) : Dsk × Bool :=
  if inr k 0 (200 - d.clock) && okDisk ⟨t, d.clock + k, stampAll r (d.clock + k) ([] :: namesAbove p) d.dirs⟩ then (⟨t, d.clock + k, stampAll r (d.clock + k) ([] :: namesAbove p) d.dirs⟩, true) else (⟨[], 0, []⟩, false)
/-- What a change that is possible leaves (P39, P40). -/
theorem changed_facts {d : Dsk} {t : List Fil} {r : Int} {p : Bs} {k : Int} (h : (changed d t r p k).2 = true) :
    okDisk (changed d t r p k).1 = true ∧ (changed d t r p k).1.files = t ∧ (changed d t r p k).1.clock = d.clock + k ∧ (0 ≤ k) ∧
    ∀ q, stampIn (changed d t r p k).1.dirs q = if q.1 = r ∧ q.2 ∈ ([] :: namesAbove p) then d.clock + k else stampIn d.dirs q := by
  unfold changed at h ⊢
  split at h
  · rename_i hc
    rw [if_pos hc]
    simp only [Bool.and_eq_true] at hc
    exact ⟨hc.2, rfl, rfl, (inr_iff.1 hc.1).1, fun q => stamp_all r _ q _ _⟩
  · simp at h
/-- A package that is a module's name is among what is above it. -/
theorem self_above {p : Bs} (h : vn p = true) : p ∈ namesAbove p := by
  have e : namesAbove p = above p := by simp [namesAbove, h]
  rw [e]
  first
    | exact above_self p
    | exact self_mem_above h
    | (rw [parent_name h]; simp)
end Go.Proofs.Ytgecemngfpgcoaa.PlainKd
