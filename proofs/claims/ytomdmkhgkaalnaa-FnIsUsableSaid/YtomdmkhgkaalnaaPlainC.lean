/- What is compiled as plain data: what the model's functions of chapter 5 answer. Nothing of the program stands here. -/
import Derived.Test.YtomdmkhgkaalnaaPlainK
set_option linter.unusedVariables false
set_option linter.unusedSimpArgs false
namespace Go.Proofs.Ytomdmkhgkaalnaa.Nm

/-- What is compiled of a file. -/
structure Cmp where
  root : Int
  module : Bs
  init : Bool
  mode : Int
  stamp : Int
  size : Int
  hash : Int
  body : List Stm
theorem cmp_ext {a b : Cmp} (h1 : a.root = b.root) (h2 : a.module = b.module) (h3 : a.init = b.init) (h4 : a.mode = b.mode) (h5 : a.stamp = b.stamp) (h6 : a.size = b.size) (h7 : a.hash = b.hash) (h8 : a.body = b.body) : a = b := by cases a; cases b; simp_all
instance : DecidableEq Cmp := fun a b =>
  if h : a.root = b.root ∧ a.module = b.module ∧ a.init = b.init ∧ a.mode = b.mode ∧ a.stamp = b.stamp ∧ a.size = b.size ∧ a.hash = b.hash ∧ a.body = b.body then
    isTrue (cmp_ext h.1 h.2.1 h.2.2.1 h.2.2.2.1 h.2.2.2.2.1 h.2.2.2.2.2.1 h.2.2.2.2.2.2.1 h.2.2.2.2.2.2.2)
  else isFalse (fun e => h (by subst e; simp))
def stmSize (s : Stm) : Nat := 3 + s.module.length + s.name.length
def sizeSum (b : List Stm) : Nat := (b.map stmSize).sum
/-- The size of a body. -/
def bodySize (b : List Stm) : Int := if okBody b then (sizeSum b : Int) else -1
theorem sizeSum_snoc (b : List Stm) (k : Nat) (h : k < b.length) : sizeSum (b.take (k + 1)) = sizeSum (b.take k) + stmSize b[k] := by
  unfold sizeSum; rw [List.take_succ_eq_append_getElem h, List.map_append, List.sum_append]; simp
theorem sizeSum_le {b : List Stm} {B : Nat} (h : ∀ s ∈ b, stmSize s ≤ B) : sizeSum b ≤ b.length * B := by
  induction b with
  | nil => simp [sizeSum]
  | cons x r ih =>
    have h1 := ih (fun s hs => h s (by simp [hs]))
    have h2 := h x (by simp)
    have e : sizeSum (x :: r) = stmSize x + sizeSum r := by simp [sizeSum]
    rw [e, List.length_cons, Nat.succ_mul]; omega
/-- Where a file's module is. -/
abbrev CPl := Int × Bs × Bool
def cplace (c : Cmp) : CPl := (c.root, c.module, c.init)
def fplace (f : Fil) : CPl := (f.root, modName f, f.init)
/-- The place of the file of a module. -/
def srcPlace (p : CPl) : Pl := if p.2.2 then (p.1, p.2.1, [], true) else (p.1, parentOf p.2.1, lastOf p.2.1, false)
def okCmp (c : Cmp) : Bool := inr c.root 0 2 && vn c.module && inr c.mode 0 2 && inr c.stamp 0 99 && okBody c.body && decide (c.size = (sizeSum c.body : Int)) && decide (c.hash = hashOf c.body)
def okStore (l : List Cmp) : Bool := l.all okCmp && decide (l.map cplace).Nodup && decide (l.length ≤ 12)
def compiled (f : Fil) (mode : Int) : Cmp := ⟨f.root, modName f, f.init, mode, f.stamp, sizeSum f.body, hashOf f.body, f.body⟩
def noCmp : Cmp := ⟨0, [], false, 0, 0, 0, 0, []⟩
def compile (f : Fil) (mode : Int) : Cmp := if okFil f && inr mode 0 2 then compiled f mode else noCmp
def usable (c : Cmp) (f : Fil) : Bool := if c.mode = 0 then decide (c.stamp = f.stamp) && decide (c.size = (sizeSum f.body : Int)) else if c.mode = 1 then decide (c.hash = hashOf f.body) else true
def isUsable (c : Cmp) (f : Fil) : Bool := okCmp c && okFil f && decide (cplace c = fplace f) && usable c f
def compileTree (t : List Fil) (mode : Int) : List Cmp := if okTree t && inr mode 0 2 then t.map (fun f => compiled f mode) else []

/-! ### The place of a module's file tells the module. -/
theorem srcPlace_inj {a b : CPl} (ha : vn a.2.1 = true) (hb : vn b.2.1 = true) (h : srcPlace a = srcPlace b) : a = b := by
  obtain ⟨r, m, i⟩ := a
  obtain ⟨r', m', i'⟩ := b
  dsimp only at ha hb
  unfold srcPlace at h
  dsimp only at h
  cases i <;> cases i' <;> simp only [Bool.false_eq_true, if_true, if_false, ↓reduceIte, Prod.mk.injEq, and_true, and_false, reduceCtorEq] at h
  · obtain ⟨h1, h2, h3⟩ := h
    have e1 := child_parent_last m ha
    have e2 := child_parent_last m' hb
    have p1 := parentOf_of ha
    have p2 := parentOf_of hb
    have l1 : lastOf m = last m := by simp [lastOf, ha]
    have l2 : lastOf m' = last m' := by simp [lastOf, hb]
    rw [p1, p2] at h2
    rw [l1, l2] at h3
    rw [h2, h3, e2] at e1
    rw [h1, ← e1]
  · obtain ⟨h1, h2⟩ := h
    rw [h1, h2]
theorem srcPlace_iff {a b : CPl} (ha : vn a.2.1 = true) (hb : vn b.2.1 = true) : srcPlace a = srcPlace b ↔ a = b := ⟨srcPlace_inj ha hb, fun h => by rw [h]⟩
/-- The place of a valid file is that of its module. -/
theorem srcPlace_fil {f : Fil} (h : okFil f = true) : srcPlace (fplace f) = place f ∧ vn (modName f) = true := by
  unfold okFil at h
  simp only [Bool.and_eq_true] at h
  obtain ⟨⟨⟨⟨h1, h2⟩, h3⟩, h4⟩, h5⟩ := h
  unfold srcPlace fplace place modName
  cases hi : f.init
  · rw [hi] at h5
    simp only [Bool.false_eq_true, if_false, ↓reduceIte, Bool.and_eq_true] at h5 ⊢
    obtain ⟨c1, c2, c3⟩ := child_back h3 h5.1 h5.2
    have p1 := parentOf_of h5.2
    have l1 : lastOf (child f.pack f.name) = last (child f.pack f.name) := by simp [lastOf, h5.2]
    rw [p1, l1, c1, c2]
    exact ⟨rfl, h5.2⟩
  · rw [hi] at h5
    simp only [if_true, ↓reduceIte, Bool.and_eq_true] at h5 ⊢
    have e : f.name = [] := by simpa using h5.2
    rw [e]
    refine ⟨rfl, ?_⟩
    unfold vpk at h3
    cases hp : f.pack with
    | nil => rw [hp] at h5; simp at h5
    | cons a r => rw [hp] at h3; simpa using h3
theorem srcPlace_is {p : CPl} {f : Fil} (hp : vn p.2.1 = true) (h : okFil f = true) : srcPlace p = place f ↔ p = fplace f := by
  obtain ⟨h1, h2⟩ := srcPlace_fil h
  rw [← h1]
  exact srcPlace_iff hp h2

/-! ### When a store is valid. -/
theorem okStore_no {l : List Cmp} (k : Nat) (h : k < l.length) (hv : okCmp l[k] = false) : okStore l = false := by
  have : l.all okCmp = false := by rw [List.all_eq_false]; exact ⟨_, List.getElem_mem h, by simp [hv]⟩
  simp [okStore, this]
theorem okStore_long {l : List Cmp} (h : 12 < l.length) : okStore l = false := by
  simp [okStore]; omega
theorem okStore_dup {l : List Cmp} (h : ¬ (l.map cplace).Nodup) : okStore l = false := by
  simp [okStore, h]
theorem okStore_all {l : List Cmp} (ha : ∀ i (h : i < l.length), okCmp l[i] = true) (hn : (l.map cplace).Nodup) : okStore l = decide (l.length ≤ 12) := by
  have : l.all okCmp = true := by
    rw [List.all_eq_true]; intro s hs
    obtain ⟨i, hi, rfl⟩ := List.getElem_of_mem hs
    exact ha i hi
  simp [okStore, this, hn]
theorem okStore_facts {l : List Cmp} (h : okStore l = true) : (∀ c ∈ l, okCmp c = true) ∧ (l.map cplace).Nodup ∧ l.length ≤ 12 := by
  unfold okStore at h; simp only [Bool.and_eq_true, decide_eq_true_eq, List.all_eq_true] at h; exact ⟨h.1.1, h.1.2, h.2⟩
theorem okCmp_vn {c : Cmp} (h : okCmp c = true) : vn c.module = true := by
  unfold okCmp at h; simp only [Bool.and_eq_true] at h; exact h.1.1.1.1.1.2
theorem okCmp_body {c : Cmp} (h : okCmp c = true) : okBody c.body = true := by
  unfold okCmp at h; simp only [Bool.and_eq_true] at h; exact h.1.1.2
/-- The first of a place, told by the place of the file. -/
theorem keyAt_map {α β γ : Type} [DecidableEq β] [DecidableEq γ] {key : α → β} {f : β → γ} {xs : List α} {p : β} (h : ∀ x ∈ xs, f (key x) = f p ↔ key x = p) : keyAt (fun x => f (key x)) xs (f p) = keyAt key xs p := by
  rcases keyAt_is (key := key) xs p with ⟨h1, h2⟩ | ⟨j, hj, h1, h2, h3⟩
  · rw [h1]
    exact keyAt_no _ _ (fun j hj e => h2 j hj ((h _ (List.getElem_mem hj)).1 e))
  · rw [h1]
    exact keyAt_yes _ j hj _ (fun i hi hij e => h3 i hi hij ((h _ (List.getElem_mem hi)).1 e)) (by rw [h2])
end Go.Proofs.Ytomdmkhgkaalnaa.Nm
