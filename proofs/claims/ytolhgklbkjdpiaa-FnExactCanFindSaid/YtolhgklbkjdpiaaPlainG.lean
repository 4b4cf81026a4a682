/- Finders as plain data: what the model's functions of chapter 3 answer. Nothing of the program stands here. -/
import Derived.Test.YtolhgklbkjdpiaaPlainL
import Derived.Test.YtolhgklbkjdpiaaPlainS
import Derived.Test.YtolhgklbkjdpiaaPlain4
set_option linter.unusedVariables false
set_option linter.unusedSimpArgs false
namespace Go.Proofs.Ytolhgklbkjdpiaa.Nm

/-- What is found. -/
structure Spc where
  kind : Int
  file : Int
  roots : List Int

theorem spc_ext {a b : Spc} (h1 : a.kind = b.kind) (h2 : a.file = b.file) (h3 : a.roots = b.roots) : a = b := by cases a; cases b; simp_all
instance : DecidableEq Spc := fun a b =>
  if h : a.kind = b.kind ∧ a.file = b.file ∧ a.roots = b.roots then isTrue (spc_ext h.1 h.2.1 h.2.2) else isFalse (fun e => h (by subst e; simp))

def noSpc : Spc := ⟨0, -1, []⟩
def intFrom : List Int → Int → Nat → Int
  | [], _, _ => -1
  | x :: r, n, k => if x = n then (k : Int) else intFrom r n (k + 1)
/-- The first index of a number, -1 if it is not there. -/
def intIdx (xs : List Int) (n : Int) : Int := intFrom xs n 0
theorem intFrom_is (xs : List Int) (n : Int) (k : Nat) : (intFrom xs n k = -1 ∧ ∀ j (h : j < xs.length), xs[j] ≠ n) ∨
    ∃ j, ∃ h : j < xs.length, intFrom xs n k = ((k + j : Nat) : Int) ∧ xs[j] = n ∧ ∀ i (hi : i < xs.length), i < j → xs[i] ≠ n := by
  induction xs generalizing k with
  | nil => exact .inl ⟨rfl, fun j h => absurd h (by simp)⟩
  | cons f r ih =>
    unfold intFrom
    by_cases e : f = n
    · rw [if_pos e]
      exact .inr ⟨0, by simp, by simp, by simpa using e, fun i _ h => absurd h (by omega)⟩
    · rw [if_neg e]
      rcases ih (k + 1) with ⟨h1, h2⟩ | ⟨j, hj, h1, h2, h3⟩
      · refine .inl ⟨h1, fun j hj => ?_⟩
        cases j with
        | zero => simpa using e
        | succ j => simpa using h2 j (by simpa using hj)
      · refine .inr ⟨j + 1, by simpa using hj, by rw [h1]; omega, by simpa using h2, fun i hi hij => ?_⟩
        cases i with
        | zero => simpa using e
        | succ i => simpa using h3 i (by simpa using hi) (by omega)
theorem intIdx_yes (xs : List Int) (k : Nat) (h : k < xs.length) (n : Int) (hn : ∀ j (hj : j < xs.length), j < k → xs[j] ≠ n) (hy : xs[k] = n) : intIdx xs n = (k : Int) := by
  rcases intFrom_is xs n 0 with ⟨h1, h2⟩ | ⟨j, hj, h1, h2, h3⟩
  · exact absurd hy (h2 k h)
  · rcases Nat.lt_trichotomy j k with e | e | e
    · exact absurd h2 (hn j hj e)
    · subst e; unfold intIdx; rw [h1]; simp
    · exact absurd hy (h3 k h e)
theorem intIdx_no (xs : List Int) (n : Int) (hn : ∀ j (hj : j < xs.length), xs[j] ≠ n) : intIdx xs n = -1 := by
  rcases intFrom_is xs n 0 with ⟨h1, h2⟩ | ⟨j, hj, h1, h2, h3⟩
  · exact h1
  · exact absurd h2 (hn j hj)
theorem intIdx_mem (xs : List Int) (n : Int) : 0 ≤ intIdx xs n ↔ n ∈ xs := by
  unfold intIdx
  rcases intFrom_is xs n 0 with ⟨h1, h2⟩ | ⟨j, hj, h1, h2, h3⟩
  · rw [h1]
    refine ⟨fun h => absurd h (by omega), fun h => ?_⟩
    obtain ⟨i, hi, e⟩ := List.getElem_of_mem h
    exact absurd e (h2 i hi)
  · rw [h1]
    exact ⟨fun _ => by rw [← h2]; exact List.getElem_mem hj, fun _ => by omega⟩
theorem intIdx_bd (xs : List Int) (n : Int) : -1 ≤ intIdx xs n ∧ intIdx xs n < xs.length ∨ intIdx xs n = -1 := by
  unfold intIdx
  rcases intFrom_is xs n 0 with ⟨h1, h2⟩ | ⟨j, hj, h1, h2, h3⟩
  · exact .inr h1
  · rw [h1]; left; omega

def okPath (path : List Int) : Bool := path.all (fun r => inr r 0 2) && decide path.Nodup
def okLook (t : List Fil) (path : List Int) : Bool := okPath path && okTree t

/-- What one root has of a name. -/
def rootSpc (t : List Fil) (r : Int) (n : Bs) : Spc :=
  if 0 ≤ firstAt t (r, n, [], true) then ⟨2, firstAt t (r, n, [], true), [r]⟩
  else if 0 ≤ firstAt t (r, parent n, last n, false) then ⟨1, firstAt t (r, parent n, last n, false), []⟩
  else if dirIn t r n then ⟨3, -1, [r]⟩ else noSpc
def overGo (t : List Fil) (n : Bs) : List Int → List Int → Spc
  | [], ds => if ds = [] then noSpc else ⟨3, -1, ds⟩
  | r :: rs, ds => if (rootSpc t r n).file = -1 then overGo t n rs (ds ++ (rootSpc t r n).roots) else rootSpc t r n
/-- What some roots have of a name. -/
def overSpc (t : List Fil) (rs : List Int) (n : Bs) : Spc := overGo t n rs []
/-- What is found part by part. -/
def partsGo (t : List Fil) (ns : List Bs) (sp : Spc) : Spc := ns.foldl (fun sp n => overSpc t sp.roots n) sp
def byParts (t : List Fil) (path : List Int) (s : Bs) : Spc := if vn s then partsGo t (above s) ⟨3, -1, path⟩ else noSpc

def findIn (t : List Fil) (path : List Int) (p s : Bs) : Spc := if okLook t path && !(childOf p s).isEmpty then overSpc t path (childOf p s) else noSpc
def findSpec (t : List Fil) (path : List Int) (s : Bs) : Spc := if okLook t path then byParts t path s else noSpc
def canFind (t : List Fil) (path : List Int) (s : Bs) : Bool := decide ((findSpec t path s).kind ≠ 0)
def isPack (t : List Fil) (path : List Int) (s : Bs) : Bool := decide ((findSpec t path s).kind = 2) || decide ((findSpec t path s).kind = 3)
/-- All names that a tree may have. -/
def allNames (t : List Fil) : List Bs := sortUp (t.flatMap (fun f => above (modName f)))
def foundNames (t : List Fil) (path : List Int) : List Bs := if okLook t path then (allNames t).filter (fun s => decide ((byParts t path s).kind ≠ 0)) else []
def foundFor (t : List Fil) (path : List Int) (f : Fil) : Int := (byParts t path (modName f)).file
def hiddenGo (t : List Fil) (path : List Int) : List Fil → Int → List Int
  | [], _ => []
  | f :: r, i => (if foundFor t path f = i then [] else [i]) ++ hiddenGo t path r (i + 1)
def hidden (t : List Fil) (path : List Int) : List Int := if okLook t path then hiddenGo t path t 0 else []
def kidsOf (t : List Fil) (path : List Int) (p : Bs) : List Bs := ((foundNames t path).filter (fun s => decide (parent s = p))).map last
/-- Two finds are the same but for the indices of files. -/
def atPl (t u : List Fil) (i j : Int) : Bool := match t[i.toNat]?, u[j.toNat]? with
  | some f, some g => decide (place f = place g)
  | _, _ => false
def sameSpc (t u : List Fil) (a b : Spc) : Bool := decide (a.kind = b.kind) && decide (a.roots = b.roots) && (if a.file < 0 then decide (b.file < 0) else decide (0 ≤ b.file) && atPl t u a.file b.file)

theorem firstAt_ge (t : List Fil) (p : Pl) : -1 ≤ firstAt t p ∧ (firstAt t p = -1 ∨ (0 ≤ firstAt t p ∧ firstAt t p < t.length)) := by
  rcases firstFrom_is t p 0 with ⟨h1, _⟩ | ⟨j, hj, h1, _⟩
  · unfold firstAt; rw [h1]; simp
  · unfold firstAt; rw [h1]; omega
/-- The file at the index has the place. -/
theorem firstAt_at {t : List Fil} {p : Pl} (h : firstAt t p ≠ -1) : ∃ f, t[(firstAt t p).toNat]? = some f ∧ place f = p := by
  rcases firstFrom_is t p 0 with ⟨h1, _⟩ | ⟨j, hj, h1, h2, _⟩
  · exact absurd h1 h
  · refine ⟨t[j], ?_, h2⟩
    unfold firstAt
    rw [h1]
    simp [hj]
theorem firstAt_none {t : List Fil} {p : Pl} : firstAt t p = -1 ↔ ∀ f ∈ t, place f ≠ p := by
  constructor
  · intro h f hf e
    obtain ⟨j, hj, rfl⟩ := List.getElem_of_mem hf
    rcases firstFrom_is t p 0 with ⟨_, h2⟩ | ⟨i, hi, h1, _⟩
    · exact h2 j hj e
    · unfold firstAt at h; rw [h1] at h; omega
  · intro h
    exact firstAt_no t p (fun j hj => h _ (List.getElem_mem hj))

theorem nodup_le : ∀ (l m : List Int), l.Nodup → (∀ x ∈ l, x ∈ m) → l.length ≤ m.length
  | [], m, _, _ => by simp
  | x :: r, m, hn, h => by
    have hx := h x (by simp)
    have h2 := nodup_le r (m.erase x) (List.nodup_cons.1 hn).2 (fun y hy => by
      have hne : y ≠ x := fun e => by subst e; exact (List.nodup_cons.1 hn).1 hy
      exact (List.mem_erase_of_ne hne).2 (h y (by simp [hy])))
    rw [List.length_erase_of_mem hx] at h2
    have : 0 < m.length := List.length_pos_of_mem hx
    simp only [List.length_cons]; omega
theorem okPath_len {path : List Int} (h : okPath path = true) : path.length ≤ 3 := by
  unfold okPath at h
  simp only [Bool.and_eq_true, decide_eq_true_eq, List.all_eq_true, inr] at h
  obtain ⟨h1, h2⟩ := h
  refine nodup_le path [0, 1, 2] h2 (fun r hr => ?_)
  have h3 := h1 r hr
  have h4 : r = 0 ∨ r = 1 ∨ r = 2 := by omega
  rcases h4 with rfl | rfl | rfl <;> simp

theorem rootSpc_file {t : List Fil} {r : Int} {n : Bs} : -1 ≤ (rootSpc t r n).file ∧ (rootSpc t r n).roots.length ≤ 1 := by
  unfold rootSpc
  repeat' split
  all_goals simp [noSpc]
  · omega
  · omega
theorem rootSpc_lt {t : List Fil} {r : Int} {n : Bs} : (rootSpc t r n).file < t.length ∨ (rootSpc t r n).file = -1 := by
  have h1 := firstAt_ge t (r, n, [], true)
  have h2 := firstAt_ge t (r, parent n, last n, false)
  unfold rootSpc
  repeat' split
  all_goals simp [noSpc]
  · omega
  · omega
theorem overGo_len (t : List Fil) (n : Bs) : ∀ (rs ds : List Int), (overGo t n rs ds).roots.length ≤ ds.length + rs.length ∨ (overGo t n rs ds).roots.length ≤ 1
  | [], ds => by
    unfold overGo; split
    · right; simp [noSpc]
    · left; simp
  | r :: rs, ds => by
    unfold overGo
    have h1 := (rootSpc_file (t := t) (r := r) (n := n)).2
    split
    · have := overGo_len t n rs (ds ++ (rootSpc t r n).roots)
      simp only [List.length_append, List.length_cons] at this ⊢
      omega
    · right; exact h1

theorem partsGo_nil (t : List Fil) (sp : Spc) : partsGo t [] sp = sp := rfl
theorem overSpc_nil (t : List Fil) (n : Bs) : overSpc t [] n = noSpc := by simp [overSpc, overGo]
theorem partsGo_none (t : List Fil) : ∀ (ns : List Bs) (sp : Spc), sp.roots = [] → ns ≠ [] → partsGo t ns sp = noSpc
  | [], _, _, h => absurd rfl h
  | n :: r, sp, h, _ => by
    unfold partsGo
    rw [List.foldl_cons, h, overSpc_nil]
    cases r with
    | nil => rfl
    | cons m r' => exact partsGo_none t (m :: r') noSpc rfl (by simp)
theorem partsGo_snoc (t : List Fil) (ns : List Bs) (k : Nat) (h : k < ns.length) (sp : Spc) : partsGo t (ns.take (k + 1)) sp = overSpc t (partsGo t (ns.take k) sp).roots ns[k] := by
  unfold partsGo
  rw [List.take_succ_eq_append_getElem h, List.foldl_append]; rfl

theorem okPath_bad1 {path : List Int} {k : Nat} (h : k < path.length) (hb : inr path[k] 0 2 = false) : okPath path = false := by
  unfold okPath
  have : path.all (fun r => inr r 0 2) = false := by rw [List.all_eq_false]; exact ⟨_, List.getElem_mem h, by simp [hb]⟩
  rw [this]; rfl
theorem okPath_bad2 {path : List Int} {k : Nat} (h : k < path.length) (hb : path[k] ∈ path.take k) : okPath path = false := by
  unfold okPath
  have : ¬ path.Nodup := fun hn => by
    obtain ⟨j, hj, e⟩ := List.getElem_of_mem hb
    rw [List.getElem_take] at e
    rw [List.length_take] at hj
    rw [List.nodup_iff_pairwise_ne, List.pairwise_iff_getElem] at hn
    exact hn j k (by omega) h (by omega) e
  simp [this]
theorem okPath_good {path : List Int} (h : ∀ k (hk : k < path.length), inr path[k] 0 2 = true ∧ path[k] ∉ path.take k) : okPath path = true := by
  unfold okPath
  rw [Bool.and_eq_true]
  constructor
  · rw [List.all_eq_true]; intro r hr
    obtain ⟨k, hk, rfl⟩ := List.getElem_of_mem hr
    exact (h k hk).1
  · rw [decide_eq_true_eq, List.nodup_iff_pairwise_ne, List.pairwise_iff_getElem]
    intro i j hi hj hij e
    refine (h j hj).2 ?_
    rw [← e]
    rw [List.mem_iff_getElem]
    exact ⟨i, by rw [List.length_take]; omega, by rw [List.getElem_take]⟩
end Go.Proofs.Ytolhgklbkjdpiaa.Nm
