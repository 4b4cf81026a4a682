/- Finders as plain data: what the model's functions of chapter 3 answer. Nothing of the program stands here. -/
import Derived.Test.YtolhgklbkjdpiaaGreatPlainL
import Derived.Test.YtolhgklbkjdpiaaGreatPlainS
import Derived.Test.YtolhgklbkjdpiaaGreatPlain4
set_option linter.unusedVariables false
set_option linter.unusedSimpArgs false
namespace Go.Proofs.YtolhgklbkjdpiaaGreat.Nm

/-- What is found. -/
structure Spc where
  kind : Int
  file : Int
  roots : List Int

theorem spc_ext {a b : Spc} (h1 : a.kind = b.kind) (h2 : a.file = b.file) (h3 : a.roots = b.roots) : a = b := by cases a; cases b; simp_all
instance : DecidableEq Spc := fun a b =>
  if h : a.kind = b.kind ∧ a.file = b.file ∧ a.roots = b.roots then isTrue (spc_ext h.1 h.2.1 h.2.2) else isFalse (fun e => h (by subst e; simp))

def noSpc : Spc := ⟨0, -1, []⟩
def intFrom : List Int → Int → Nat → Int
  | [], _, _ => -1
  | x :: r, n, k => if x = n then (k : Int) else intFrom r n (k + 1)
/-- The first index of a number, -1 if it is not there. -/
def intIdx (xs : List Int) (n : Int) : Int := intFrom xs n 0
theorem intFrom_is (xs : List Int) (n : Int) (k : Nat) : (intFrom xs n k = -1 ∧ ∀ j (h : j < xs.length), xs[j] ≠ n) ∨
    ∃ j, ∃ h : j < xs.length, intFrom xs n k = ((k + j : Nat) : Int) ∧ xs[j] = n ∧ ∀ i (hi : i < xs.length), i < j → xs[i] ≠ n := by
  induction xs generalizing k with
  | nil => exact .inl ⟨rfl, fun j h => absurd h (by simp)⟩
  | cons f r ih =>
    unfold intFrom
    by_cases e : f = n
    · rw [if_pos e]
      exact .inr ⟨0, by simp, by simp, by simpa using e, fun i _ h => absurd h (by omega)⟩
    · rw [if_neg e]
      rcases ih (k + 1) with ⟨h1, h2⟩ | ⟨j, hj, h1, h2, h3⟩
      · refine .inl ⟨h1, fun j hj => ?_⟩
        cases j with
        | zero => simpa using e
        | succ j => simpa using h2 j (by simpa using hj)
      · refine .inr ⟨j + 1, by simpa using hj, by rw [h1]; omega, by simpa using h2, fun i hi hij => ?_⟩
        cases i with
        | zero => simpa using e
        | succ i => simpa using h3 i (by simpa using hi) (by omega)
theorem intIdx_yes (xs : List Int) (k : Nat) (h : k < xs.length) (n : Int) (hn : ∀ j (hj : j < xs.length), j < k → xs[j] ≠ n) (hy : xs[k] = n) : intIdx xs n = (k : Int) := by
  rcases intFrom_is xs n 0 with ⟨h1, h2⟩ | ⟨j, hj, h1, h2, h3⟩
  · exact absurd hy (h2 k h)
  · rcases Nat.lt_trichotomy j k with e | e | e
    · exact absurd h2 (hn j hj e)
    · subst e; unfold intIdx; rw [h1]; simp
    · exact absurd hy (h3 k h e)
theorem intIdx_no (xs : List Int) (n : Int) (hn : ∀ j (hj : j < xs.length), xs[j] ≠ n) : intIdx xs n = -1 := by
  rcases intFrom_is xs n 0 with ⟨h1, h2⟩ | ⟨j, hj, h1, h2, h3⟩
  · exact h1
  · exact absurd h2 (hn j hj)
theorem intIdx_mem (xs : List Int) (n : Int) : 0 ≤ intIdx xs n ↔ n ∈ xs := by
  unfold intIdx
  rcases intFrom_is xs n 0 with ⟨h1, h2⟩ | ⟨j, hj, h1, h2, h3⟩
  · rw [h1]
    refine ⟨fun h => absurd h (by omega), fun h => ?_⟩
    obtain ⟨i, hi, e⟩ := List.getElem_of_mem h
    exact absurd e (h2 i hi)
  · rw [h1]
    exact ⟨fun _ => by rw [← h2]; exact List.getElem_mem hj, fun _ => by omega⟩
theorem intIdx_bd (xs : List Int) (n : Int) : -1 ≤ intIdx xs n ∧ intIdx xs n < xs.length ∨ intIdx xs n = -1 := by
  unfold intIdx
  rcases intFrom_is xs n 0 with ⟨h1, h2⟩ | ⟨j, hj, h1, h2, h3⟩
  · exact .inr h1
  · rw [h1]; left; omega

def okPath (path : List Int) : Bool := path.all (fun r => inr r 0 2) && decide path.Nodup
def okLook (t : List Fil) (path : List Int) : Bool := okPath path && okTree t

/-- What one root has of a name. -/
def rootSpc (t : List Fil) (r : Int) (n : Bs) : Spc :=
  if 0 ≤ firstAt t (r, n, [], true) then ⟨2, firstAt t (r, n, [], true), [r]⟩
  else if 0 ≤ firstAt t (r, parent n, last n, false) then ⟨1, firstAt t (r, parent n, last n, false), []⟩
  else if dirIn t r n then ⟨3, -1, [r]⟩ else noSpc
def overGo (t : List Fil) (n : Bs) : List Int → List Int → Spc
  | [], ds => if ds = [] then noSpc else ⟨3, -1, ds⟩
  | r :: rs, ds => if (rootSpc t r n).file = -1 then overGo t n rs (ds ++ (rootSpc t r n).roots) else rootSpc t r n
/-- What some roots have of a name. -/
def overSpc (t : List Fil) (rs : List Int) (n : Bs) : Spc := overGo t n rs []
/-- What is found part by part. -/
def partsGo (t : List Fil) (ns : List Bs) (sp : Spc) : Spc := ns.foldl (fun sp n => overSpc t sp.roots n) sp
def byParts (t : List Fil) (path : List Int) (s : Bs) : Spc := if vn s then partsGo t (above s) ⟨3, -1, path⟩ else noSpc

def findIn (t : List Fil) (path : List Int) (p s : Bs) : Spc := if okLook t path && !(childOf p s).isEmpty then overSpc t path (childOf p s) else noSpc
def findSpec (t : List Fil) (path : List Int) (s : Bs) : Spc := if okLook t path then byParts t path s else noSpc
def canFind (t : List Fil) (path : List Int) (s : Bs) : Bool := decide ((findSpec t path s).kind ≠ 0)
def isPack (t : List Fil) (path : List Int) (s : Bs) : Bool := decide ((findSpec t path s).kind = 2) || decide ((findSpec t path s).kind = 3)
/-- All names that a tree may have. -/
def allNames (t : List Fil) : List Bs := sortUp (t.flatMap (fun f => above (modName f)))
def foundNames (t : List Fil) (path : List Int) : List Bs := if okLook t path then (allNames t).filter (fun s => decide ((byParts t path s).kind ≠ 0)) else []
def foundFor (t : List Fil) (path : List Int) (f : Fil) : Int := (byParts t path (modName f)).file
def hiddenGo (t : List Fil) (path : List Int) : List Fil → Int → List Int
  | [], _ => []
  | f :: r, i => (if foundFor t path f = i then [] else [i]) ++ hiddenGo t path r (i + 1)
def hidden (t : List Fil) (path : List Int) : List Int := if okLook t path then hiddenGo t path t 0 else []
def kidsOf (t : List Fil) (path : List Int) (p : Bs) : List Bs := ((foundNames t path).filter (fun s => decide (parent s = p))).map last
/-- Two finds are the same but for the indices of files. -/
def atPl (t u : List Fil) (i j : Int) : Bool := match t[i.toNat]?, u[j.toNat]? with
  | some f, some g => decide (place f = place g)
  | _, _ => false
def sameSpc (t u : List Fil) (a b : Spc) : Bool := decide (a.kind = b.kind) && decide (a.roots = b.roots) && (if a.file < 0 then decide (b.file < 0) else decide (0 ≤ b.file) && atPl t u a.file b.file)

theorem firstAt_ge (t : List Fil) (p : Pl) : -1 ≤ firstAt t p ∧ (firstAt t p = -1 ∨ (0 ≤ firstAt t p ∧ firstAt t p < t.length)) := by
  rcases firstFrom_is t p 0 with ⟨h1, _⟩ | ⟨j, hj, h1, _⟩
  · unfold firstAt; rw [h1]; simp
  · unfold firstAt; rw [h1]; omega
/-- The file at the index has the place. -/
theorem firstAt_at {t : List Fil} {p : Pl} (h : firstAt t p ≠ -1) : ∃ f, t[(firstAt t p).toNat]? = some f ∧ place f = p := by
  rcases firstFrom_is t p 0 with ⟨h1, _⟩ | ⟨j, hj, h1, h2, _⟩
  · exact absurd h1 h
  · refine ⟨t[j], ?_, h2⟩
    unfold firstAt
    rw [h1]
    simp [hj]
theorem firstAt_none {t : List Fil} {p : Pl} : firstAt t p = -1 ↔ ∀ f ∈ t, place f ≠ p := by
  constructor
  · intro h f hf e
    obtain ⟨j, hj, rfl⟩ := List.getElem_of_mem hf
    rcases firstFrom_is t p 0 with ⟨_, h2⟩ | ⟨i, hi, h1, _⟩
    · exact h2 j hj e
    · unfold firstAt at h; rw [h1] at h; omega
  · intro h
    exact firstAt_no t p (fun j hj => h _ (List.getElem_mem hj))

theorem nodup_le : ∀ (l m : List Int), l.Nodup → (∀ x ∈ l, x ∈ m) → l.length ≤ m.length
  | [], m, _, _ => by simp
  | x :: r, m, hn, h => by
    have hx := h x (by simp)
    have h2 := nodup_le r (m.erase x) (List.nodup_cons.1 hn).2 (fun y hy => by
      have hne : y ≠ x := fun e => by subst e; exact (List.nodup_cons.1 hn).1 hy
      exact (List.mem_erase_of_ne hne).2 (h y (by simp [hy])))
    rw [List.length_erase_of_mem hx] at h2
    have : 0 < m.length := List.length_pos_of_mem hx
    simp only [List.length_cons]; omega
theorem okPath_len {path : List Int} (h : okPath path = true) : path.length ≤ 3 := by
  unfold okPath at h
  simp only [Bool.and_eq_true, decide_eq_true_eq, List.all_eq_true, inr] at h
  obtain ⟨h1, h2⟩ := h
  refine nodup_le path [0, 1, 2] h2 (fun r hr => ?_)
  have h3 := h1 r hr
  have h4 : r = 0 ∨ r = 1 ∨ r = 2 := by omega
  rcases h4 with rfl | rfl | rfl <;> simp

theorem rootSpc_file {t : List Fil} {r : Int} {n : Bs} : -1 ≤ (rootSpc t r n).file ∧ (rootSpc t r n).roots.length ≤ 1 := by
  unfold rootSpc
  repeat' split
  all_goals simp [noSpc]
  · omega
  · omega
theorem rootSpc_lt {t : List Fil} {r : Int} {n : Bs} : (rootSpc t r n).file < t.length ∨ (rootSpc t r n).file = -1 := by
  have h1 := firstAt_ge t (r, n, [], true)
  have h2 := firstAt_ge t (r, parent n, last n, false)
  unfold rootSpc
  repeat' split
  all_goals simp [noSpc]
  · omega
  · omega
theorem overGo_len (t : List Fil) (n : Bs) : ∀ (rs ds : List Int), (overGo t n rs ds).roots.length ≤ ds.length + rs.length ∨ (overGo t n rs ds).roots.length ≤ 1
  | [], ds => by
    unfold overGo; split
    · right; simp [noSpc]
    · left; simp
  | r :: rs, ds => by
    unfold overGo
    have h1 := (rootSpc_file (t := t) (r := r) (n := n)).2
    split
    · have := overGo_len t n rs (ds ++ (rootSpc t r n).roots)
      simp only [List.length_append, List.length_cons] at this ⊢
      omega
    · right; exact h1

theorem partsGo_nil (t : List Fil) (sp : Spc) : partsGo t [] sp = sp := rfl
theorem overSpc_nil (t : List Fil) (n : Bs) : overSpc t [] n = noSpc := by simp [overSpc, overGo]
theorem partsGo_none (t : List Fil) : ∀ (ns : List Bs) (sp : Spc), sp.roots = [] → ns ≠ [] → partsGo t ns sp = noSpc
  | [], _, _, h => absurd rfl h
  | n :: r, sp, h, _ => by
    unfold partsGo
    rw [List.foldl_cons, h, overSpc_nil]
    cases r with
    | nil => rfl
    | cons m r' => exact partsGo_none t (m :: r') noSpc rfl (by simp)
theorem partsGo_snoc (t : List Fil) (ns : List Bs) (k : Nat) (h : k < ns.length) (sp : Spc) : partsGo t (ns.take (k + 1)) sp = overSpc t (partsGo t (ns.take k) sp).roots ns[k] := by
  unfold partsGo
  rw [List.take_succ_eq_append_getElem h, List.foldl_append]; rfl

theorem okPath_bad1 {path : List Int} {k : Nat} (h : k < path.length) (hb : inr path[k] 0 2 = false) : okPath path = false := by
  unfold okPath
  have : path.all (fun r => inr r 0 2) = false := by rw [List.all_eq_false]; exact ⟨_, List.getElem_mem h, by simp [hb]⟩
  rw [this]; rfl
theorem okPath_bad2 {path : List Int} {k : Nat} (h : k < path.length) (hb : path[k] ∈ path.take k) : okPath path = false := by
  unfold okPath
  have : ¬ path.Nodup := fun hn => by
    obtain ⟨j, hj, e⟩ := List.getElem_of_mem hb
    rw [List.getElem_take] at e
    rw [List.length_take] at hj
    rw [List.nodup_iff_pairwise_ne, List.pairwise_iff_getElem] at hn
    exact hn j k (by omega) h (by omega) e
  simp [this]
theorem okPath_good {path : List Int} (h : ∀ k (hk : k < path.length), inr path[k] 0 2 = true ∧ path[k] ∉ path.take k) : okPath path = true := by
  unfold okPath
  rw [Bool.and_eq_true]
  constructor
  · rw [List.all_eq_true]; intro r hr
    obtain ⟨k, hk, rfl⟩ := List.getElem_of_mem hr
    exact (h k hk).1
  · rw [decide_eq_true_eq, List.nodup_iff_pairwise_ne, List.pairwise_iff_getElem]
    intro i j hi hj hij e
    refine (h j hj).2 ?_
    rw [← e]
    rw [List.mem_iff_getElem]
    exact ⟨i, by rw [List.length_take]; omega, by rw [List.getElem_take]⟩

/-! ### Plain facts on finders: the model's way and the program's way come to the same. -/
theorem dir_of_init {t : List Fil} {r : Int} {n : Bs} (h : 0 ≤ firstAt t (r, n, [], true)) (hn : n ≠ []) : dirIn t r n = true := by
  obtain ⟨f, h1, h2⟩ := firstAt_at (t := t) (p := (r, n, [], true)) (by omega)
  have hm := List.mem_of_getElem? h1
  simp only [place, Prod.mk.injEq] at h2
  obtain ⟨e1, e2, e3, e4⟩ := h2
  unfold dirIn
  rw [Bool.or_eq_true]
  left
  rw [List.any_eq_true]
  refine ⟨f, hm, ?_⟩
  have hu : under n n = true := under_self
  have hne : n.isEmpty = false := by simpa using hn
  simp [e1, e2, hu, hne]

/-- What a find looks like. -/
def SpcOk (t : List Fil) (sp : Spc) : Prop := sp = noSpc ∨ (sp.kind = 1 ∧ sp.roots = [] ∧ 0 ≤ sp.file ∧ sp.file < t.length) ∨ (sp.kind = 2 ∧ sp.roots ≠ [] ∧ 0 ≤ sp.file ∧ sp.file < t.length) ∨ (sp.kind = 3 ∧ sp.file = -1 ∧ sp.roots ≠ [])
theorem rootSpc_ok (t : List Fil) (r : Int) (n : Bs) : SpcOk t (rootSpc t r n) := by
  have h1 := firstAt_ge t (r, n, [], true)
  have h2 := firstAt_ge t (r, parent n, last n, false)
  unfold rootSpc SpcOk
  split
  · right; right; left; simp; omega
  · split
    · right; left; simp; omega
    · split
      · right; right; right; simp
      · left; rfl
theorem overGo_ok (t : List Fil) (n : Bs) : ∀ (rs ds : List Int), SpcOk t (overGo t n rs ds)
  | [], ds => by
    unfold overGo; split
    · exact .inl rfl
    · rename_i h; exact .inr (.inr (.inr ⟨rfl, rfl, h⟩))
  | r :: rs, ds => by
    unfold overGo; split
    · exact overGo_ok t n rs _
    · exact rootSpc_ok t r n
theorem overSpc_ok (t : List Fil) (n : Bs) (rs : List Int) : SpcOk t (overSpc t rs n) := overGo_ok t n rs []
theorem SpcOk.roots {t : List Fil} {sp : Spc} (h : SpcOk t sp) (h2 : sp.kind ≠ 2) (h3 : sp.kind ≠ 3) : sp.roots = [] := by
  rcases h with rfl | h | h | h
  · rfl
  · exact h.2.1
  · exact absurd h.1 h2
  · exact absurd h.1 h3
theorem SpcOk.none {t : List Fil} {sp : Spc} (h : SpcOk t sp) (h0 : sp.kind = 0) : sp = noSpc := by
  rcases h with h | h | h | h
  · exact h
  all_goals omega
theorem SpcOk.file {t : List Fil} {sp : Spc} (h : SpcOk t sp) : -1 ≤ sp.file ∧ sp.file < t.length := by
  rcases h with rfl | h | h | h
  · simp [noSpc]; omega
  all_goals omega
theorem partsGo_ok (t : List Fil) : ∀ (ns : List Bs) (sp : Spc), SpcOk t sp ∨ ns ≠ [] → SpcOk t (partsGo t ns sp)
  | [], sp, h => by rcases h with h | h; exact h; exact absurd rfl h
  | n :: r, sp, _ => by
    unfold partsGo; rw [List.foldl_cons]
    exact partsGo_ok t r _ (.inl (overSpc_ok t n _))
theorem above_pos (s : Bs) : above s ≠ [] := by
  intro h
  have := above_len s
  have h2 := split_pos s
  rw [h] at this; simp at this; omega
theorem byParts_ok (t : List Fil) (path : List Int) (s : Bs) : SpcOk t (byParts t path s) := by
  unfold byParts; split
  · exact partsGo_ok t _ _ (.inr (above_pos s))
  · exact .inl rfl
theorem findSpec_ok (t : List Fil) (path : List Int) (s : Bs) : SpcOk t (findSpec t path s) := by
  unfold findSpec; split
  · exact byParts_ok t path s
  · exact .inl rfl
theorem findIn_ok (t : List Fil) (path : List Int) (p s : Bs) : SpcOk t (findIn t path p s) := by
  unfold findIn; split
  · exact overSpc_ok t _ _
  · exact .inl rfl

theorem partsGo_drop (t : List Fil) (ns : List Bs) (k : Nat) (sp : Spc) : partsGo t ns sp = partsGo t (ns.drop k) (partsGo t (ns.take k) sp) := by
  unfold partsGo
  rw [← List.foldl_append, List.take_append_drop]
/-- Where what was found has no roots, nothing is found in it. -/
theorem partsGo_end (t : List Fil) (ns : List Bs) (k : Nat) (h : k < ns.length) (h0 : 0 < k) (sp : Spc) (h2 : (partsGo t (ns.take k) sp).kind ≠ 2) (h3 : (partsGo t (ns.take k) sp).kind ≠ 3) : partsGo t ns sp = noSpc := by
  rw [partsGo_drop t ns k sp]
  have hok : SpcOk t (partsGo t (ns.take k) sp) := partsGo_ok t _ _ (.inr (by
    intro e
    have h5 := congrArg List.length e
    rw [List.length_take, Nat.min_eq_left (by omega)] at h5
    simp only [List.length_nil] at h5
    exact absurd h5 (by omega)))
  refine partsGo_none t _ _ (hok.roots h2 h3) (fun e => ?_)
  have := congrArg List.length e
  rw [List.length_drop] at this; simp at this; omega

theorem join_ne {l : Bs} (h : vn l = true) (k : Nat) (h1 : 1 ≤ k) : join ((split l).take k) ≠ [] := vn_ne (vn_join (take_vps h k h1))
/-- A name above is a part in the package ahead of it. -/
theorem above_child {l : Bs} (h : vn l = true) (i : Nat) (hi : i < (split l).length) (hi' : i < (above l).length) : (above l)[i] = child (join ((split l).take i)) (split l)[i] := by
  rw [above_get, join_snoc _ _ hi]
  unfold child
  by_cases h0 : i = 0
  · subst h0; simp [join]
  · rw [if_neg h0, if_neg (join_ne h i (by omega))]; simp
theorem vn_parts {l : Bs} (h : vn l = true) (i : Nat) (hi : i < (split l).length) : vpk (join ((split l).take i)) = true ∧ vp (split l)[i] = true ∧ vn (child (join ((split l).take i)) (split l)[i]) = true := by
  have hi' : i < (above l).length := by rw [above_len]; exact hi
  refine ⟨?_, (vps_iff.1 h).2 _ (List.getElem_mem hi), ?_⟩
  · by_cases h0 : i = 0
    · subst h0; exact vpk_nil
    · have := vn_join (take_vps h i (by omega))
      exact vpk_iff.2 (.inr this)
  · rw [← above_child h i hi hi']
    exact above_vn h _ (List.getElem_mem hi')
theorem child_back {p s : Bs} (hp : vpk p = true) (hs : vp s = true) (hn : vn (child p s) = true) : parent (child p s) = p ∧ last (child p s) = s ∧ childOf p s = child p s := by
  have e : childOf p s = child p s := by unfold childOf; simp [hp, hs, hn]
  have h := parent_childOf (p := p) (s := s) (by rw [e]; exact vn_ne hn)
  rw [e] at h
  refine ⟨?_, ?_, e⟩
  · have := h.1; unfold parentOf at this; rwa [if_pos hn] at this
  · have := h.2.1; unfold lastOf at this; rwa [if_pos hn] at this
theorem childOf_cases (p s : Bs) : (childOf p s ≠ [] ∧ vpk p = true ∧ vp s = true ∧ vn (child p s) = true ∧ childOf p s = child p s) ∨ (childOf p s = [] ∧ (vpk p && vp s && vn (child p s)) = false) := by
  unfold childOf
  cases h : vpk p && vp s && vn (child p s)
  · exact .inr ⟨by simp, rfl⟩
  · simp only [Bool.and_eq_true] at h
    exact .inl ⟨by simpa using vn_ne h.2, h.1.1, h.1.2, h.2, by simp⟩

theorem above_last' (l : Bs) : ∃ r, above l = r ++ [l] := by
  have hl := above_len l
  have h1 := split_pos l
  refine ⟨(above l).take ((above l).length - 1), ?_⟩
  have h2 := above_last l (by omega)
  have h3 := List.take_append_drop ((above l).length - 1) (above l)
  rw [List.drop_eq_getElem_cons (by omega), h2, show (above l).length - 1 + 1 = (above l).length by omega, List.drop_length] at h3
  exact h3.symm
theorem mem_above_self (l : Bs) : l ∈ above l := by
  obtain ⟨r, h⟩ := above_last' l
  rw [h]; simp
theorem mem_above_child {p s : Bs} (hp : vpk p = true) (hs : vp s = true) (hn : vn (child p s) = true) (x : Bs) : x ∈ above (child p s) ↔ x = child p s ∨ (p ≠ [] ∧ x ∈ above p) := by
  have h46 := split_nodot (vp_nodot hs)
  by_cases h0 : p = []
  · subst h0
    have : child [] s = s := by simp [child]
    rw [this]
    simp [above, h46, join]
  · have e : child p s = p ++ 46 :: s := by simp [child, h0]
    have e2 : split (child p s) = split p ++ [s] := by rw [e, split_append, h46]
    simp only [h0, ne_eq, not_false_eq_true, true_and]
    unfold above
    rw [e2]
    simp only [List.mem_map, List.mem_range, List.length_append, List.length_singleton]
    constructor
    · rintro ⟨i, hi, rfl⟩
      by_cases hl : i < (split p).length
      · right
        exact ⟨i, hl, by rw [List.take_append_of_le_length (by omega)]⟩
      · left
        have : i = (split p).length := by omega
        subst this
        rw [List.take_of_length_le (by simp), ← e2, join_split]
    · rintro (rfl | ⟨i, hi, rfl⟩)
      · exact ⟨(split p).length, by omega, by rw [List.take_of_length_le (by simp), ← e2, join_split]⟩
      · exact ⟨i, by omega, by rw [List.take_append_of_le_length (by omega)]⟩

/-- The names above the module of a file. -/
theorem mem_above_mod {f : Fil} (h : okFil f = true) (x : Bs) : x ∈ above (modName f) ↔ x = modName f ∨ (f.pack ≠ [] ∧ x ∈ above f.pack) := by
  have hv := (okFil_mod h).2
  unfold modName at hv ⊢
  cases hi : f.init
  · simp only [hi, Bool.false_eq_true, if_false] at hv ⊢
    have h' := h
    unfold okFil at h'
    simp only [hi, Bool.and_eq_true, Bool.false_eq_true, if_false] at h'
    exact mem_above_child h'.1.1.2 h'.2.1 hv x
  · simp only [hi, if_true] at hv ⊢
    have := mem_above_self f.pack
    constructor
    · intro hx; exact .inr ⟨vn_ne hv, hx⟩
    · rintro (rfl | ⟨_, hx⟩)
      · exact this
      · exact hx

theorem mem_packs {t : List Fil} (x : Bs) : x ∈ packs t ↔ ∃ f ∈ t, f.pack ≠ [] ∧ x ∈ above f.pack := by
  unfold packs
  rw [List.mem_flatMap]
  constructor
  · rintro ⟨f, hf, hx⟩
    cases hp : f.pack with
    | nil => simp [hp] at hx
    | cons a b => exact ⟨f, hf, by simp [hp], by simpa [hp] using hx⟩
  · rintro ⟨f, hf, hp, hx⟩
    exact ⟨f, hf, by rw [if_neg (by simpa using hp)]; exact hx⟩
theorem mem_allNames {t : List Fil} (ht : okTree t = true) (x : Bs) : x ∈ allNames t ↔ ∃ f ∈ t, x ∈ above (modName f) := by
  unfold allNames
  rw [sortUp_mem, List.mem_flatMap]
/-- The names of modules and packages are all names. -/
theorem allNames_eq {t : List Fil} (ht : okTree t = true) : sortUp (modulesOf t ++ packagesOf t) = allNames t := by
  refine up_ext (sortUp_up _) (sortUp_up _) (fun x => ?_)
  have hall := List.all_eq_true.1 (okTree_all ht).1
  rw [mem_allNames ht, sortUp_mem, List.mem_append, modulesOf, packagesOf, if_pos ht, if_pos ht, sortUp_mem, sortUp_mem, List.mem_map, mem_packs]
  constructor
  · rintro (⟨f, hf, rfl⟩ | ⟨f, hf, hp, hx⟩)
    · exact ⟨f, hf, mem_above_self _⟩
    · exact ⟨f, hf, (mem_above_mod (hall f hf) x).2 (.inr ⟨hp, hx⟩)⟩
  · rintro ⟨f, hf, hx⟩
    rcases (mem_above_mod (hall f hf) x).1 hx with rfl | ⟨hp, hx⟩
    · exact .inl ⟨f, hf, rfl⟩
    · exact .inr ⟨f, hf, hp, hx⟩
theorem allNames_vn {t : List Fil} (ht : okTree t = true) {x : Bs} (hx : x ∈ allNames t) : vn x = true := by
  obtain ⟨f, hf, h⟩ := (mem_allNames ht x).1 hx
  exact above_vn (okFil_mod (List.all_eq_true.1 (okTree_all ht).1 f hf)).2 x h

theorem overGo_some (t : List Fil) (n : Bs) : ∀ (rs ds : List Int), (overGo t n rs ds).kind ≠ 0 → ds ≠ [] ∨ ∃ r ∈ rs, (rootSpc t r n).kind ≠ 0
  | [], ds, h => by
    left; intro e; subst e; exact h rfl
  | r :: rs, ds, h => by
    by_cases hr : (rootSpc t r n).kind = 0
    · have e := (rootSpc_ok t r n).none hr
      unfold overGo at h
      rw [if_pos (by rw [e]; rfl)] at h
      rcases overGo_some t n rs _ h with h1 | ⟨r', h1, h2⟩
      · rw [e] at h1; left; simpa [noSpc] using h1
      · exact .inr ⟨r', by simp [h1], h2⟩
    · exact .inr ⟨r, by simp, hr⟩
theorem partsGo_some (t : List Fil) (s : Bs) (sp : Spc) (h : (partsGo t (above s) sp).kind ≠ 0) : ∃ r, (rootSpc t r s).kind ≠ 0 := by
  obtain ⟨q, hq⟩ := above_last' s
  rw [hq] at h
  unfold partsGo at h
  rw [List.foldl_append] at h
  rcases overGo_some t s _ _ h with h1 | ⟨r, _, h2⟩
  · exact absurd rfl h1
  · exact ⟨r, h2⟩
/-- What is found has a file or a directory. -/
theorem found_all {t : List Fil} {path : List Int} {s : Bs} (ht : okTree t = true) (h : (byParts t path s).kind ≠ 0) : s ∈ allNames t := by
  unfold byParts at h
  cases hv : vn s
  · rw [hv] at h; exact absurd rfl h
  rw [hv, if_pos rfl] at h
  obtain ⟨r, hr⟩ := partsGo_some t s _ h
  have hall := List.all_eq_true.1 (okTree_all ht).1
  rw [mem_allNames ht]
  unfold rootSpc at hr
  split at hr
  · obtain ⟨f, h1, h2⟩ := firstAt_at (t := t) (p := (r, s, [], true)) (by omega)
    simp only [place, Prod.mk.injEq] at h2
    refine ⟨f, List.mem_of_getElem? h1, ?_⟩
    have : modName f = s := by unfold modName; simp [h2]
    rw [this]; exact mem_above_self s
  · split at hr
    · obtain ⟨f, h1, h2⟩ := firstAt_at (t := t) (p := (r, parent s, last s, false)) (by omega)
      simp only [place, Prod.mk.injEq] at h2
      refine ⟨f, List.mem_of_getElem? h1, ?_⟩
      have : modName f = s := by unfold modName; simp [h2, child_parent_last s hv]
      rw [this]; exact mem_above_self s
    · split at hr
      · rename_i hd
        unfold dirIn at hd
        rw [Bool.or_eq_true] at hd
        rcases hd with hd | hd
        · rw [List.any_eq_true] at hd
          obtain ⟨f, hf, h3⟩ := hd
          simp only [Bool.and_eq_true, Bool.not_eq_true', decide_eq_true_eq] at h3
          obtain ⟨⟨_, h4⟩, h5⟩ := h3
          have hp : f.pack ≠ [] := by simpa using h4
          have hpv := vn_of_vpk (okFil_pack (hall f hf)) hp
          exact ⟨f, hf, (mem_above_mod (hall f hf) s).2 (.inr ⟨hp, (mem_above hpv hv).2 h5⟩)⟩
        · exact absurd (by simpa using hd) (vn_ne hv)
      · exact absurd rfl hr
theorem findSpec_vn {t : List Fil} {path : List Int} {s : Bs} (h : (findSpec t path s).kind ≠ 0) : okLook t path = true ∧ vn s = true := by
  unfold findSpec at h
  cases hl : okLook t path
  · rw [hl] at h; exact absurd rfl h
  · rw [hl, if_pos rfl] at h
    refine ⟨rfl, ?_⟩
    unfold byParts at h
    cases hv : vn s
    · rw [hv] at h; exact absurd rfl h
    · rfl

theorem okLook_tree {t : List Fil} {path : List Int} (h : okLook t path = true) : okTree t = true := by unfold okLook at h; simp at h; exact h.2
theorem okLook_path {t : List Fil} {path : List Int} (h : okLook t path = true) : okPath path = true := by unfold okLook at h; simp at h; exact h.1
theorem up_filter {l : List Bs} (q : Bs → Bool) (h : Up l) : Up (l.filter q) := List.Pairwise.sublist List.filter_sublist h
theorem foundNames_up (t : List Fil) (path : List Int) : Up (foundNames t path) := by
  unfold foundNames; split
  · exact up_filter _ (sortUp_up _)
  · exact List.Pairwise.nil
theorem mem_foundNames {t : List Fil} {path : List Int} (h : okLook t path = true) (s : Bs) : s ∈ foundNames t path ↔ (byParts t path s).kind ≠ 0 := by
  unfold foundNames
  rw [if_pos h, List.mem_filter]
  simp only [decide_eq_true_eq]
  exact ⟨fun h1 => h1.2, fun h1 => ⟨found_all (okLook_tree h) h1, h1⟩⟩

/-- The model's way to compare looks. -/
def sameLook (t u : List Fil) (path : List Int) : Bool := okTree t && okTree u && okPath path &&
  (sortUp (allNames t ++ allNames u)).all (fun s => sameSpc t u (byParts t path s) (byParts u path s))
/-- The program's way. -/
def sameLook' (t u : List Fil) (path : List Int) : Bool := okLook t path && okLook u path && decide (foundNames t path = foundNames u path) &&
  (foundNames t path).all (fun s => sameSpc t u (byParts t path s) (byParts u path s))
theorem sameSpc_none (t u : List Fil) : sameSpc t u noSpc noSpc = true := by simp [sameSpc, noSpc]
theorem sameLook_eq (t u : List Fil) (path : List Int) : sameLook' t u path = sameLook t u path := by
  unfold sameLook sameLook'
  cases ht : okTree t
  · simp [okLook, ht]
  cases hu : okTree u
  · simp [okLook, hu]
  cases hp : okPath path
  · simp [okLook, hp]
  have h1 : okLook t path = true := by simp [okLook, ht, hp]
  have h2 : okLook u path = true := by simp [okLook, hu, hp]
  rw [h1, h2]
  simp only [Bool.and_self, Bool.true_and]
  rw [Bool.eq_iff_iff]
  simp only [Bool.and_eq_true, decide_eq_true_eq, List.all_eq_true]
  constructor
  · rintro ⟨he, ha⟩ s hs
    by_cases hk : (byParts t path s).kind = 0
    · have hk2 : (byParts u path s).kind = 0 := Classical.byContradiction fun h3 => by
        have := (mem_foundNames h2 s).2 h3
        rw [← he] at this
        exact (mem_foundNames h1 s).1 this hk
      rw [(byParts_ok t path s).none hk, (byParts_ok u path s).none hk2]
      exact sameSpc_none t u
    · exact ha s ((mem_foundNames h1 s).2 hk)
  · intro ha
    have key : ∀ s, (byParts t path s).kind ≠ 0 ↔ (byParts u path s).kind ≠ 0 := fun s => by
      have same : s ∈ sortUp (allNames t ++ allNames u) → (byParts t path s).kind = (byParts u path s).kind := fun hs => by
        have := ha s hs
        unfold sameSpc at this
        simp only [Bool.and_eq_true, decide_eq_true_eq] at this
        exact this.1.1
      constructor
      · intro h3
        rw [← same ((sortUp_mem _ _).2 (by simp [found_all ht h3]))]; exact h3
      · intro h3
        rw [same ((sortUp_mem _ _).2 (by simp [found_all hu h3]))]; exact h3
    refine ⟨up_ext (foundNames_up t path) (foundNames_up u path) (fun s => ?_), fun s hs => ?_⟩
    · rw [mem_foundNames h1, mem_foundNames h2]; exact key s
    · exact ha s ((sortUp_mem _ _).2 (by simp [found_all ht ((mem_foundNames h1 s).1 hs)]))

/-! ### Plain facts on finders: what is in a package, and which files are hidden. -/
theorem above_app {p s : Bs} (hp : vpk p = true) (hs : vp s = true) (hn : vn (child p s) = true) : above (child p s) = (if p = [] then [] else above p) ++ [child p s] := by
  have h46 := split_nodot (vp_nodot hs)
  by_cases h0 : p = []
  · subst h0
    have : child [] s = s := by simp [child]
    rw [this]
    simp [above, h46, join]
  · have e : child p s = p ++ 46 :: s := by simp [child, h0]
    have e2 : split (child p s) = split p ++ [s] := by rw [e, split_append, h46]
    rw [if_neg h0]
    unfold above
    rw [e2, List.length_append, List.length_singleton, List.range_succ, List.map_append, List.map_singleton, List.take_of_length_le (by simp), ← e2, join_split]
    congr 1
    refine List.map_congr_left (fun i hi => ?_)
    rw [List.mem_range] at hi
    rw [e2, List.take_append_of_le_length (by omega)]

theorem parent_name {s : Bs} (h : vn s = true) : above s = (if parent s = [] then [] else above (parent s)) ++ [s] := by
  have hp := vpk_parent h
  have hl := getLast_vp h
  have hc := child_parent_last s h
  have := above_app hp hl (by rw [hc]; exact h)
  rw [hc] at this
  exact this

/-- A name is found over the roots that were found for the one above. -/
theorem byParts_step {t : List Fil} {path : List Int} {s : Bs} (h : vn s = true) : byParts t path s = overSpc t (if parent s = [] then path else (byParts t path (parent s)).roots) s := by
  unfold byParts
  rw [h, if_pos rfl, parent_name h]
  unfold partsGo
  rw [List.foldl_append]
  by_cases h0 : parent s = []
  · simp [h0]
  · rw [if_neg h0, if_neg h0, parent_vn h h0, if_pos rfl]
    rfl

theorem isPack_of {t : List Fil} {path : List Int} {p : Bs} (hl : okLook t path = true) (h : (byParts t path p).roots ≠ []) : isPack t path p = true := by
  have h2 := byParts_ok t path p
  unfold isPack findSpec
  rw [if_pos hl]
  rcases h2 with e | e | e | e
  · rw [e] at h; exact absurd rfl h
  · exact absurd e.2.1 h
  · simp [e.1]
  · simp [e.1]
theorem isPack_iff {t : List Fil} {path : List Int} {p : Bs} (hl : okLook t path = true) : isPack t path p = decide ((byParts t path p).roots ≠ []) := by
  by_cases h : (byParts t path p).roots = []
  · rw [decide_eq_false (by simpa using h)]
    have h2 := byParts_ok t path p
    unfold isPack findSpec
    rw [if_pos hl]
    rcases h2 with e | e | e | e
    · rw [e]; rfl
    · simp [e.1]
    · exact absurd h e.2.1
    · exact absurd h e.2.2
  · rw [decide_eq_true h]; exact isPack_of hl h

theorem ltB_app (p : Bs) : ∀ (a b : Bs), ltB (p ++ a) (p ++ b) = ltB a b := by
  intro a b
  induction p with
  | nil => rfl
  | cons c r ih => simp [ltB, ih]
theorem ltB_child (p a b : Bs) : ltB (child p a) (child p b) = ltB a b := by
  unfold child
  split
  · rfl
  · rw [show p ++ 46 :: a = (p ++ [46]) ++ a by simp, show p ++ 46 :: b = (p ++ [46]) ++ b by simp, ltB_app]

theorem foundNames_vn {t : List Fil} {path : List Int} {s : Bs} (h : s ∈ foundNames t path) : okLook t path = true ∧ vn s = true := by
  unfold foundNames at h
  cases hl : okLook t path
  · rw [hl] at h; simp at h
  · rw [hl, if_pos rfl, List.mem_filter] at h
    exact ⟨rfl, allNames_vn (okLook_tree hl) h.1⟩
theorem kids_up (t : List Fil) (path : List Int) (p : Bs) : Up (kidsOf t path p) := by
  unfold kidsOf
  have h1 := up_filter (fun s => decide (parent s = p)) (foundNames_up t path)
  have h2 : ∀ s ∈ (foundNames t path).filter (fun s => decide (parent s = p)), vn s = true ∧ parent s = p := fun s hs => by
    rw [List.mem_filter] at hs
    exact ⟨(foundNames_vn hs.1).2, by simpa using hs.2⟩
  unfold Up at h1 ⊢
  rw [List.pairwise_map]
  refine List.Pairwise.imp_of_mem ?_ h1
  intro a b ha hb hab
  have e1 := child_parent_last a (h2 a ha).1
  have e2 := child_parent_last b (h2 b hb).1
  rw [(h2 a ha).2] at e1
  rw [(h2 b hb).2] at e2
  rw [← e1, ← e2, ltB_child] at hab
  exact hab
theorem sortUp_of_up {l : List Bs} (h : Up l) : sortUp l = l := up_ext (sortUp_up l) h (fun x => sortUp_mem x l)

/-- The model's way to tell what is in a package. -/
def kidsOf' (t : List Fil) (path : List Int) (p : Bs) : List Bs :=
  if okLook t path && (p.isEmpty || isPack t path p) then sortUp (((allNames t).filter (fun s => decide (parent s = p) && decide ((byParts t path s).kind ≠ 0))).map last) else []
theorem kids_eq (t : List Fil) (path : List Int) (p : Bs) : kidsOf' t path p = kidsOf t path p := by
  unfold kidsOf'
  cases hl : okLook t path
  · simp [kidsOf, foundNames, hl]
  · have e : ((allNames t).filter (fun s => decide (parent s = p) && decide ((byParts t path s).kind ≠ 0))).map last = kidsOf t path p := by
      unfold kidsOf foundNames
      rw [if_pos hl, List.filter_filter]
    rw [e]
    by_cases hp : (p.isEmpty || isPack t path p) = true
    · rw [hp]
      simp only [Bool.and_self, if_true]
      exact sortUp_of_up (kids_up t path p)
    · have hp' : (p.isEmpty || isPack t path p) = false := by simpa using hp
      rw [hp']
      simp only [Bool.and_false, Bool.false_eq_true, if_false]
      rw [Bool.or_eq_false_iff] at hp'
      have h0 : p ≠ [] := by simpa using hp'.1
      unfold kidsOf
      symm
      rw [List.map_eq_nil_iff, List.filter_eq_nil_iff]
      intro s hs
      simp only [decide_eq_true_eq]
      intro e
      have hv := (foundNames_vn hs).2
      have hk := (mem_foundNames hl s).1 hs
      rw [byParts_step hv, e, if_neg h0] at hk
      have : (byParts t path p).roots ≠ [] := fun e2 => by rw [e2, overSpc_nil] at hk; exact hk rfl
      rw [isPack_of hl this] at hp'
      exact absurd hp'.2 (by simp)

theorem hiddenGo_len (t : List Fil) (path : List Int) : ∀ (l : List Fil) (i : Int), (hiddenGo t path l i).length ≤ l.length
  | [], i => by simp [hiddenGo]
  | f :: r, i => by
    have := hiddenGo_len t path r (i + 1)
    unfold hiddenGo
    rw [List.length_append]
    split <;> simp <;> omega
theorem hiddenGo_app (t : List Fil) (path : List Int) : ∀ (l m : List Fil) (i : Int), hiddenGo t path (l ++ m) i = hiddenGo t path l i ++ hiddenGo t path m (i + l.length)
  | [], m, i => by simp [hiddenGo]
  | f :: r, m, i => by
    have e1 : hiddenGo t path (f :: r) i = (if foundFor t path f = i then [] else [i]) ++ hiddenGo t path r (i + 1) := rfl
    have e2 : hiddenGo t path (f :: r ++ m) i = (if foundFor t path f = i then [] else [i]) ++ hiddenGo t path (r ++ m) (i + 1) := rfl
    rw [e1, e2, hiddenGo_app t path r m (i + 1), List.append_assoc, List.length_cons]
    rw [show i + 1 + (r.length : Int) = i + ((r.length + 1 : Nat) : Int) by push_cast; omega]
theorem hidden_snoc (t : List Fil) (path : List Int) (k : Nat) (h : k < t.length) : hiddenGo t path (t.take (k + 1)) 0 = hiddenGo t path (t.take k) 0 ++ (if foundFor t path t[k] = k then [] else [(k : Int)]) := by
  rw [List.take_succ_eq_append_getElem h, hiddenGo_app]
  have : (t.take k).length = k := by rw [List.length_take]; omega
  rw [this]
  simp [hiddenGo]
theorem hidden_at {t : List Fil} {path : List Int} (h : okLook t path = true) : hiddenGo t path (t.take t.length) 0 = hidden t path := by rw [List.take_length, hidden, if_pos h]

/-- Why a file is not found. -/
def whoHides (t : List Fil) (path : List Int) (i : Int) : Int × Int :=
  if okLook t path && inr i 0 ((t.length : Int) - 1) then
    match t[i.toNat]? with
    | some f => if foundFor t path f = i then (0, -1) else if f.root ∈ path then (if 0 ≤ foundFor t path f then (2, foundFor t path f) else (3, -1)) else (1, -1)
    | none => (-1, -1)
  else (-1, -1)

theorem namesAbove_le3 (l : Bs) : (namesAbove l).length ≤ 3 := by
  unfold namesAbove
  split
  · rename_i h
    rw [above_len]; exact (vps_iff.1 (show vps (split l) = true from h)).1.2
  · simp
end Go.Proofs.YtolhgklbkjdpiaaGreat.Nm
