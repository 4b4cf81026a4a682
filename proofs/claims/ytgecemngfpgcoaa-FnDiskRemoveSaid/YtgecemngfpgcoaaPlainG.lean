/- Finders as plain data: what the model's functions of chapter 3 answer. Nothing of the program stands here. -/
import Derived.Test.YtgecemngfpgcoaaPlainT
import Derived.Test.YtgecemngfpgcoaaPlain
set_option linter.unusedVariables false
set_option linter.unusedSimpArgs false
namespace Go.Proofs.Ytgecemngfpgcoaa.Nm

/-- What is found. -/
structure Spc where
  kind : Int
  file : Int
  roots : List Int

theorem spc_ext {a b : Spc} (h1 : a.kind = b.kind) (h2 : a.file = b.file) (h3 : a.roots = b.roots) : a = b := by cases a; cases b; simp_all
instance : DecidableEq Spc := fun a b =>
  if h : a.kind = b.kind ∧ a.file = b.file ∧ a.roots = b.roots then isTrue (spc_ext h.1 h.2.1 h.2.2) else isFalse (fun e => h (by subst e; simp))

def noSpc : Spc := ⟨0, -1, []⟩
def intFrom : List Int → Int → Nat → Int
  | [], _, _ => -1
  | x :: r, n, k => if x = n then (k : Int) else intFrom r n (k + 1)
/-- The first index of a number, -1 if it is not there. -/
def intIdx (xs : List Int) (n : Int) : Int := intFrom xs n 0
theorem intFrom_is (xs : List Int) (n : Int) (k : Nat) : (intFrom xs n k = -1 ∧ ∀ j (h : j < xs.length), xs[j] ≠ n) ∨
    ∃ j, ∃ h : j < xs.length, intFrom xs n k = ((k + j : Nat) : Int) ∧ xs[j] = n ∧ ∀ i (hi : i < xs.length), i < j → xs[i] ≠ n := by
  induction xs generalizing k with
  | nil => exact .inl ⟨rfl, fun j h => absurd h (by simp)⟩
  | cons f r ih =>
    unfold intFrom
    by_cases e : f = n
    · rw [if_pos e]
      exact .inr ⟨0, by simp, by simp, by simpa using e, fun i _ h => absurd h (by omega)⟩
    · rw [if_neg e]
      rcases ih (k + 1) with ⟨h1, h2⟩ | ⟨j, hj, h1, h2, h3⟩
      · refine .inl ⟨h1, fun j hj => ?_⟩
        cases j with
        | zero => simpa using e
        | succ j => simpa using h2 j (by simpa using hj)
      · refine .inr ⟨j + 1, by simpa using hj, by rw [h1]; omega, by simpa using h2, fun i hi hij => ?_⟩
        cases i with
        | zero => simpa using e
        | succ i => simpa using h3 i (by simpa using hi) (by omega)
theorem intIdx_yes (xs : List Int) (k : Nat) (h : k < xs.length) (n : Int) (hn : ∀ j (hj : j < xs.length), j < k → xs[j] ≠ n) (hy : xs[k] = n) : intIdx xs n = (k : Int) := by
  rcases intFrom_is xs n 0 with ⟨h1, h2⟩ | ⟨j, hj, h1, h2, h3⟩
  · exact absurd hy (h2 k h)
  · rcases Nat.lt_trichotomy j k with e | e | e
    · exact absurd h2 (hn j hj e)
    · subst e; unfold intIdx; rw [h1]; simp
    · exact absurd hy (h3 k h e)
theorem intIdx_no (xs : List Int) (n : Int) (hn : ∀ j (hj : j < xs.length), xs[j] ≠ n) : intIdx xs n = -1 := by
  rcases intFrom_is xs n 0 with ⟨h1, h2⟩ | ⟨j, hj, h1, h2, h3⟩
  · exact h1
  · exact absurd h2 (hn j hj)
theorem intIdx_mem (xs : List Int) (n : Int) : 0 ≤ intIdx xs n ↔ n ∈ xs := by
  unfold intIdx
  rcases intFrom_is xs n 0 with ⟨h1, h2⟩ | ⟨j, hj, h1, h2, h3⟩
  · rw [h1]
    refine ⟨fun h => absurd h (by omega), fun h => ?_⟩
    obtain ⟨i, hi, e⟩ := List.getElem_of_mem h
    exact absurd e (h2 i hi)
  · rw [h1]
    exact ⟨fun _ => by rw [← h2]; exact List.getElem_mem hj, fun _ => by omega⟩
theorem intIdx_bd (xs : List Int) (n : Int) : -1 ≤ intIdx xs n ∧ intIdx xs n < xs.length ∨ intIdx xs n = -1 := by
  unfold intIdx
  rcases intFrom_is xs n 0 with ⟨h1, h2⟩ | ⟨j, hj, h1, h2, h3⟩
  · exact .inr h1
  · rw [h1]; left; omega

def okPath (path : List Int) : Bool := path.all (fun r => inr r 0 2) && decide path.Nodup
def okLook (t : List Fil) (path : List Int) : Bool := okPath path && okTree t

/-- What one root has of a name. -/
def rootSpc (t : List Fil) (r : Int) (n : Bs) : Spc :=
  if 0 ≤ firstAt t (r, n, [], true) then ⟨2, firstAt t (r, n, [], true), [r]⟩
  else if 0 ≤ firstAt t (r, parent n, last n, false) then ⟨1, firstAt t (r, parent n, last n, false), []⟩
  else if dirIn t r n then ⟨3, -1, [r]⟩ else noSpc
def overGo (t : List Fil) (n : Bs) : List Int → List Int → Spc
  | [], ds => if ds = [] then noSpc else ⟨3, -1, ds⟩
  | r :: rs, ds => if (rootSpc t r n).file = -1 then overGo t n rs (ds ++ (rootSpc t r n).roots) else rootSpc t r n
/-- What some roots have of a name. -/
def overSpc (t : List Fil) (rs : List Int) (n : Bs) : Spc := overGo t n rs []
/-- What is found part by part. -/
def partsGo (t : List Fil) (ns : List Bs) (sp : Spc) : Spc := ns.foldl (fun sp n => overSpc t sp.roots n) sp
def byParts (t : List Fil) (path : List Int) (s : Bs) : Spc := if vn s then partsGo t (above s) ⟨3, -1, path⟩ else noSpc

def findIn (t : List Fil) (path : List Int) (p s : Bs) : Spc := if okLook t path && !(childOf p s).isEmpty then overSpc t path (childOf p s) else noSpc
def findSpec (t : List Fil) (path : List Int) (s : Bs) : Spc := if okLook t path then byParts t path s else noSpc
def canFind (t : List Fil) (path : List Int) (s : Bs) : Bool := decide ((findSpec t path s).kind ≠ 0)
def isPack (t : List Fil) (path : List Int) (s : Bs) : Bool := decide ((findSpec t path s).kind = 2) || decide ((findSpec t path s).kind = 3)
/-- All names that a tree may have. -/
def allNames (t : List Fil) : List Bs := sortUp (t.flatMap (fun f => above (modName f)))
def foundNames (t : List Fil) (path : List Int) : List Bs := if okLook t path then (allNames t).filter (fun s => decide ((byParts t path s).kind ≠ 0)) else []
def foundFor (t : List Fil) (path : List Int) (f : Fil) : Int := (byParts t path (modName f)).file
def hiddenGo (t : List Fil) (path : List Int) : List Fil → Int → List Int
  | [], _ => []
  | f :: r, i => (if foundFor t path f = i then [] else [i]) ++ hiddenGo t path r (i + 1)
def hidden (t : List Fil) (path : List Int) : List Int := if okLook t path then hiddenGo t path t 0 else []
def kidsOf (t : List Fil) (path : List Int) (p : Bs) : List Bs := ((foundNames t path).filter (fun s => decide (parent s = p))).map last
/-- Two finds are the same but for the indices of files. -/
def atPl (t u : List Fil) (i j : Int) : Bool := match t[i.toNat]?, u[j.toNat]? with
  | some f, some g => decide (place f = place g)
  | _, _ => false
def sameSpc (t u : List Fil) (a b : Spc) : Bool := decide (a.kind = b.kind) && decide (a.roots = b.roots) && (if a.file < 0 then decide (b.file < 0) else decide (0 ≤ b.file) && atPl t u a.file b.file)

theorem firstAt_ge (t : List Fil) (p : Pl) : -1 ≤ firstAt t p ∧ (firstAt t p = -1 ∨ (0 ≤ firstAt t p ∧ firstAt t p < t.length)) := by
  rcases firstFrom_is t p 0 with ⟨h1, _⟩ | ⟨j, hj, h1, _⟩
  · unfold firstAt; rw [h1]; simp
  · unfold firstAt; rw [h1]; omega
/-- The file at the index has the place. -/
theorem firstAt_at {t : List Fil} {p : Pl} (h : firstAt t p ≠ -1) : ∃ f, t[(firstAt t p).toNat]? = some f ∧ place f = p := by
  rcases firstFrom_is t p 0 with ⟨h1, _⟩ | ⟨j, hj, h1, h2, _⟩
  · exact absurd h1 h
  · refine ⟨t[j], ?_, h2⟩
    unfold firstAt
    rw [h1]
    simp [hj]
theorem firstAt_none {t : List Fil} {p : Pl} : firstAt t p = -1 ↔ ∀ f ∈ t, place f ≠ p := by
  constructor
  · intro h f hf e
    obtain ⟨j, hj, rfl⟩ := List.getElem_of_mem hf
    rcases firstFrom_is t p 0 with ⟨_, h2⟩ | ⟨i, hi, h1, _⟩
    · exact h2 j hj e
    · unfold firstAt at h; rw [h1] at h; omega
  · intro h
    exact firstAt_no t p (fun j hj => h _ (List.getElem_mem hj))

theorem nodup_le : ∀ (l m : List Int), l.Nodup → (∀ x ∈ l, x ∈ m) → l.length ≤ m.length
  | [], m, _, _ => by simp
  | x :: r, m, hn, h => by
    have hx := h x (by simp)
    have h2 := nodup_le r (m.erase x) (List.nodup_cons.1 hn).2 (fun y hy => by
      have hne : y ≠ x := fun e => by subst e; exact (List.nodup_cons.1 hn).1 hy
      exact (List.mem_erase_of_ne hne).2 (h y (by simp [hy])))
    rw [List.length_erase_of_mem hx] at h2
    have : 0 < m.length := List.length_pos_of_mem hx
    simp only [List.length_cons]; omega
theorem okPath_len {path : List Int} (h : okPath path = true) : path.length ≤ 3 := by
  unfold okPath at h
  simp only [Bool.and_eq_true, decide_eq_true_eq, List.all_eq_true, inr] at h
  obtain ⟨h1, h2⟩ := h
  refine nodup_le path [0, 1, 2] h2 (fun r hr => ?_)
  have h3 := h1 r hr
  have h4 : r = 0 ∨ r = 1 ∨ r = 2 := by omega
  rcases h4 with rfl | rfl | rfl <;> simp

theorem rootSpc_file {t : List Fil} {r : Int} {n : Bs} : -1 ≤ (rootSpc t r n).file ∧ (rootSpc t r n).roots.length ≤ 1 := by
  unfold rootSpc
  repeat' split
  all_goals simp [noSpc]
  · omega
  · omega
theorem rootSpc_lt {t : List Fil} {r : Int} {n : Bs} : (rootSpc t r n).file < t.length ∨ (rootSpc t r n).file = -1 := by
  have h1 := firstAt_ge t (r, n, [], true)
  have h2 := firstAt_ge t (r, parent n, last n, false)
  unfold rootSpc
  repeat' split
  all_goals simp [noSpc]
  · omega
  · omega
theorem overGo_len (t : List Fil) (n : Bs) : ∀ (rs ds : List Int), (overGo t n rs ds).roots.length ≤ ds.length + rs.length ∨ (overGo t n rs ds).roots.length ≤ 1
  | [], ds => by
    unfold overGo; split
    · right; simp [noSpc]
    · left; simp
  | r :: rs, ds => by
    unfold overGo
    have h1 := (rootSpc_file (t := t) (r := r) (n := n)).2
    split
    · have := overGo_len t n rs (ds ++ (rootSpc t r n).roots)
      simp only [List.length_append, List.length_cons] at this ⊢
      omega
    · right; exact h1

theorem partsGo_nil (t : List Fil) (sp : Spc) : partsGo t [] sp = sp := rfl
theorem overSpc_nil (t : List Fil) (n : Bs) : overSpc t [] n = noSpc := by simp [overSpc, overGo]
theorem partsGo_none (t : List Fil) : ∀ (ns : List Bs) (sp : Spc), sp.roots = [] → ns ≠ [] → partsGo t ns sp = noSpc
  | [], _, _, h => absurd rfl h
  | n :: r, sp, h, _ => by
    unfold partsGo
    rw [List.foldl_cons, h, overSpc_nil]
    cases r with
    | nil => rfl
    | cons m r' => exact partsGo_none t (m :: r') noSpc rfl (by simp)
theorem partsGo_snoc (t : List Fil) (ns : List Bs) (k : Nat) (h : k < ns.length) (sp : Spc) : partsGo t (ns.take (k + 1)) sp = overSpc t (partsGo t (ns.take k) sp).roots ns[k] := by
  unfold partsGo
  rw [List.take_succ_eq_append_getElem h, List.foldl_append]; rfl

theorem okPath_bad1 {path : List Int} {k : Nat} (h : k < path.length) (hb : inr path[k] 0 2 = false) : okPath path = false := by
  unfold okPath
  have : path.all (fun r => inr r 0 2) = false := by rw [List.all_eq_false]; exact ⟨_, List.getElem_mem h, by simp [hb]⟩
  rw [this]; rfl
theorem okPath_bad2 {path : List Int} {k : Nat} (h : k < path.length) (hb : path[k] ∈ path.take k) : okPath path = false := by
  unfold okPath
  have : ¬ path.Nodup := fun hn => by
    obtain ⟨j, hj, e⟩ := List.getElem_of_mem hb
    rw [List.getElem_take] at e
    rw [List.length_take] at hj
    rw [List.nodup_iff_pairwise_ne, List.pairwise_iff_getElem] at hn
    exact hn j k (by omega) h (by omega) e
  simp [this]
theorem okPath_good {path : List Int} (h : ∀ k (hk : k < path.length), inr path[k] 0 2 = true ∧ path[k] ∉ path.take k) : okPath path = true := by
  unfold okPath
  rw [Bool.and_eq_true]
  constructor
  · rw [List.all_eq_true]; intro r hr
    obtain ⟨k, hk, rfl⟩ := List.getElem_of_mem hr
    exact (h k hk).1
  · rw [decide_eq_true_eq, List.nodup_iff_pairwise_ne, List.pairwise_iff_getElem]
    intro i j hi hj hij e
    refine (h j hj).2 ?_
    rw [← e]
    rw [List.mem_iff_getElem]
    exact ⟨i, by rw [List.length_take]; omega, by rw [List.getElem_take]⟩

/-! ### Plain facts on finders: the model's way and the program's way come to the same. -/
theorem dir_of_init {t : List Fil} {r : Int} {n : Bs} (h : 0 ≤ firstAt t (r, n, [], true)) (hn : n ≠ []) : dirIn t r n = true := by
  obtain ⟨f, h1, h2⟩ := firstAt_at (t := t) (p := (r, n, [], true)) (by omega)
  have hm := List.mem_of_getElem? h1
  simp only [place, Prod.mk.injEq] at h2
  obtain ⟨e1, e2, e3, e4⟩ := h2
  unfold dirIn
  rw [Bool.or_eq_true]
  left
  rw [List.any_eq_true]
  refine ⟨f, hm, ?_⟩
  have hu : under n n = true := under_self
  have hne : n.isEmpty = false := by simpa using hn
  simp [e1, e2, hu, hne]

/-- What a find looks like. -/
def SpcOk (t : List Fil) (sp : Spc) : Prop := sp = noSpc ∨ (sp.kind = 1 ∧ sp.roots = [] ∧ 0 ≤ sp.file ∧ sp.file < t.length) ∨ (sp.kind = 2 ∧ sp.roots ≠ [] ∧ 0 ≤ sp.file ∧ sp.file < t.length) ∨ (sp.kind = 3 ∧ sp.file = -1 ∧ sp.roots ≠ [])
theorem rootSpc_ok (t : List Fil) (r : Int) (n : Bs) : SpcOk t (rootSpc t r n) := by
  have h1 := firstAt_ge t (r, n, [], true)
  have h2 := firstAt_ge t (r, parent n, last n, false)
  unfold rootSpc SpcOk
  split
  · right; right; left; simp; omega
  · split
    · right; left; simp; omega
    · split
      · right; right; right; simp
      · left; rfl
theorem overGo_ok (t : List Fil) (n : Bs) : ∀ (rs ds : List Int), SpcOk t (overGo t n rs ds)
  | [], ds => by
    unfold overGo; split
    · exact .inl rfl
    · rename_i h; exact .inr (.inr (.inr ⟨rfl, rfl, h⟩))
  | r :: rs, ds => by
    unfold overGo; split
    · exact overGo_ok t n rs _
    · exact rootSpc_ok t r n
theorem overSpc_ok (t : List Fil) (n : Bs) (rs : List Int) : SpcOk t (overSpc t rs n) := overGo_ok t n rs []
theorem SpcOk.roots {t : List Fil} {sp : Spc} (h : SpcOk t sp) (h2 : sp.kind ≠ 2) (h3 : sp.kind ≠ 3) : sp.roots = [] := by
  rcases h with rfl | h | h | h
  · rfl
  · exact h.2.1
  · exact absurd h.1 h2
  · exact absurd h.1 h3
theorem SpcOk.none {t : List Fil} {sp : Spc} (h : SpcOk t sp) (h0 : sp.kind = 0) : sp = noSpc := by
  rcases h with h | h | h | h
  · exact h
  all_goals omega
theorem SpcOk.file {t : List Fil} {sp : Spc} (h : SpcOk t sp) : -1 ≤ sp.file ∧ sp.file < t.length := by
  rcases h with rfl | h | h | h
  · simp [noSpc]; omega
  all_goals omega
theorem partsGo_ok (t : List Fil) : ∀ (ns : List Bs) (sp : Spc), SpcOk t sp ∨ ns ≠ [] → SpcOk t (partsGo t ns sp)
  | [], sp, h => by rcases h with h | h; exact h; exact absurd rfl h
  | n :: r, sp, _ => by
    unfold partsGo; rw [List.foldl_cons]
    exact partsGo_ok t r _ (.inl (overSpc_ok t n _))
theorem above_pos (s : Bs) : above s ≠ [] := by
  intro h
  have := above_len s
  have h2 := split_pos s
  rw [h] at this; simp at this; omega
theorem byParts_ok (t : List Fil) (path : List Int) (s : Bs) : SpcOk t (byParts t path s) := by
  unfold byParts; split
  · exact partsGo_ok t _ _ (.inr (above_pos s))
  · exact .inl rfl
theorem findSpec_ok (t : List Fil) (path : List Int) (s : Bs) : SpcOk t (findSpec t path s) := by
  unfold findSpec; split
  · exact byParts_ok t path s
  · exact .inl rfl
theorem findIn_ok (t : List Fil) (path : List Int) (p s : Bs) : SpcOk t (findIn t path p s) := by
  unfold findIn; split
  · exact overSpc_ok t _ _
  · exact .inl rfl

theorem partsGo_drop (t : List Fil) (ns : List Bs) (k : Nat) (sp : Spc) : partsGo t ns sp = partsGo t (ns.drop k) (partsGo t (ns.take k) sp) := by
  unfold partsGo
  rw [← List.foldl_append, List.take_append_drop]
/-- Where what was found has no roots, nothing is found in it. -/
theorem partsGo_end (t : List Fil) (ns : List Bs) (k : Nat) (h : k < ns.length) (h0 : 0 < k) (sp : Spc) (h2 : (partsGo t (ns.take k) sp).kind ≠ 2) (h3 : (partsGo t (ns.take k) sp).kind ≠ 3) : partsGo t ns sp = noSpc := by
  rw [partsGo_drop t ns k sp]
  have hok : SpcOk t (partsGo t (ns.take k) sp) := partsGo_ok t _ _ (.inr (by
    intro e
    have h5 := congrArg List.length e
    rw [List.length_take, Nat.min_eq_left (by omega)] at h5
    simp only [List.length_nil] at h5
    exact absurd h5 (by omega)))
  refine partsGo_none t _ _ (hok.roots h2 h3) (fun e => ?_)
  have := congrArg List.length e
  rw [List.length_drop] at this; simp at this; omega

theorem join_ne {l : Bs} (h : vn l = true) (k : Nat) (h1 : 1 ≤ k) : join ((split l).take k) ≠ [] := vn_ne (vn_join (take_vps h k h1))
/-- A name above is a part in the package ahead of it. -/
theorem above_child {l : Bs} (h : vn l = true) (i : Nat) (hi : i < (split l).length) (hi' : i < (above l).length) : (above l)[i] = child (join ((split l).take i)) (split l)[i] := by
  rw [above_get, join_snoc _ _ hi]
  unfold child
  by_cases h0 : i = 0
  · subst h0; simp [join]
  · rw [if_neg h0, if_neg (join_ne h i (by omega))]; simp
theorem vn_parts {l : Bs} (h : vn l = true) (i : Nat) (hi : i < (split l).length) : vpk (join ((split l).take i)) = true ∧ vp (split l)[i] = true ∧ vn (child (join ((split l).take i)) (split l)[i]) = true := by
  have hi' : i < (above l).length := by rw [above_len]; exact hi
  refine ⟨?_, (vps_iff.1 h).2 _ (List.getElem_mem hi), ?_⟩
  · by_cases h0 : i = 0
    · subst h0; exact vpk_nil
    · have := vn_join (take_vps h i (by omega))
      exact vpk_iff.2 (.inr this)
  · rw [← above_child h i hi hi']
    exact above_vn h _ (List.getElem_mem hi')
theorem child_back {p s : Bs} (hp : vpk p = true) (hs : vp s = true) (hn : vn (child p s) = true) : parent (child p s) = p ∧ last (child p s) = s ∧ childOf p s = child p s := by
  have e : childOf p s = child p s := by unfold childOf; simp [hp, hs, hn]
  have h := parent_childOf (p := p) (s := s) (by rw [e]; exact vn_ne hn)
  rw [e] at h
  refine ⟨?_, ?_, e⟩
  · have := h.1; unfold parentOf at this; rwa [if_pos hn] at this
  · have := h.2.1; unfold lastOf at this; rwa [if_pos hn] at this
theorem childOf_cases (p s : Bs) : (childOf p s ≠ [] ∧ vpk p = true ∧ vp s = true ∧ vn (child p s) = true ∧ childOf p s = child p s) ∨ (childOf p s = [] ∧ (vpk p && vp s && vn (child p s)) = false) := by
  unfold childOf
  cases h : vpk p && vp s && vn (child p s)
  · exact .inr ⟨by simp, rfl⟩
  · simp only [Bool.and_eq_true] at h
    exact .inl ⟨by simpa using vn_ne h.2, h.1.1, h.1.2, h.2, by simp⟩

theorem above_last' (l : Bs) : ∃ r, above l = r ++ [l] := by
  have hl := above_len l
  have h1 := split_pos l
  refine ⟨(above l).take ((above l).length - 1), ?_⟩
  have h2 := above_last l (by omega)
  have h3 := List.take_append_drop ((above l).length - 1) (above l)
  rw [List.drop_eq_getElem_cons (by omega), h2, show (above l).length - 1 + 1 = (above l).length by omega, List.drop_length] at h3
  exact h3.symm
theorem mem_above_self (l : Bs) : l ∈ above l := by
  obtain ⟨r, h⟩ := above_last' l
  rw [h]; simp
theorem mem_above_child {p s : Bs} (hp : vpk p = true) (hs : vp s = true) (hn : vn (child p s) = true) (x : Bs) : x ∈ above (child p s) ↔ x = child p s ∨ (p ≠ [] ∧ x ∈ above p) := by
  have h46 := split_nodot (vp_nodot hs)
  by_cases h0 : p = []
  · subst h0
    have : child [] s = s := by simp [child]
    rw [this]
    simp [above, h46, join]
  · have e : child p s = p ++ 46 :: s := by simp [child, h0]
    have e2 : split (child p s) = split p ++ [s] := by rw [e, split_append, h46]
    simp only [h0, ne_eq, not_false_eq_true, true_and]
    unfold above
    rw [e2]
    simp only [List.mem_map, List.mem_range, List.length_append, List.length_singleton]
    constructor
    · rintro ⟨i, hi, rfl⟩
      by_cases hl : i < (split p).length
      · right
        exact ⟨i, hl, by rw [List.take_append_of_le_length (by omega)]⟩
      · left
        have : i = (split p).length := by omega
        subst this
        rw [List.take_of_length_le (by simp), ← e2, join_split]
    · rintro (rfl | ⟨i, hi, rfl⟩)
      · exact ⟨(split p).length, by omega, by rw [List.take_of_length_le (by simp), ← e2, join_split]⟩
      · exact ⟨i, by omega, by rw [List.take_append_of_le_length (by omega)]⟩

/-- The names above the module of a file. -/
theorem mem_above_mod {f : Fil} (h : okFil f = true) (x : Bs) : x ∈ above (modName f) ↔ x = modName f ∨ (f.pack ≠ [] ∧ x ∈ above f.pack) := by
  have hv := (okFil_mod h).2
  unfold modName at hv ⊢
  cases hi : f.init
  · simp only [hi, Bool.false_eq_true, if_false] at hv ⊢
    have h' := h
    unfold okFil at h'
    simp only [hi, Bool.and_eq_true, Bool.false_eq_true, if_false] at h'
    exact mem_above_child h'.1.1.2 h'.2.1 hv x
  · simp only [hi, if_true] at hv ⊢
    have := mem_above_self f.pack
    constructor
    · intro hx; exact .inr ⟨vn_ne hv, hx⟩
    · rintro (rfl | ⟨_, hx⟩)
      · exact this
      · exact hx

theorem mem_packs {t : List Fil} (x : Bs) : x ∈ packs t ↔ ∃ f ∈ t, f.pack ≠ [] ∧ x ∈ above f.pack := by
  unfold packs
  rw [List.mem_flatMap]
  constructor
  · rintro ⟨f, hf, hx⟩
    cases hp : f.pack with
    | nil => simp [hp] at hx
    | cons a b => exact ⟨f, hf, by simp [hp], by simpa [hp] using hx⟩
  · rintro ⟨f, hf, hp, hx⟩
    exact ⟨f, hf, by rw [if_neg (by simpa using hp)]; exact hx⟩
theorem mem_allNames {t : List Fil} (ht : okTree t = true) (x : Bs) : x ∈ allNames t ↔ ∃ f ∈ t, x ∈ above (modName f) := by
  unfold allNames
  rw [sortUp_mem, List.mem_flatMap]
/-- The names of modules and packages are all names. -/
theorem allNames_eq {t : List Fil} (ht : okTree t = true) : sortUp (modulesOf t ++ packagesOf t) = allNames t := by
  refine up_ext (sortUp_up _) (sortUp_up _) (fun x => ?_)
  have hall := List.all_eq_true.1 (okTree_all ht).1
  rw [mem_allNames ht, sortUp_mem, List.mem_append, modulesOf, packagesOf, if_pos ht, if_pos ht, sortUp_mem, sortUp_mem, List.mem_map, mem_packs]
  constructor
  · rintro (⟨f, hf, rfl⟩ | ⟨f, hf, hp, hx⟩)
    · exact ⟨f, hf, mem_above_self _⟩
    · exact ⟨f, hf, (mem_above_mod (hall f hf) x).2 (.inr ⟨hp, hx⟩)⟩
  · rintro ⟨f, hf, hx⟩
    rcases (mem_above_mod (hall f hf) x).1 hx with rfl | ⟨hp, hx⟩
    · exact .inl ⟨f, hf, rfl⟩
    · exact .inr ⟨f, hf, hp, hx⟩
theorem allNames_vn {t : List Fil} (ht : okTree t = true) {x : Bs} (hx : x ∈ allNames t) : vn x = true := by
  obtain ⟨f, hf, h⟩ := (mem_allNames ht x).1 hx
  exact above_vn (okFil_mod (List.all_eq_true.1 (okTree_all ht).1 f hf)).2 x h

theorem overGo_some (t : List Fil) (n : Bs) : ∀ (rs ds : List Int), (overGo t n rs ds).kind ≠ 0 → ds ≠ [] ∨ ∃ r ∈ rs, (rootSpc t r n).kind ≠ 0
  | [], ds, h => by
    left; intro e; subst e; exact h rfl
  | r :: rs, ds, h => by
    by_cases hr : (rootSpc t r n).kind = 0
    · have e := (rootSpc_ok t r n).none hr
      unfold overGo at h
      rw [if_pos (by rw [e]; rfl)] at h
      rcases overGo_some t n rs _ h with h1 | ⟨r', h1, h2⟩
      · rw [e] at h1; left; simpa [noSpc] using h1
      · exact .inr ⟨r', by simp [h1], h2⟩
    · exact .inr ⟨r, by simp, hr⟩
theorem partsGo_some (t : List Fil) (s : Bs) (sp : Spc) (h : (partsGo t (above s) sp).kind ≠ 0) : ∃ r, (rootSpc t r s).kind ≠ 0 := by
  obtain ⟨q, hq⟩ := above_last' s
  rw [hq] at h
  unfold partsGo at h
  rw [List.foldl_append] at h
  rcases overGo_some t s _ _ h with h1 | ⟨r, _, h2⟩
  · exact absurd rfl h1
  · exact ⟨r, h2⟩
/-- What is found has a file or a directory. -/
theorem found_all {t : List Fil} {path : List Int} {s : Bs} (ht : okTree t = true) (h : (byParts t path s).kind ≠ 0) : s ∈ allNames t := by
  unfold byParts at h
  cases hv : vn s
  · rw [hv] at h; exact absurd rfl h
  rw [hv, if_pos rfl] at h
  obtain ⟨r, hr⟩ := partsGo_some t s _ h
  have hall := List.all_eq_true.1 (okTree_all ht).1
  rw [mem_allNames ht]
  unfold rootSpc at hr
  split at hr
  · obtain ⟨f, h1, h2⟩ := firstAt_at (t := t) (p := (r, s, [], true)) (by omega)
    simp only [place, Prod.mk.injEq] at h2
    refine ⟨f, List.mem_of_getElem? h1, ?_⟩
    have : modName f = s := by unfold modName; simp [h2]
    rw [this]; exact mem_above_self s
  · split at hr
    · obtain ⟨f, h1, h2⟩ := firstAt_at (t := t) (p := (r, parent s, last s, false)) (by omega)
      simp only [place, Prod.mk.injEq] at h2
      refine ⟨f, List.mem_of_getElem? h1, ?_⟩
      have : modName f = s := by unfold modName; simp [h2, child_parent_last s hv]
      rw [this]; exact mem_above_self s
    · split at hr
      · rename_i hd
        unfold dirIn at hd
        rw [Bool.or_eq_true] at hd
        rcases hd with hd | hd
        · rw [List.any_eq_true] at hd
          obtain ⟨f, hf, h3⟩ := hd
          simp only [Bool.and_eq_true, Bool.not_eq_true', decide_eq_true_eq] at h3
          obtain ⟨⟨_, h4⟩, h5⟩ := h3
          have hp : f.pack ≠ [] := by simpa using h4
          have hpv := vn_of_vpk (okFil_pack (hall f hf)) hp
          exact ⟨f, hf, (mem_above_mod (hall f hf) s).2 (.inr ⟨hp, (mem_above hpv hv).2 h5⟩)⟩
        · exact absurd (by simpa using hd) (vn_ne hv)
      · exact absurd rfl hr
theorem findSpec_vn {t : List Fil} {path : List Int} {s : Bs} (h : (findSpec t path s).kind ≠ 0) : okLook t path = true ∧ vn s = true := by
  unfold findSpec at h
  cases hl : okLook t path
  · rw [hl] at h; exact absurd rfl h
  · rw [hl, if_pos rfl] at h
    refine ⟨rfl, ?_⟩
    unfold byParts at h
    cases hv : vn s
    · rw [hv] at h; exact absurd rfl h
    · rfl

theorem okLook_tree {t : List Fil} {path : List Int} (h : okLook t path = true) : okTree t = true := by unfold okLook at h; simp at h; exact h.2
theorem okLook_path {t : List Fil} {path : List Int} (h : okLook t path = true) : okPath path = true := by unfold okLook at h; simp at h; exact h.1
theorem up_filter {l : List Bs} (q : Bs → Bool) (h : Up l) : Up (l.filter q) := List.Pairwise.sublist List.filter_sublist h
theorem foundNames_up (t : List Fil) (path : List Int) : Up (foundNames t path) := by
  unfold foundNames; split
  · exact up_filter _ (sortUp_up _)
  · exact List.Pairwise.nil
theorem mem_foundNames {t : List Fil} {path : List Int} (h : okLook t path = true) (s : Bs) : s ∈ foundNames t path ↔ (byParts t path s).kind ≠ 0 := by
  unfold foundNames
  rw [if_pos h, List.mem_filter]
  simp only [decide_eq_true_eq]
  exact ⟨fun h1 => h1.2, fun h1 => ⟨found_all (okLook_tree h) h1, h1⟩⟩

/-- The model's way to compare looks. -/
def sameLook (t u : List Fil) (path : List Int) : Bool := okTree t && okTree u && okPath path &&
  (sortUp (allNames t ++ allNames u)).all (fun s => sameSpc t u (byParts t path s) (byParts u path s))
/-- The program's way. -/
def sameLook' (t u : List Fil) (path : List Int) : Bool := okLook t path && okLook u path && decide (foundNames t path = foundNames u path) &&
  (foundNames t path).all (fun s => sameSpc t u (byParts t path s) (byParts u path s))
theorem sameSpc_none (t u : List Fil) : sameSpc t u noSpc noSpc = true := by simp [sameSpc, noSpc]
theorem sameLook_eq (t u : List Fil) (path : List Int) : sameLook' t u path = sameLook t u path := by
  unfold sameLook sameLook'
  cases ht : okTree t
  · simp [okLook, ht]
  cases hu : okTree u
  · simp [okLook, hu]
  cases hp : okPath path
  · simp [okLook, hp]
  have h1 : okLook t path = true := by simp [okLook, ht, hp]
  have h2 : okLook u path = true := by simp [okLook, hu, hp]
  rw [h1, h2]
  simp only [Bool.and_self, Bool.true_and]
  rw [Bool.eq_iff_iff]
  simp only [Bool.and_eq_true, decide_eq_true_eq, List.all_eq_true]
  constructor
  · rintro ⟨he, ha⟩ s hs
    by_cases hk : (byParts t path s).kind = 0
    · have hk2 : (byParts u path s).kind = 0 := Classical.byContradiction fun h3 => by
        have := (mem_foundNames h2 s).2 h3
        rw [← he] at this
        exact (mem_foundNames h1 s).1 this hk
      rw [(byParts_ok t path s).none hk, (byParts_ok u path s).none hk2]
      exact sameSpc_none t u
    · exact ha s ((mem_foundNames h1 s).2 hk)
  · intro ha
    have key : ∀ s, (byParts t path s).kind ≠ 0 ↔ (byParts u path s).kind ≠ 0 := fun s => by
      have same : s ∈ sortUp (allNames t ++ allNames u) → (byParts t path s).kind = (byParts u path s).kind := fun hs => by
        have := ha s hs
        unfold sameSpc at this
        simp only [Bool.and_eq_true, decide_eq_true_eq] at this
        exact this.1.1
      constructor
      · intro h3
        rw [← same ((sortUp_mem _ _).2 (by simp [found_all ht h3]))]; exact h3
      · intro h3
        rw [same ((sortUp_mem _ _).2 (by simp [found_all hu h3]))]; exact h3
    refine ⟨up_ext (foundNames_up t path) (foundNames_up u path) (fun s => ?_), fun s hs => ?_⟩
    · rw [mem_foundNames h1, mem_foundNames h2]; exact key s
    · exact ha s ((sortUp_mem _ _).2 (by simp [found_all ht ((mem_foundNames h1 s).1 hs)]))

/-! ### Plain facts on finders: what is in a package, and which files are hidden. -/
theorem above_app {p s : Bs} (hp : vpk p = true) (hs : vp s = true) (hn : vn (child p s) = true) : above (child p s) = (if p = [] then [] else above p) ++ [child p s] := by
  have h46 := split_nodot (vp_nodot hs)
  by_cases h0 : p = []
  · subst h0
    have : child [] s = s := by simp [child]
    rw [this]
    simp [above, h46, join]
  · have e : child p s = p ++ 46 :: s := by simp [child, h0]
    have e2 : split (child p s) = split p ++ [s] := by rw [e, split_append, h46]
    rw [if_neg h0]
    unfold above
    rw [e2, List.length_append, List.length_singleton, List.range_succ, List.map_append, List.map_singleton, List.take_of_length_le (by simp), ← e2, join_split]
    congr 1
    refine List.map_congr_left (fun i hi => ?_)
    rw [List.mem_range] at hi
    rw [e2, List.take_append_of_le_length (by omega)]

theorem parent_name {s : Bs} (h : vn s = true) : above s = (if parent s = [] then [] else above (parent s)) ++ [s] := by
  have hp := vpk_parent h
  have hl := getLast_vp h
  have hc := child_parent_last s h
  have := above_app hp hl (by rw [hc]; exact h)
  rw [hc] at this
  exact this

/-- A name is found over the roots that were found for the one above. -/
theorem byParts_step {t : List Fil} {path : List Int} {s : Bs} (h : vn s = true) : byParts t path s = overSpc t (if parent s = [] then path else (byParts t path (parent s)).roots) s := by
  unfold byParts
  rw [h, if_pos rfl, parent_name h]
  unfold partsGo
  rw [List.foldl_append]
  by_cases h0 : parent s = []
  · simp [h0]
  · rw [if_neg h0, if_neg h0, parent_vn h h0, if_pos rfl]
    rfl

theorem isPack_of {t : List Fil} {path : List Int} {p : Bs} (hl : okLook t path = true) (h : (byParts t path p).roots ≠ []) : isPack t path p = true := by
  have h2 := byParts_ok t path p
  unfold isPack findSpec
  rw [if_pos hl]
  rcases h2 with e | e | e | e
  · rw [e] at h; exact absurd rfl h
  · exact absurd e.2.1 h
  · simp [e.1]
  · simp [e.1]
theorem isPack_iff {t : List Fil} {path : List Int} {p : Bs} (hl : okLook t path = true) : isPack t path p = decide ((byParts t path p).roots ≠ []) := by
  by_cases h : (byParts t path p).roots = []
  · rw [decide_eq_false (by simpa using h)]
    have h2 := byParts_ok t path p
    unfold isPack findSpec
    rw [if_pos hl]
    rcases h2 with e | e | e | e
    · rw [e]; rfl
    · simp [e.1]
    · exact absurd h e.2.1
    · exact absurd h e.2.2
  · rw [decide_eq_true h]; exact isPack_of hl h

theorem ltB_app (p : Bs) : ∀ (a b : Bs), ltB (p ++ a) (p ++ b) = ltB a b := by
  intro a b
  induction p with
  | nil => rfl
  | cons c r ih => simp [ltB, ih]
theorem ltB_child (p a b : Bs) : ltB (child p a) (child p b) = ltB a b := by
  unfold child
  split
  · rfl
  · rw [show p ++ 46 :: a = (p ++ [46]) ++ a by simp, show p ++ 46 :: b = (p ++ [46]) ++ b by simp, ltB_app]

theorem foundNames_vn {t : List Fil} {path : List Int} {s : Bs} (h : s ∈ foundNames t path) : okLook t path = true ∧ vn s = true := by
  unfold foundNames at h
  cases hl : okLook t path
  · rw [hl] at h; simp at h
  · rw [hl, if_pos rfl, List.mem_filter] at h
    exact ⟨rfl, allNames_vn (okLook_tree hl) h.1⟩
theorem kids_up (t : List Fil) (path : List Int) (p : Bs) : Up (kidsOf t path p) := by
  unfold kidsOf
  have h1 := up_filter (fun s => decide (parent s = p)) (foundNames_up t path)
  have h2 : ∀ s ∈ (foundNames t path).filter (fun s => decide (parent s = p)), vn s = true ∧ parent s = p := fun s hs => by
    rw [List.mem_filter] at hs
    exact ⟨(foundNames_vn hs.1).2, by simpa using hs.2⟩
  unfold Up at h1 ⊢
  rw [List.pairwise_map]
  refine List.Pairwise.imp_of_mem ?_ h1
  intro a b ha hb hab
  have e1 := child_parent_last a (h2 a ha).1
  have e2 := child_parent_last b (h2 b hb).1
  rw [(h2 a ha).2] at e1
  rw [(h2 b hb).2] at e2
  rw [← e1, ← e2, ltB_child] at hab
  exact hab
theorem sortUp_of_up {l : List Bs} (h : Up l) : sortUp l = l := up_ext (sortUp_up l) h (fun x => sortUp_mem x l)

/-- The model's way to tell what is in a package. -/
def kidsOf' (t : List Fil) (path : List Int) (p : Bs) : List Bs :=
  if okLook t path && (p.isEmpty || isPack t path p) then sortUp (((allNames t).filter (fun s => decide (parent s = p) && decide ((byParts t path s).kind ≠ 0))).map last) else []
theorem kids_eq (t : List Fil) (path : List Int) (p : Bs) : kidsOf' t path p = kidsOf t path p := by
  unfold kidsOf'
  cases hl : okLook t path
  · simp [kidsOf, foundNames, hl]
  · have e : ((allNames t).filter (fun s => decide (parent s = p) && decide ((byParts t path s).kind ≠ 0))).map last = kidsOf t path p := by
      unfold kidsOf foundNames
      rw [if_pos hl, List.filter_filter]
    rw [e]
    by_cases hp : (p.isEmpty || isPack t path p) = true
    · rw [hp]
      simp only [Bool.and_self, if_true]
      exact sortUp_of_up (kids_up t path p)
    · have hp' : (p.isEmpty || isPack t path p) = false := by simpa using hp
      rw [hp']
      simp only [Bool.and_false, Bool.false_eq_true, if_false]
      rw [Bool.or_eq_false_iff] at hp'
      have h0 : p ≠ [] := by simpa using hp'.1
      unfold kidsOf
      symm
      rw [List.map_eq_nil_iff, List.filter_eq_nil_iff]
      intro s hs
      simp only [decide_eq_true_eq]
      intro e
      have hv := (foundNames_vn hs).2
      have hk := (mem_foundNames hl s).1 hs
      rw [byParts_step hv, e, if_neg h0] at hk
      have : (byParts t path p).roots ≠ [] := fun e2 => by rw [e2, overSpc_nil] at hk; exact hk rfl
      rw [isPack_of hl this] at hp'
      exact absurd hp'.2 (by simp)

theorem hiddenGo_len (t : List Fil) (path : List Int) : ∀ (l : List Fil) (i : Int), (hiddenGo t path l i).length ≤ l.length
  | [], i => by simp [hiddenGo]
  | f :: r, i => by
    have := hiddenGo_len t path r (i + 1)
    unfold hiddenGo
    rw [List.length_append]
    split <;> simp <;> omega
theorem hiddenGo_app (t : List Fil) (path : List Int) : ∀ (l m : List Fil) (i : Int), hiddenGo t path (l ++ m) i = hiddenGo t path l i ++ hiddenGo t path m (i + l.length)
  | [], m, i => by simp [hiddenGo]
  | f :: r, m, i => by
    have e1 : hiddenGo t path (f :: r) i = (if foundFor t path f = i then [] else [i]) ++ hiddenGo t path r (i + 1) := rfl
    have e2 : hiddenGo t path (f :: r ++ m) i = (if foundFor t path f = i then [] else [i]) ++ hiddenGo t path (r ++ m) (i + 1) := rfl
    rw [e1, e2, hiddenGo_app t path r m (i + 1), List.append_assoc, List.length_cons]
    rw [show i + 1 + (r.length : Int) = i + ((r.length + 1 : Nat) : Int) by push_cast; omega]
theorem hidden_snoc (t : List Fil) (path : List Int) (k : Nat) (h : k < t.length) : hiddenGo t path (t.take (k + 1)) 0 = hiddenGo t path (t.take k) 0 ++ (if foundFor t path t[k] = k then [] else [(k : Int)]) := by
  rw [List.take_succ_eq_append_getElem h, hiddenGo_app]
  have : (t.take k).length = k := by rw [List.length_take]; omega
  rw [this]
  simp [hiddenGo]
theorem hidden_at {t : List Fil} {path : List Int} (h : okLook t path = true) : hiddenGo t path (t.take t.length) 0 = hidden t path := by rw [List.take_length, hidden, if_pos h]

/-- Why a file is not found. -/
def whoHides (t : List Fil) (path : List Int) (i : Int) : Int × Int :=
  if okLook t path && inr i 0 ((t.length : Int) - 1) then
    match t[i.toNat]? with
    | some f => if foundFor t path f = i then (0, -1) else if f.root ∈ path then (if 0 ≤ foundFor t path f then (2, foundFor t path f) else (3, -1)) else (1, -1)
    | none => (-1, -1)
  else (-1, -1)

theorem namesAbove_le3 (l : Bs) : (namesAbove l).length ≤ 3 := by
  unfold namesAbove
  split
  · rename_i h
    rw [above_len]; exact (vps_iff.1 (show vps (split l) = true from h)).1.2
  · simp

/-! ### Plain facts that the promises on trees say. -/
theorem okBody_erase {b : List Stm} (h : okBody b = true) (i : Nat) : okBody (b.eraseIdx i) = true := by
  unfold okBody at h ⊢
  simp only [Bool.and_eq_true, decide_eq_true_eq, List.all_eq_true] at h ⊢
  refine ⟨fun s hs => h.1 s (List.mem_of_mem_eraseIdx hs), ?_⟩
  have := (List.eraseIdx_sublist b i).length_le
  omega
theorem mixed_bd {n k : Int} (hn : 0 ≤ n) (hk : 0 ≤ k) : 0 ≤ mixed n k ∧ mixed n k < 1000003 := by
  unfold mixed
  have h0 : 0 ≤ n * 131 + k + 1 := by omega
  exact ⟨Int.tmod_nonneg _ h0, Int.tmod_lt_of_pos _ (by omega)⟩
theorem foldMix_bd : ∀ (s : Bs) {n : Int}, 0 ≤ n → 0 ≤ s.foldl (fun n c => mixed n (c.toNat : Int)) n
  | [], n, h => h
  | c :: r, n, h => by
    rw [List.foldl_cons]
    exact foldMix_bd r (mixed_bd h (by omega)).1
theorem mixedText_bd {n : Int} (s : Bs) (hn : 0 ≤ n) : 0 ≤ mixedText n s ∧ mixedText n s < 1000003 := mixed_bd (foldMix_bd s hn) (Int.le_refl _)
theorem okStm_nums {s : Stm} (h : okStm s = true) : 0 ≤ s.kind ∧ 0 ≤ s.level ∧ 0 ≤ s.value := by
  unfold okStm at h
  split at h
  · simp only [Bool.and_eq_true, decide_eq_true_eq] at h; omega
  split at h
  · simp only [Bool.and_eq_true, decide_eq_true_eq, okSrc, inr] at h; omega
  split at h
  · simp only [Bool.and_eq_true, decide_eq_true_eq] at h; omega
  split at h
  · simp only [Bool.and_eq_true, decide_eq_true_eq, inr] at h; omega
  split at h
  · simp only [Bool.and_eq_true, decide_eq_true_eq] at h; omega
  split at h
  · simp only [Bool.and_eq_true, decide_eq_true_eq] at h; omega
  · cases h
theorem hashStm_bd {n : Int} {s : Stm} (h : okStm s = true) (hn : 0 ≤ n) : 0 ≤ hashStm n s ∧ hashStm n s < 1000003 := by
  obtain ⟨h1, h2, h3⟩ := okStm_nums h
  unfold hashStm
  exact mixedText_bd _ (mixedText_bd _ (mixed_bd (mixed_bd (mixed_bd hn h1).1 h2).1 h3).1).1
theorem foldHash_bd : ∀ (b : List Stm) {n : Int}, (∀ s ∈ b, okStm s = true) → 0 ≤ n → n < 1000003 → 0 ≤ b.foldl hashStm n ∧ b.foldl hashStm n < 1000003
  | [], n, _, h, h2 => ⟨h, h2⟩
  | s :: r, n, hb, h, h2 => by
    rw [List.foldl_cons]
    have := hashStm_bd (hb s (by simp)) h
    exact foldHash_bd r (fun x hx => hb x (by simp [hx])) this.1 this.2
theorem hashOf_bd {b : List Stm} (h : okBody b = true) : 0 ≤ hashOf b ∧ hashOf b < 1000003 := by
  unfold hashOf
  rw [if_pos h]
  unfold okBody at h
  simp only [Bool.and_eq_true, List.all_eq_true] at h
  exact foldHash_bd b h.1 (by omega) (by omega)
theorem hashOf_no {b : List Stm} (h : okBody b = false) : hashOf b = -1 := by unfold hashOf; rw [h]; rfl
theorem hashOf_nil : hashOf [] = 1 := by decide

theorem okTree_of {t : List Fil} (h1 : t.all okFil = true) (h2 : (t.map place).Nodup) (h3 : t.length ≤ 12) : okTree t = true := by
  unfold okTree; simp [h1, h2, h3]
theorem okTree_sub {t u : List Fil} (h : okTree t = true) (hs : u.Sublist t) : okTree u = true := by
  obtain ⟨h1, h2, h3⟩ := okTree_all h
  refine okTree_of ?_ ((hs.map place).nodup h2) (Nat.le_trans hs.length_le h3)
  rw [List.all_eq_true] at h1 ⊢
  exact fun f hf => h1 f (hs.subset hf)
theorem okTree_erase {t : List Fil} (h : okTree t = true) (i : Nat) : okTree (t.eraseIdx i) = true := okTree_sub h (List.eraseIdx_sublist t i)
theorem okTree_file {t : List Fil} (h : okTree t = true) {f : Fil} (hf : f ∈ t) : okFil f = true := List.all_eq_true.1 (okTree_all h).1 f hf

theorem modOf_facts {f : Fil} (h : modOf f ≠ []) : okFil f = true ∧ modOf f = modName f ∧ vn (modOf f) = true ∧ (f.init = true → modOf f = f.pack) ∧ (f.init = false → parentOf (modOf f) = f.pack ∧ lastOf (modOf f) = f.name) := by
  have hok : okFil f = true := by
    unfold modOf at h
    cases ho : okFil f
    · rw [ho] at h; exact absurd rfl h
    · rfl
  have e : modOf f = modName f := by unfold modOf; rw [if_pos hok]
  have hv := (okFil_mod hok).2
  refine ⟨hok, e, by rw [e]; exact hv, fun hi => by rw [e]; unfold modName; rw [hi]; rfl, fun hi => ?_⟩
  rw [e]
  have hm := (okFil_mod hok).1
  unfold modAt at hm
  rw [hi] at hm
  simp only [Bool.false_eq_true, if_false] at hm
  have := parent_childOf (p := f.pack) (s := f.name) (by rw [hm]; exact vn_ne hv)
  rw [hm] at this
  exact ⟨this.1, this.2.1⟩
theorem modOf_mem {t : List Fil} (h : okTree t = true) {f : Fil} (hf : f ∈ t) : modOf f ∈ modulesOf t := by
  unfold modulesOf modOf
  rw [if_pos h, if_pos (okTree_file h hf), sortUp_mem, List.mem_map]
  exact ⟨f, hf, rfl⟩

theorem okTree_twice {t : List Fil} {f : Fil} : okTree (t ++ [f] ++ [f]) = false := by
  cases h : okTree (t ++ [f] ++ [f])
  · rfl
  · have h2 := (okTree_all h).2.1
    simp only [List.map_append, List.append_assoc] at h2
    rw [List.nodup_append] at h2
    simp at h2
theorem erase_last {t : List Fil} {f : Fil} : (t ++ [f]).eraseIdx t.length = t := by
  rw [List.eraseIdx_append_of_length_le (Nat.le_refl _)]; simp

theorem under_trans {a b c : Bs} (ha : vn a = true) (hb : vn b = true) (hc : vpk c = true) (h1 : under a b = true) (h2 : under b c = true) : under a c = true := by
  rcases vpk_iff.1 hc with rfl | hc
  · simp [under]
  · rw [under_iff ha hc]
    exact ((under_iff hb hc).1 h2).trans ((under_iff ha hb).1 h1)
theorem dirIn_some {t : List Fil} {root : Int} {p : Bs} (h : dirIn t root p = true) (h0 : p ≠ []) : ∃ f ∈ t, f.root = root ∧ f.pack ≠ [] ∧ under f.pack p = true := by
  unfold dirIn at h
  rw [Bool.or_eq_true] at h
  rcases h with h | h
  · rw [List.any_eq_true] at h
    obtain ⟨f, hf, h3⟩ := h
    simp only [Bool.and_eq_true, Bool.not_eq_true', decide_eq_true_eq] at h3
    exact ⟨f, hf, h3.1.1, by simpa using h3.1.2, h3.2⟩
  · exact absurd (by simpa using h) h0
theorem dirIn_of {t : List Fil} {root : Int} {p : Bs} {f : Fil} (hf : f ∈ t) (hr : f.root = root) (hp : f.pack ≠ []) (hu : under f.pack p = true) : dirIn t root p = true := by
  unfold dirIn
  rw [Bool.or_eq_true, List.any_eq_true]
  have hne : f.pack.isEmpty = false := by simpa using hp
  exact .inl ⟨f, hf, by simp [hr, hu, hne]⟩
theorem dirIn_nil (t : List Fil) (root : Int) : dirIn t root [] = true := by unfold dirIn; simp
theorem placed_of {t : List Fil} {root : Int} {p : Bs} (h : placed t root p = true) : okTree t = true ∧ inr root 0 2 = true ∧ vpk p = true := by
  unfold placed at h; simp only [Bool.and_eq_true] at h; exact ⟨h.1.1, h.1.2, h.2⟩
theorem hasDir_of {t : List Fil} {root : Int} {p : Bs} (h : hasDir t root p = true) : placed t root p = true ∧ dirIn t root p = true := by
  unfold hasDir at h; simpa using h

theorem mem_listDir {t : List Fil} {root : Int} {p : Bs} (h : placed t root p = true) (x : Bs) : x ∈ listDir t root p ↔ ∃ f ∈ t, entry f root p = x ∧ x ≠ [] := by
  unfold listDir
  rw [if_pos h, sortUp_mem]
  unfold entries
  rw [List.mem_filter, List.mem_map]
  constructor
  · rintro ⟨⟨f, hf, rfl⟩, h2⟩; exact ⟨f, hf, rfl, by simpa using h2⟩
  · rintro ⟨f, hf, rfl, h2⟩; exact ⟨⟨f, hf, rfl⟩, by simpa using h2⟩
theorem listDir_up (t : List Fil) (root : Int) (p : Bs) : Up (listDir t root p) := by
  unfold listDir; split
  · exact sortUp_up _
  · exact List.Pairwise.nil
theorem under_parent' {p : Bs} (h : vn p = true) : under p (parent p) = true := by
  have h1 := under_parent h
  unfold isUnder at h1
  simp only [Bool.and_eq_true] at h1
  exact h1.2
theorem split_parent {p : Bs} (h : vn p = true) : (if parent p = [] then [] else split (parent p)) ++ [last p] = split p := by
  have e : split p = (split p).dropLast ++ [last p] := (List.dropLast_concat_getLast (split_ne p)).symm
  by_cases h0 : parent p = []
  · rw [if_pos h0]
    have hvs := h
    by_cases hd : (split p).dropLast = []
    · rw [hd] at e; exact e.symm
    · exfalso
      have h2 : vps (split p).dropLast = true := vps_iff.2 ⟨⟨List.length_pos_iff.2 hd, by have := (vps_iff.1 h).1; simp; omega⟩, fun x hx => (vps_iff.1 h).2 x ((List.dropLast_sublist _).subset hx)⟩
      exact vn_ne (vn_join h2) h0
  · rw [if_neg h0]
    have h2 := parent_vps h h0
    have h3 := split_of_vps h2
    rw [show parent p = join (split p).dropLast from rfl, h3]
    exact e.symm
theorem firstBelow_parent {s p : Bs} (hs : vn s = true) (hp : vn p = true) (hu : under s p = true) : under s (parent p) = true ∧ s ≠ parent p ∧ firstBelow s (parent p) = last p := by
  have hpp := under_parent' hp
  have hvp := vpk_parent hp
  have h1 := under_trans hs hp hvp hu hpp
  have hpre := (under_iff hs hp).1 hu
  have hsp := split_parent hp
  have hne : s ≠ parent p := by
    rintro rfl
    have h0 : parent p ≠ [] := vn_ne hs
    rw [if_neg h0] at hsp
    have := hpre.length_le
    rw [← hsp] at this
    simp at this; omega
  refine ⟨h1, hne, ?_⟩
  have h2 := first_of hs hvp h1 hne
  rw [parts_of hs] at h2
  have hl : (parts (parent p)).length = (if parent p = [] then [] else split (parent p)).length := by
    by_cases h0 : parent p = []
    · rw [h0]; simp [parts, vn_nil]
    · rw [if_neg h0, parts_of (parent_vn hp h0)]
  rw [hl] at h2
  obtain ⟨r, hr⟩ := hpre
  rw [← hr, ← hsp, List.append_assoc, List.getElem?_append_right (Nat.le_refl _)] at h2
  simpa using h2.symm

/-- With a directory there is the one above it, which has it, and it is not empty. -/
theorem hasDir_facts {t : List Fil} {root : Int} {p : Bs} (h : hasDir t root p = true) (h0 : p ≠ []) :
    hasDir t root (parentOf p) = true ∧ lastOf p ++ [47] ∈ listDir t root (parentOf p) ∧ listDir t root p ≠ [] := by
  obtain ⟨hpl, hd⟩ := hasDir_of h
  obtain ⟨ht, hr, hv⟩ := placed_of hpl
  have hn := vn_of_vpk hv h0
  obtain ⟨f, hf, e1, e2, e3⟩ := dirIn_some hd h0
  have hfn := vn_of_vpk (okFil_pack (okTree_file ht hf)) e2
  obtain ⟨g1, g2, g3⟩ := firstBelow_parent hfn hn e3
  have ep : parentOf p = parent p := parentOf_of hn
  have el : lastOf p = last p := by unfold lastOf; rw [if_pos hn]
  rw [ep, el]
  have hpl2 : placed t root (parent p) = true := by unfold placed; simp [ht, hr, vpk_parent hn]
  refine ⟨by unfold hasDir; simp [hpl2, dirIn_of hf e1 e2 g1], (mem_listDir hpl2 _).2 ⟨f, hf, ?_, by simp⟩, fun hnil => ?_⟩
  · unfold entry
    have hne : f.pack.isEmpty = false := by simpa using e2
    rw [if_pos e1, if_neg g2, if_pos (by simp [hne, g1]), g3]
  · have hx : entry f root p ∈ listDir t root p := (mem_listDir hpl _).2 ⟨f, hf, rfl, by
      have hb : isBelow root p f = true := by
        rw [isBelow_dir (okTree_file ht hf) hv h0]
        have hne : f.pack.isEmpty = false := by simpa using e2
        simp [e1, hne, e3]
      rw [entry_below (okTree_file ht hf) hv, if_pos hb]
      exact entryAt_ne p (okTree_file ht hf)⟩
    rw [hnil] at hx; simp at hx
/-- Each file of a directory is in its listing. -/
theorem listDir_file {t : List Fil} {root : Int} {f : Fil} (ht : okTree t = true) (hr : inr root 0 2 = true) (hf : f ∈ t) (h1 : f.root = root) :
    (if f.init then [42] else f.name) ∈ listDir t root f.pack := by
  have hpl : placed t root f.pack = true := by unfold placed; simp [ht, hr, okFil_pack (okTree_file ht hf)]
  refine (mem_listDir hpl _).2 ⟨f, hf, ?_, ?_⟩
  · unfold entry; simp [h1]
  · split
    · simp
    · rename_i hi; exact okFil_name (okTree_file ht hf) (by simpa using hi)
theorem listDir_dir {t : List Fil} {root : Int} {p : Bs} (h : listDir t root p ≠ []) : hasDir t root p = true := by
  cases hpl : placed t root p
  · exact absurd (listDir_no hpl) h
  · obtain ⟨ht, hr, hv⟩ := placed_of hpl
    unfold hasDir
    rw [hpl, Bool.true_and]
    by_cases h0 : p = []
    · subst h0; exact dirIn_nil _ _
    · obtain ⟨x, hx⟩ := List.exists_mem_of_ne_nil _ h
      obtain ⟨f, hf, e, hne⟩ := (mem_listDir hpl x).1 hx
      unfold entry at e
      split at e
      · rename_i e1
        split at e
        · rename_i e2
          exact dirIn_of hf e1 (by rw [e2]; exact h0) (by rw [e2]; exact under_self)
        · split at e
          · rename_i e3
            simp only [Bool.and_eq_true, Bool.not_eq_true'] at e3
            exact dirIn_of hf e1 (by simpa using e3.1) e3.2
          · exact absurd e.symm hne
      · exact absurd e.symm hne

/-- Each package is the directory of some root, and the one above it is a package, too. -/
theorem packages_facts {t : List Fil} (ht : okTree t = true) {x : Bs} (hx : x ∈ packagesOf t) :
    vn x = true ∧ (∃ r : Int, (r = 0 ∨ r = 1 ∨ r = 2) ∧ hasDir t r x = true) ∧ (parentOf x ≠ [] → parentOf x ∈ packagesOf t) := by
  unfold packagesOf at hx ⊢
  rw [if_pos ht, sortUp_mem, mem_packs] at hx
  obtain ⟨f, hf, hp, ha⟩ := hx
  have hok := okTree_file ht hf
  have hfn := vn_of_vpk (okFil_pack hok) hp
  have hv := above_vn hfn x ha
  have hu := (mem_above hfn hv).1 ha
  refine ⟨hv, ⟨f.root, ?_, ?_⟩, fun h0 => ?_⟩
  · unfold okFil at hok; simp only [Bool.and_eq_true, inr, decide_eq_true_eq] at hok; omega
  · have hr : inr f.root 0 2 = true := by unfold okFil at hok; simp only [Bool.and_eq_true] at hok; exact hok.1.1.1.1
    unfold hasDir placed
    simp [ht, hr, vpk_iff.2 (.inr hv), dirIn_of hf rfl hp hu]
  · rw [if_pos ht, sortUp_mem, mem_packs]
    rw [parentOf_of hv] at h0 ⊢
    have hpv := parent_vn hv h0
    exact ⟨f, hf, hp, (mem_above hfn hpv).2 (under_trans hfn hv (vpk_parent hv) hu (under_parent' hv))⟩
theorem packagesOf_no {t : List Fil} (h : okTree t = false) : packagesOf t = [] := by rw [packagesOf, h]; rfl

/-! ### Plain facts that the promises on finders say. -/
theorem okPath_sub {p q : List Int} (h : okPath p = true) (hs : q.Sublist p) : okPath q = true := by
  unfold okPath at h ⊢
  simp only [Bool.and_eq_true, decide_eq_true_eq, List.all_eq_true] at h ⊢
  exact ⟨fun r hr => h.1 r (hs.subset hr), hs.nodup h.2⟩
theorem okPath_erase {p : List Int} (h : okPath p = true) (i : Nat) : okPath (p.eraseIdx i) = true := okPath_sub h (List.eraseIdx_sublist p i)
theorem okLook_sub {t : List Fil} {p q : List Int} (h : okLook t p = true) (hs : q.Sublist p) : okLook t q = true := by
  unfold okLook; rw [okPath_sub (okLook_path h) hs, okLook_tree h]; rfl
theorem okLook_of {t : List Fil} {p : List Int} (h1 : okTree t = true) (h2 : okPath p = true) : okLook t p = true := by unfold okLook; simp [h1, h2]

/-- Either a root ahead has a file, or the roots with directories are collected. -/
theorem overGo_cases (t : List Fil) (n : Bs) : ∀ (rs ds : List Int),
    ((∀ r ∈ rs, (rootSpc t r n).file = -1) ∧ overGo t n rs ds = (if ds ++ rs.flatMap (fun r => (rootSpc t r n).roots) = [] then noSpc else ⟨3, -1, ds ++ rs.flatMap (fun r => (rootSpc t r n).roots)⟩)) ∨
    ∃ a r b, rs = a ++ r :: b ∧ (∀ x ∈ a, (rootSpc t x n).file = -1) ∧ (rootSpc t r n).file ≠ -1 ∧ overGo t n rs ds = rootSpc t r n
  | [], ds => by left; simp [overGo]
  | r :: rs, ds => by
    by_cases h : (rootSpc t r n).file = -1
    · have e : overGo t n (r :: rs) ds = overGo t n rs (ds ++ (rootSpc t r n).roots) := by
        show (if (rootSpc t r n).file = -1 then _ else _) = _; rw [if_pos h]
      rcases overGo_cases t n rs (ds ++ (rootSpc t r n).roots) with ⟨h1, h2⟩ | ⟨a, x, b, h1, h2, h3, h4⟩
      · left
        refine ⟨fun y hy => ?_, ?_⟩
        · rcases List.mem_cons.1 hy with rfl | hy
          · exact h
          · exact h1 y hy
        · rw [e, h2, List.flatMap_cons, List.append_assoc]
      · right
        refine ⟨r :: a, x, b, by rw [h1]; rfl, fun y hy => ?_, h3, by rw [e, h4]⟩
        rcases List.mem_cons.1 hy with rfl | hy
        · exact h
        · exact h2 y hy
    · right
      refine ⟨[], r, rs, rfl, by simp, h, ?_⟩
      show (if (rootSpc t r n).file = -1 then _ else _) = _; rw [if_neg h]
theorem overGo_none {t : List Fil} {n : Bs} : ∀ {rs : List Int} (ds : List Int), (∀ r ∈ rs, (rootSpc t r n).file = -1) → (overGo t n rs ds).file = -1
  | [], ds, _ => by
    unfold overGo; split <;> rfl
  | r :: rs, ds, h => by
    have e : overGo t n (r :: rs) ds = overGo t n rs (ds ++ (rootSpc t r n).roots) := by
      show (if (rootSpc t r n).file = -1 then _ else _) = _; rw [if_pos (h r (by simp))]
    rw [e]; exact overGo_none _ (fun x hx => h x (by simp [hx]))
theorem overGo_hit {t : List Fil} {n : Bs} {r : Int} (hr : (rootSpc t r n).file ≠ -1) : ∀ {a : List Int} (b ds : List Int), (∀ x ∈ a, (rootSpc t x n).file = -1) → overGo t n (a ++ r :: b) ds = rootSpc t r n
  | [], b, ds, _ => by show (if (rootSpc t r n).file = -1 then _ else _) = _; rw [if_neg hr]
  | x :: a, b, ds, h => by
    show (if (rootSpc t x n).file = -1 then _ else _) = _
    rw [if_pos (h x (by simp))]
    exact overGo_hit hr b _ (fun y hy => h y (by simp [hy]))

/-- What one root has, by its file. -/
theorem rootSpc_hit {t : List Fil} {r : Int} {n : Bs} (hn : vn n = true) (h : (rootSpc t r n).file ≠ -1) :
    ∃ f, t[((rootSpc t r n).file).toNat]? = some f ∧ f.root = r ∧ modName f = n ∧ (f.init = true ↔ (rootSpc t r n).kind = 2) := by
  unfold rootSpc at h ⊢
  split
  · rename_i h1
    obtain ⟨f, h2, h3⟩ := firstAt_at (t := t) (p := (r, n, [], true)) (by omega)
    simp only [place, Prod.mk.injEq] at h3
    exact ⟨f, h2, h3.1, by unfold modName; simp [h3], by simp [h3]⟩
  · rename_i h0
    rw [if_neg h0] at h
    split
    · rename_i h1
      obtain ⟨f, h2, h3⟩ := firstAt_at (t := t) (p := (r, parent n, last n, false)) (by omega)
      simp only [place, Prod.mk.injEq] at h3
      exact ⟨f, h2, h3.1, by unfold modName; simp [h3, child_parent_last n hn], by simp [h3]⟩
    · rename_i h1
      rw [if_neg h1] at h
      split at h <;> exact absurd rfl h

theorem rootSpc_roots {t : List Fil} {r : Int} {n : Bs} : (rootSpc t r n).roots = [] ∨ (rootSpc t r n).roots = [r] := by
  unfold rootSpc
  split
  · exact .inr rfl
  · split
    · exact .inl rfl
    · split
      · exact .inr rfl
      · exact .inl rfl
theorem flatRoots (t : List Fil) (n : Bs) : ∀ rs : List Int, (rs.flatMap (fun r => (rootSpc t r n).roots)).Sublist rs
  | [] => by simp
  | x :: l => by
    rw [List.flatMap_cons]
    rcases rootSpc_roots (t := t) (r := x) (n := n) with e | e
    · rw [e]; exact List.Sublist.cons x (flatRoots t n l)
    · rw [e]; exact List.Sublist.cons_cons x (flatRoots t n l)
theorem ovRoots {t : List Fil} {n : Bs} {rs : List Int} : ∀ ds, (overGo t n rs ds).roots.Sublist (ds ++ rs) := by
  intro ds
  rcases overGo_cases t n rs ds with ⟨_, h⟩ | ⟨a, r, b, rfl, _, _, h⟩
  · rw [h]
    split
    · exact List.nil_sublist _
    · exact List.Sublist.append (List.Sublist.refl ds) (flatRoots t n rs)
  · rw [h]
    rcases rootSpc_roots (t := t) (r := r) (n := n) with e | e
    · rw [e]; exact List.nil_sublist _
    · rw [e]; exact List.singleton_sublist.2 (by simp)
theorem overSpc_roots (t : List Fil) (n : Bs) (rs : List Int) : (overSpc t rs n).roots.Sublist rs := ovRoots []
theorem partsGo_roots (t : List Fil) : ∀ (ns : List Bs) (sp : Spc), (partsGo t ns sp).roots.Sublist sp.roots
  | [], sp => List.Sublist.refl _
  | n :: r, sp => by
    unfold partsGo; rw [List.foldl_cons]
    exact (partsGo_roots t r _).trans (overSpc_roots t n sp.roots)
theorem byParts_roots (t : List Fil) (path : List Int) (s : Bs) : (byParts t path s).roots.Sublist path := by
  unfold byParts; split
  · exact partsGo_roots t _ _
  · exact List.nil_sublist _

theorem overSpc_hit {t : List Fil} {n : Bs} {rs : List Int} (hn : vn n = true) (h : (overSpc t rs n).file ≠ -1) :
    ∃ a r b f, rs = a ++ r :: b ∧ (∀ x ∈ a, (rootSpc t x n).file = -1) ∧ overSpc t rs n = rootSpc t r n ∧ t[((overSpc t rs n).file).toNat]? = some f ∧ f.root = r ∧ modName f = n ∧ (f.init = true ↔ (overSpc t rs n).kind = 2) := by
  rcases overGo_cases t n rs [] with ⟨h1, h2⟩ | ⟨a, r, b, h1, h2, h3, h4⟩
  · exact absurd (overGo_none [] h1) h
  · obtain ⟨f, g1, g2, g3, g4⟩ := rootSpc_hit hn h3
    have e : overSpc t rs n = rootSpc t r n := h4
    exact ⟨a, r, b, f, h1, h2, e, by rw [e]; exact g1, g2, g3, by rw [e]; exact g4⟩

/-- P25. -/
theorem findIn_facts {t : List Fil} {path : List Int} {p s : Bs} (h : (findIn t path p s).file ≠ -1) :
    ∃ a r b f, path = a ++ r :: b ∧ r ∉ a ∧ t[((findIn t path p s).file).toNat]? = some f ∧ f.root = r ∧ modOf f = childOf p s ∧
      (findIn t a p s).file = -1 ∧ findIn t (a ++ [r]) p s = findIn t path p s := by
  cases hc : okLook t path && !(childOf p s).isEmpty
  · have e0 : findIn t path p s = noSpc := by unfold findIn; rw [hc]; rfl
    rw [e0] at h; exact absurd rfl h
  · have ec : findIn t path p s = overSpc t path (childOf p s) := by unfold findIn; rw [hc]; rfl
    rw [ec] at h ⊢
    simp only [Bool.and_eq_true, Bool.not_eq_true'] at hc
    have hne : childOf p s ≠ [] := by simpa using hc.2
    have hn := (parent_childOf hne).2.2
    obtain ⟨a, r, b, f, h1, h2, h3, h4, h5, h6, h7⟩ := overSpc_hit hn h
    have hf := List.mem_of_getElem? h4
    have hok := okTree_file (okLook_tree hc.1) hf
    have hnd : (a ++ r :: b).Nodup := by
      have := okLook_path hc.1
      unfold okPath at this
      simp only [Bool.and_eq_true, decide_eq_true_eq] at this
      rw [← h1]; exact this.2
    have hra : r ∉ a := fun hm => (List.nodup_append.1 hnd).2.2 r hm r (by simp) rfl
    have hroot : (rootSpc t r (childOf p s)).file ≠ -1 := by rw [← h3]; exact h
    refine ⟨a, r, b, f, h1, hra, h4, h5, by unfold modOf; rw [if_pos hok]; exact h6, ?_, ?_⟩
    · unfold findIn; split
      · exact overGo_none [] h2
      · rfl
    · have hl : okLook t (a ++ [r]) = true := okLook_sub hc.1 (by rw [h1]; exact List.Sublist.append (List.Sublist.refl _) (List.singleton_sublist.2 (by simp)))
      unfold findIn
      rw [hl, hc.2]
      simp only [Bool.not_false, Bool.and_self, if_true]
      rw [h3]
      exact overGo_hit hroot [] [] h2

/-- P26. -/
theorem findIn_space {t : List Fil} {path : List Int} {p s : Bs} (h : (findIn t path p s).kind = 3) :
    (findIn t path p s).file = -1 ∧ (findIn t path p s).roots = path.filter (fun r => hasDir t r (childOf p s)) ∧ ∀ r ∈ path, (findIn t [r] p s).file = -1 := by
  cases hc : okLook t path && !(childOf p s).isEmpty
  · have e0 : findIn t path p s = noSpc := by unfold findIn; rw [hc]; rfl
    rw [e0] at h; exact absurd h (by decide)
  · have ec : findIn t path p s = overSpc t path (childOf p s) := by unfold findIn; rw [hc]; rfl
    rw [ec] at h ⊢
    simp only [Bool.and_eq_true, Bool.not_eq_true'] at hc
    have hne : childOf p s ≠ [] := by simpa using hc.2
    have hn := (parent_childOf hne).2.2
    rcases overGo_cases t (childOf p s) path [] with ⟨h1, h2⟩ | ⟨a, r, b, h1, h2, h3, h4⟩
    · have hroots : ∀ r ∈ path, (rootSpc t r (childOf p s)).roots = if hasDir t r (childOf p s) then [r] else [] := fun r hr => by
        have hin : inr r 0 2 = true := by
          have := okLook_path hc.1
          unfold okPath at this
          simp only [Bool.and_eq_true, List.all_eq_true] at this
          exact this.1 r hr
        have hd : hasDir t r (childOf p s) = dirIn t r (childOf p s) := by
          unfold hasDir placed
          simp [okLook_tree hc.1, hin, vpk_iff.2 (.inr hn)]
        rw [hd]
        have hf := h1 r hr
        unfold rootSpc at hf ⊢
        split
        · rename_i g; rw [if_pos g] at hf; simp at hf; omega
        · rename_i g; rw [if_neg g] at hf
          split
          · rename_i g; rw [if_pos g] at hf; simp at hf; omega
          · rename_i g; rw [if_neg g] at hf
            split <;> simp_all [noSpc]
      have hfl : path.flatMap (fun r => (rootSpc t r (childOf p s)).roots) = path.filter (fun r => hasDir t r (childOf p s)) := by
        clear h1 h2 ec h
        have gen : ∀ l : List Int, (∀ r ∈ l, r ∈ path) → l.flatMap (fun r => (rootSpc t r (childOf p s)).roots) = l.filter (fun r => hasDir t r (childOf p s)) := by
          intro l
          induction l with
          | nil => intro _; rfl
          | cons x m ih =>
            intro hl
            rw [List.flatMap_cons, hroots x (hl x (by simp)), ih (fun r hr => hl r (by simp [hr])), List.filter_cons]
            cases hasDir t x (childOf p s) <;> simp
        exact gen path (fun r hr => hr)
      have e : overSpc t path (childOf p s) = _ := h2
      rw [List.nil_append, hfl] at e
      split at e
      · rw [e] at h; exact absurd h (by decide)
      · refine ⟨by rw [e], by rw [e], fun r hr => ?_⟩
        unfold findIn; split
        · exact overGo_none [] (fun x hx => by simp at hx; subst hx; exact h1 x hr)
        · rfl
    · have e : overSpc t path (childOf p s) = _ := h4
      rw [e] at h
      exfalso
      rcases rootSpc_ok t r (childOf p s) with g | g | g | g
      · rw [g] at h; exact absurd h (by decide)
      · omega
      · omega
      · exact h3 g.2.1

/-- P27. -/
theorem findSpec_step {t : List Fil} {path : List Int} {s : Bs} (hl : okLook t path = true) (hv : vn s = true) :
    (parentOf s = [] → findSpec t path s = findIn t path [] s) ∧
    (parentOf s ≠ [] → ((findSpec t path (parentOf s)).kind = 0 ∨ (findSpec t path (parentOf s)).kind = 1 → (findSpec t path s).kind = 0) ∧
      (¬ ((findSpec t path (parentOf s)).kind = 0 ∨ (findSpec t path (parentOf s)).kind = 1) → findSpec t path s = findIn t (findSpec t path (parentOf s)).roots (parentOf s) (lastOf s))) := by
  have ep := parentOf_of hv
  have el : lastOf s = last s := by unfold lastOf; rw [if_pos hv]
  have hs := byParts_step (t := t) (path := path) hv
  have f1 : ∀ x, findSpec t path x = byParts t path x := fun x => by unfold findSpec; rw [if_pos hl]
  have hcl := child_parent_last s hv
  have hco : childOf (parent s) (last s) = s := by
    have := (name_facts hv).2.1
    exact this
  rw [ep, el]
  simp only [f1]
  constructor
  · intro h0
    rw [hs, if_pos h0]
    rw [h0] at hco
    have : childOf [] s = s := by
      have : last s = s := by rw [h0] at hcl; simpa [child] using hcl
      rw [this] at hco; exact hco
    unfold findIn
    rw [hl, this]
    have : s.isEmpty = false := by simpa using vn_ne hv
    rw [this]; rfl
  · intro h0
    rw [if_neg h0] at hs
    have hok := byParts_ok t path (parent s)
    constructor
    · intro hk
      have : (byParts t path (parent s)).roots = [] := hok.roots (by omega) (by omega)
      rw [hs, this, overSpc_nil]; rfl
    · intro hk
      rw [hs]
      unfold findIn
      have hl2 : okLook t (byParts t path (parent s)).roots = true := okLook_sub hl (byParts_roots t path _)
      rw [hl2, hco]
      have : s.isEmpty = false := by simpa using vn_ne hv
      rw [this]; rfl

/-- P28. -/
theorem findSpec_file {t : List Fil} {path : List Int} {s : Bs} (h : (findSpec t path s).file ≠ -1) :
    ∃ f, t[((findSpec t path s).file).toNat]? = some f ∧ modOf f = s ∧ f.root ∈ path ∧ (f.init = true ↔ (findSpec t path s).kind = 2) := by
  have hk : (findSpec t path s).kind ≠ 0 := fun e => by rw [(findSpec_ok t path s).none e] at h; exact h rfl
  obtain ⟨hl, hv⟩ := findSpec_vn hk
  have f1 : findSpec t path s = byParts t path s := by unfold findSpec; rw [if_pos hl]
  have hs := byParts_step (t := t) (path := path) hv
  rw [f1] at h ⊢
  have hsub : (if parent s = [] then path else (byParts t path (parent s)).roots).Sublist path := by
    split
    · exact List.Sublist.refl _
    · exact byParts_roots t path _
  rw [hs] at h ⊢
  obtain ⟨a, r, b, f, h1, h2, h3, h4, h5, h6, h7⟩ := overSpc_hit hv h
  have hok := okTree_file (okLook_tree hl) (List.mem_of_getElem? h4)
  refine ⟨f, h4, by unfold modOf; rw [if_pos hok]; exact h6, ?_, h7⟩
  rw [h5]
  exact hsub.subset (by rw [h1]; simp)

theorem canFind_iff {t : List Fil} {path : List Int} {s : Bs} (hl : okLook t path = true) : canFind t path s = decide ((byParts t path s).kind ≠ 0) := by
  unfold canFind findSpec; rw [if_pos hl]
/-- P29. -/
theorem canFind_parent {t : List Fil} {path : List Int} {s : Bs} (h : canFind t path s = true) (h0 : parentOf s ≠ []) : canFind t path (parentOf s) = true ∧ isPack t path (parentOf s) = true := by
  have hk : (findSpec t path s).kind ≠ 0 := by unfold canFind at h; simpa using h
  obtain ⟨hl, hv⟩ := findSpec_vn hk
  rw [canFind_iff hl] at h
  simp only [decide_eq_true_eq] at h
  have ep := parentOf_of hv
  rw [ep] at h0 ⊢
  rw [byParts_step hv, if_neg h0] at h
  have hr : (byParts t path (parent s)).roots ≠ [] := fun e => by rw [e, overSpc_nil] at h; exact h rfl
  have hp := isPack_of hl hr
  refine ⟨?_, hp⟩
  rw [canFind_iff hl]
  simp only [decide_eq_true_eq]
  intro e
  rw [(byParts_ok t path (parent s)).none e] at hr
  exact hr rfl
theorem canFind_above {t : List Fil} {path : List Int} {s : Bs} (h : canFind t path s = true) : ∀ (d : Nat) (i : Nat) (hi : i < (namesAbove s).length), i + d + 1 = (namesAbove s).length →
    canFind t path (namesAbove s)[i] = true ∧ (0 < d → isPack t path (namesAbove s)[i] = true) := by
  have hk : (findSpec t path s).kind ≠ 0 := by unfold canFind at h; simpa using h
  have hv := (findSpec_vn hk).2
  have e : namesAbove s = above s := by unfold namesAbove; rw [if_pos hv]
  simp only [e]
  intro d
  induction d with
  | zero =>
    intro i hi hd
    have := above_last s (by omega)
    have h2 : (above s)[i] = s := by
      have : i = (above s).length - 1 := by omega
      subst this; exact above_last s _
    rw [h2]
    exact ⟨h, fun hh => absurd hh (by omega)⟩
  | succ d ih =>
    intro i hi hd
    obtain ⟨h1, _⟩ := ih (i + 1) (by omega) (by omega)
    have hp := above_parent hv (i + 1) (by omega) (by omega)
    simp only [Nat.add_sub_cancel] at hp
    have hne : (above s)[i] ≠ [] := vn_ne (above_vn hv _ (List.getElem_mem hi))
    have := canFind_parent h1 (by rw [hp]; exact hne)
    rw [hp] at this
    exact ⟨this.1, fun _ => this.2⟩

/-! ### Facts of trees that change: which files are kept by their places; a file that is turned. Nothing of the program stands here. -/
theorem keep_ne : ∀ (t : List Fil) (i : Nat) (h : i < t.length), (t.map place).Nodup → t.filter (fun f => decide (place f ≠ place t[i])) = t.eraseIdx i
  | [], _, h, _ => absurd h (by simp)
  | f :: r, 0, _, hn => by
    rw [List.map_cons, List.nodup_cons] at hn
    have h2 : r.filter (fun g => decide (place g ≠ place f)) = r := by
      rw [List.filter_eq_self]
      intro g hg
      rw [decide_eq_true_eq]
      exact fun e => hn.1 (List.mem_map.2 ⟨g, hg, e⟩)
    simp only [List.getElem_cons_zero, List.eraseIdx_cons_zero]
    rw [List.filter_cons_of_neg (by simp)]
    exact h2
  | f :: r, i + 1, h, hn => by
    rw [List.map_cons, List.nodup_cons] at hn
    have hi : i < r.length := by simpa using h
    have h2 : place f ≠ place r[i] := fun e => hn.1 (List.mem_map.2 ⟨r[i], List.getElem_mem hi, e.symm⟩)
    simp only [List.getElem_cons_succ, List.eraseIdx_cons_succ]
    rw [List.filter_cons_of_pos (by simpa using h2), keep_ne r i hi hn.2]
/-- The files whose places are in a list. -/
def keepIn (t : List Fil) (S : List Pl) : List Fil := t.filter (fun f => decide (place f ∈ S))
theorem keepIn_all (t : List Fil) (S : List Pl) (h : ∀ f ∈ t, place f ∈ S) : keepIn t S = t := by
  unfold keepIn; rw [List.filter_eq_self]; intro f hf; simpa using h f hf
theorem keepIn_erase {t : List Fil} (hn : (t.map place).Nodup) {i : Nat} (h : i < t.length) : keepIn t ((t.map place).erase (place t[i])) = t.eraseIdx i := by
  rw [← keep_ne t i h hn]
  unfold keepIn
  apply List.filter_congr
  intro f hf
  rw [decide_eq_decide, hn.mem_erase_iff]
  exact ⟨fun h => h.1, fun h => ⟨h, List.mem_map.2 ⟨f, hf, rfl⟩⟩⟩
theorem okFil_turned {f : Fil} (h : okFil f = true) (st : Int) (b : List Stm) : okFil (turned f st b) = (inr st 0 99 && okBody b) := by
  unfold okFil at h ⊢
  simp only [Bool.and_eq_true] at h
  obtain ⟨⟨⟨⟨h1, h2⟩, h3⟩, h4⟩, h5⟩ := h
  have e1 : inr (turned f st b).root 0 2 = true := h1
  have e3 : vpk (turned f st b).pack = true := h3
  have e5 : (if (turned f st b).init then !(turned f st b).pack.isEmpty && (turned f st b).name.isEmpty else vp (turned f st b).name && vn (child (turned f st b).pack (turned f st b).name)) = true := h5
  rw [e1, e3, e5]
  show (true && inr st 0 99 && true && okBody b && true) = _
  simp
theorem modify_places (t : List Fil) (i : Nat) (st : Int) (b : List Stm) : (t.modify i (fun f => turned f st b)).map place = t.map place := by
  induction t generalizing i with
  | nil => simp
  | cons f r ih =>
    cases i with
    | zero => simp; rfl
    | succ i => simp [ih]
theorem all_modify {t : List Fil} {i : Nat} (h : i < t.length) (ht : t.all okFil = true) (st : Int) (b : List Stm) : (t.modify i (fun f => turned f st b)).all okFil = (inr st 0 99 && okBody b) := by
  induction t generalizing i with
  | nil => simp at h
  | cons f r ih =>
    simp only [List.all_cons, Bool.and_eq_true] at ht
    cases i with
    | zero =>
      simp only [List.modify_zero_cons, List.all_cons, okFil_turned ht.1, ht.2, Bool.and_true]
    | succ i =>
      simp only [List.modify_succ_cons, List.all_cons, ht.1, Bool.true_and]
      exact ih (by simpa using h) ht.2
theorem okTree_modify {t : List Fil} (ht : okTree t = true) {i : Nat} (h : i < t.length) (st : Int) (b : List Stm) : okTree (t.modify i (fun f => turned f st b)) = (inr st 0 99 && okBody b) := by
  obtain ⟨h1, h2, h3⟩ := okTree_all ht
  unfold okTree
  rw [all_modify h h1, modify_places, List.length_modify]
  simp [h2, h3]
/-- The marks of a valid tree's files end soon. -/
theorem bodies_sum {t : List Fil} (h : t.all okFil = true) : (t.map (fun f => f.body.length)).sum ≤ 8 * t.length := by
  induction t with
  | nil => simp
  | cons f r ih =>
    simp only [List.all_cons, Bool.and_eq_true] at h
    have h1 := okFil_body h.1
    unfold okBody at h1
    simp only [Bool.and_eq_true, decide_eq_true_eq] at h1
    have := ih h.2
    simp only [List.map_cons, List.sum_cons, List.length_cons]
    omega
theorem addFil_fine (t : List Fil) (f : Fil) : (addFil t f).1.all okFil = true ∧ (addFil t f).1.length ≤ 12 := by
  unfold addFil; split
  · rename_i h
    simp only [Bool.and_eq_true] at h
    exact ⟨(okTree_all h.2).1, (okTree_all h.2).2.2⟩
  · simp
theorem remFil_fine (t : List Fil) (i : Int) : (remFil t i).1.all okFil = true ∧ (remFil t i).1.length ≤ 12 := by
  unfold remFil; split
  · rename_i h
    simp only [Bool.and_eq_true] at h
    have := okTree_erase h.1 i.toNat
    exact ⟨(okTree_all this).1, (okTree_all this).2.2⟩
  · simp
theorem edFil_fine (t : List Fil) (i st : Int) (b : List Stm) : (edFil t i st b).1.all okFil = true ∧ (edFil t i st b).1.length ≤ 12 := by
  unfold edFil; split
  · rename_i h
    simp only [Bool.and_eq_true] at h
    obtain ⟨⟨⟨h1, h2⟩, h3⟩, h4⟩ := h
    have h12 := (okTree_all h1).2.2
    have hi : i.toNat < t.length := by unfold inr at h2; simp only [Bool.and_eq_true, decide_eq_true_eq] at h2; omega
    have := okTree_modify h1 hi st b
    rw [h3, h4] at this
    exact ⟨(okTree_all this).1, (okTree_all this).2.2⟩
  · simp
end Go.Proofs.Ytgecemngfpgcoaa.Nm
