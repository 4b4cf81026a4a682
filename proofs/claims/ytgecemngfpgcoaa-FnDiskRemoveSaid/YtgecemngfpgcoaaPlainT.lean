/- Statements, files and trees as plain data: what is valid, and what the model's functions of chapter 2 answer. Nothing of the program stands here. -/
import Derived.Test.YtgecemngfpgcoaaPlain
import Derived.Lib.RowBridge
set_option linter.unusedVariables false
set_option linter.unusedSimpArgs false
namespace Go.Proofs.Ytgecemngfpgcoaa.Nm

/-- A statement. -/
structure Stm where
  kind : Int
  module : Bs
  level : Int
  name : Bs
  value : Int

theorem stm_ext {a b : Stm} (h1 : a.kind = b.kind) (h2 : a.module = b.module) (h3 : a.level = b.level) (h4 : a.name = b.name) (h5 : a.value = b.value) : a = b := by
  cases a; cases b; simp_all

instance : DecidableEq Stm := fun a b =>
  if h : a.kind = b.kind ∧ a.module = b.module ∧ a.level = b.level ∧ a.name = b.name ∧ a.value = b.value then
    isTrue (stm_ext h.1 h.2.1 h.2.2.1 h.2.2.2.1 h.2.2.2.2)
  else isFalse (fun e => h (by subst e; simp))

/-- A file. -/
structure Fil where
  root : Int
  pack : Bs
  name : Bs
  init : Bool
  stamp : Int
  body : List Stm

theorem fil_ext {a b : Fil} (h1 : a.root = b.root) (h2 : a.pack = b.pack) (h3 : a.name = b.name) (h4 : a.init = b.init) (h5 : a.stamp = b.stamp) (h6 : a.body = b.body) : a = b := by
  cases a; cases b; simp_all

instance : DecidableEq Fil := fun a b =>
  if h : a.root = b.root ∧ a.pack = b.pack ∧ a.name = b.name ∧ a.init = b.init ∧ a.stamp = b.stamp ∧ a.body = b.body then
    isTrue (fil_ext h.1 h.2.1 h.2.2.1 h.2.2.2.1 h.2.2.2.2.1 h.2.2.2.2.2)
  else isFalse (fun e => h (by subst e; simp))

def inr (n lo hi : Int) : Bool := decide (lo ≤ n) && decide (n ≤ hi)

/-- From where a name is taken. -/
def okSrc (m : Bs) (lv : Int) : Bool := inr lv 0 3 && vpk m && (!m.isEmpty || decide (0 < lv))
theorem beq_dec (a b : Int) : (a == b) = decide (a = b) := rfl
theorem vn_nil : vn [] = false := by decide
theorem vpk_nil : vpk [] = true := by decide
theorem vp_nil : vp [] = false := by decide
theorem source_vpk (m : Bs) (lv : Int) : (inr lv 0 3 && (vn m || m.isEmpty && decide (0 < lv))) = okSrc m lv := by
  cases m with
  | nil => simp [okSrc, vpk, vn_nil]
  | cons a b => simp [okSrc, vpk]

/-- A valid statement, by its kind. -/
def okStm (s : Stm) : Bool :=
  if s.kind = 0 then vn s.module && decide (s.level = 0) && s.name.isEmpty && decide (s.value = 0)
  else if s.kind = 1 then okSrc s.module s.level && vp s.name && decide (s.value = 0)
  else if s.kind = 2 then vn s.module && decide (s.level = 0) && s.name.isEmpty && decide (s.value = 0)
  else if s.kind = 3 then s.module.isEmpty && decide (s.level = 0) && vp s.name && inr s.value 0 99
  else if s.kind = 4 then s.module.isEmpty && decide (s.level = 0) && vp s.name && decide (s.value = 0)
  else if s.kind = 5 then s.module.isEmpty && decide (s.level = 0) && s.name.isEmpty && decide (s.value = 0)
  else false

def okBody (b : List Stm) : Bool := b.all okStm && decide (b.length ≤ 8)

/-- The module of a file, as it stands. -/
def modName (f : Fil) : Bs := if f.init then f.pack else child f.pack f.name

def okFil (f : Fil) : Bool :=
  inr f.root 0 2 && inr f.stamp 0 99 && vpk f.pack && okBody f.body &&
    (if f.init then !f.pack.isEmpty && f.name.isEmpty else vp f.name && vn (child f.pack f.name))

abbrev Pl := Int × Bs × Bs × Bool
/-- Where a file lies. -/
def place (f : Fil) : Pl := (f.root, f.pack, f.name, f.init)

def placesOf (t : List Fil) : List Pl := t.map place

def okTree (t : List Fil) : Bool := t.all okFil && decide (t.map place).Nodup && decide (t.length ≤ 12)

def modOf (f : Fil) : Bs := if okFil f then modName f else []

def addFil (t : List Fil) (f : Fil) : List Fil × Bool := if okTree t && okTree (t ++ [f]) then (t ++ [f], true) else ([], false)
def remFil (t : List Fil) (i : Int) : List Fil × Bool := if okTree t && inr i 0 ((t.length : Int) - 1) then (t.eraseIdx i.toNat, true) else ([], false)
/-- A file with another stamp and another body. -/
def turned (f : Fil) (stamp : Int) (body : List Stm) : Fil := { f with stamp := stamp, body := body }
def edFil (t : List Fil) (i : Int) (stamp : Int) (body : List Stm) : List Fil × Bool :=
  if okTree t && inr i 0 ((t.length : Int) - 1) && inr stamp 0 99 && okBody body then (t.modify i.toNat (fun f => turned f stamp body), true) else ([], false)

/-- A directory is there. -/
def dirIn (t : List Fil) (root : Int) (p : Bs) : Bool := t.any (fun f => decide (f.root = root) && !f.pack.isEmpty && under f.pack p) || p.isEmpty
def placed (t : List Fil) (root : Int) (p : Bs) : Bool := okTree t && inr root 0 2 && vpk p
def hasDir (t : List Fil) (root : Int) (p : Bs) : Bool := placed t root p && dirIn t root p

/-- Texts in order of their bytes. -/
def ltB : Bs → Bs → Bool
  | _, [] => false
  | [], _ :: _ => true
  | a :: s, b :: t => if a = b then ltB s t else decide (a.toNat < b.toNat)

/-- An ascending list with one more text. -/
def insTo : List Bs → Bs → List Bs
  | [], s => [s]
  | x :: r, s => if ltB x s then x :: insTo r s else if x = s then x :: r else s :: x :: r

def sortUp (xs : List Bs) : List Bs := xs.foldl insTo []

/-- The part behind a package of a name under it. -/
def firstBelow (s p : Bs) : Bs := (split (if p.isEmpty then s else s.drop (p.length + 1))).headD []

/-- What a directory has because of a file, "" if nothing. -/
def entry (f : Fil) (root : Int) (p : Bs) : Bs :=
  if f.root = root then
    if f.pack = p then (if f.init then [42] else f.name)
    else if !f.pack.isEmpty && under f.pack p then firstBelow f.pack p ++ [47] else []
  else []

def entries (t : List Fil) (root : Int) (p : Bs) : List Bs := (t.map (fun f => entry f root p)).filter (fun s => !s.isEmpty)
def listDir (t : List Fil) (root : Int) (p : Bs) : List Bs := if placed t root p then sortUp (entries t root p) else []

def mixed (n k : Int) : Int := (n * 131 + k + 1).tmod 1000003
def mixedText (n : Int) (s : Bs) : Int := mixed (s.foldl (fun n c => mixed n (c.toNat : Int)) n) 0
def hashStm (n : Int) (s : Stm) : Int := mixedText (mixedText (mixed (mixed (mixed n s.kind) s.level) s.value) s.module) s.name
def hashOf (b : List Stm) : Int := if okBody b then b.foldl hashStm 1 else -1

def modulesOf (t : List Fil) : List Bs := if okTree t then sortUp (t.map modName) else []
def packs (t : List Fil) : List Bs := t.flatMap (fun f => if f.pack.isEmpty then [] else above f.pack)
def packagesOf (t : List Fil) : List Bs := if okTree t then sortUp (packs t) else []

/-! ### Plain facts on files: the two ways to say that one is valid. -/
/-- The module that the package and the name of a file make, "" if none. -/
def modAt (f : Fil) : Bs := if f.init then (if f.name = [] then nameOr f.pack else []) else childOf f.pack f.name

theorem child_ne {p s : Bs} (hs : s ≠ []) : child p s ≠ [] := by
  unfold child; split
  · exact hs
  · simp

theorem okFil_eq (f : Fil) : okFil f = (inr f.root 0 2 && inr f.stamp 0 99 && !(modAt f).isEmpty && okBody f.body) := by
  obtain ⟨r, p, n, i, st, b⟩ := f
  have key : (vpk p && (if i then !p.isEmpty && n.isEmpty else vp n && vn (child p n))) = !(modAt ⟨r, p, n, i, st, b⟩).isEmpty := by
    cases i
    · simp only [Bool.false_eq_true, if_false, modAt, childOf]
      cases h1 : vpk p
      · simp
      · cases h2 : vp n
        · simp
        · cases h3 : vn (child p n)
          · simp
          · have := child_ne (p := p) (vp_ne h2)
            cases hc : child p n with
            | nil => exact absurd hc this
            | cons a b => simp
    · simp only [if_true, modAt]
      by_cases hn : n = []
      · subst hn
        cases p with
        | nil => simp [nameOr, vn_nil]
        | cons a b =>
          cases h : vn (a :: b)
          · simp [vpk, h, nameOr]
          · simp [vpk, h, nameOr]
      · have : n.isEmpty = false := by simpa using hn
        simp [hn, this]
  simp only [okFil]
  rw [← key]
  cases inr r 0 2 <;> cases inr st 0 99 <;> cases vpk p <;> cases okBody b <;> simp

theorem okFil_mod {f : Fil} (h : okFil f = true) : modAt f = modName f ∧ vn (modName f) = true := by
  rw [okFil_eq] at h
  simp only [Bool.and_eq_true, Bool.not_eq_true'] at h
  obtain ⟨⟨_, h⟩, _⟩ := h
  have hne : modAt f ≠ [] := by simpa using h
  unfold modAt modName at *
  cases hi : f.init
  · rw [hi] at hne
    simp only [Bool.false_eq_true, if_false] at hne ⊢
    unfold childOf at hne ⊢
    split at hne
    · rename_i hc
      simp only [Bool.and_eq_true] at hc
      simp [hc]
    · exact absurd rfl hne
  · rw [hi] at hne
    simp only [if_true] at hne ⊢
    split at hne
    · rename_i hc
      unfold nameOr at hne
      split at hne
      · rename_i hv; simp [hc, nameOr, hv]
      · exact absurd rfl hne
    · exact absurd rfl hne

theorem modOf_eq (f : Fil) : modOf f = if okFil f then modAt f else [] := by
  unfold modOf
  split
  · rename_i h; rw [(okFil_mod h).1]
  · rfl

theorem modName_len (f : Fil) : (modName f).length ≤ f.pack.length + f.name.length + 1 := by
  unfold modName
  split
  · omega
  · exact child_len _ _

theorem okFil_pack {f : Fil} (h : okFil f = true) : vpk f.pack = true := by
  unfold okFil at h; simp only [Bool.and_eq_true] at h; exact h.1.1.2
theorem okFil_body {f : Fil} (h : okFil f = true) : okBody f.body = true := by
  unfold okFil at h; simp only [Bool.and_eq_true] at h; exact h.1.2

def firstFrom : List Fil → Pl → Nat → Int
  | [], _, _ => -1
  | f :: r, p, k => if place f = p then (k : Int) else firstFrom r p (k + 1)
/-- The index of the first file at a place, -1 if there is none. -/
def firstAt (fs : List Fil) (p : Pl) : Int := firstFrom fs p 0
theorem firstFrom_is (fs : List Fil) (p : Pl) (k : Nat) : (firstFrom fs p k = -1 ∧ ∀ j (h : j < fs.length), place fs[j] ≠ p) ∨
    ∃ j, ∃ h : j < fs.length, firstFrom fs p k = ((k + j : Nat) : Int) ∧ place fs[j] = p ∧ ∀ i (hi : i < fs.length), i < j → place fs[i] ≠ p := by
  induction fs generalizing k with
  | nil => exact .inl ⟨rfl, fun j h => absurd h (by simp)⟩
  | cons f r ih =>
    unfold firstFrom
    by_cases e : place f = p
    · rw [if_pos e]
      exact .inr ⟨0, by simp, by simp, by simpa using e, fun i _ h => absurd h (by omega)⟩
    · rw [if_neg e]
      rcases ih (k + 1) with ⟨h1, h2⟩ | ⟨j, hj, h1, h2, h3⟩
      · refine .inl ⟨h1, fun j hj => ?_⟩
        cases j with
        | zero => simpa using e
        | succ j => simpa using h2 j (by simpa using hj)
      · refine .inr ⟨j + 1, by simpa using hj, by rw [h1]; omega, by simpa using h2, fun i hi hij => ?_⟩
        cases i with
        | zero => simpa using e
        | succ i => simpa using h3 i (by simpa using hi) (by omega)
theorem firstAt_yes (fs : List Fil) (k : Nat) (h : k < fs.length) (p : Pl) (hn : ∀ j (hj : j < fs.length), j < k → place fs[j] ≠ p) (hy : place fs[k] = p) : firstAt fs p = (k : Int) := by
  rcases firstFrom_is fs p 0 with ⟨h1, h2⟩ | ⟨j, hj, h1, h2, h3⟩
  · exact absurd hy (h2 k h)
  · rcases Nat.lt_trichotomy j k with e | e | e
    · exact absurd h2 (hn j hj e)
    · subst e; unfold firstAt; rw [h1]; simp
    · exact absurd hy (h3 k h e)
theorem firstAt_no (fs : List Fil) (p : Pl) (hn : ∀ j (hj : j < fs.length), place fs[j] ≠ p) : firstAt fs p = -1 := by
  rcases firstFrom_is fs p 0 with ⟨h1, h2⟩ | ⟨j, hj, h1, h2, h3⟩
  · exact h1
  · exact absurd h2 (hn j hj)
/-- A file has another one ahead of it at its place. -/
theorem firstAt_lt (fs : List Fil) (k : Nat) (h : k < fs.length) : (firstAt fs (place fs[k]) < (k : Int)) ↔ ∃ j, ∃ hj : j < fs.length, j < k ∧ place fs[j] = place fs[k] := by
  rcases firstFrom_is fs (place fs[k]) 0 with ⟨h1, h2⟩ | ⟨j, hj, h1, h2, h3⟩
  · exact absurd rfl (h2 k h)
  · unfold firstAt
    rw [h1]
    constructor
    · intro h4; exact ⟨j, hj, by omega, h2⟩
    · rintro ⟨i, hi, h4, h5⟩
      rcases Nat.lt_or_ge i j with e | e
      · exact absurd h5 (h3 i hi e)
      · omega

/-! ### Plain facts on directories: what lies below a package, and what a listing tells. -/
/-- A file lies in the directory of a package, or below it. -/
def isBelow (root : Int) (p : Bs) (f : Fil) : Bool := decide (f.root = root) && (decide (f.pack = p) || isUnder f.pack p)
def belowFils (fs : List Fil) (root : Int) (p : Bs) : List Fil := fs.filter (isBelow root p)

theorem okTree_all {fs : List Fil} (h : okTree fs = true) : fs.all okFil = true ∧ (fs.map place).Nodup ∧ fs.length ≤ 12 := by
  simp only [okTree, Bool.and_eq_true, decide_eq_true_eq] at h
  exact ⟨h.1.1, h.1.2, h.2⟩

theorem isUnder_vpk {s p : Bs} (hs : vpk s = true) (hp : vpk p = true) : isUnder s p = (!s.isEmpty && under s p) := by
  unfold isUnder
  cases hs' : s.isEmpty
  · have h0 : s ≠ [] := by simpa using hs'
    simp [vn_of_vpk hs h0, hp]
  · have h0 : s = [] := by simpa using hs'
    subst h0
    simp [vn_nil]

theorem isBelow_dir {f : Fil} {root : Int} {p : Bs} (hf : okFil f = true) (hp : vpk p = true) (h0 : p ≠ []) :
    isBelow root p f = (decide (f.root = root) && !f.pack.isEmpty && under f.pack p) := by
  unfold isBelow
  rw [isUnder_vpk (okFil_pack hf) hp]
  by_cases he : f.pack = p
  · have h1 : f.pack.isEmpty = false := by rw [he]; simpa using h0
    have h2 : under f.pack p = true := by rw [he]; exact under_self
    simp [he, h1, h2]
    rw [he] at h2
    simp [h0, h2]
  · simp [he, Bool.and_assoc]

theorem dirIn_eq {fs : List Fil} {root : Int} {p : Bs} (ht : okTree fs = true) (hp : vpk p = true) :
    dirIn fs root p = (p.isEmpty || decide (0 < (belowFils fs root p).length)) := by
  by_cases h0 : p = []
  · subst h0; simp [dirIn]
  · have hall := (okTree_all ht).1
    have e : fs.any (fun f => decide (f.root = root) && !f.pack.isEmpty && under f.pack p) = fs.any (isBelow root p) := by
      rw [Bool.eq_iff_iff, List.any_eq_true, List.any_eq_true]
      constructor
      · rintro ⟨f, hf, h⟩
        exact ⟨f, hf, by rw [isBelow_dir (List.all_eq_true.1 hall f hf) hp h0]; exact h⟩
      · rintro ⟨f, hf, h⟩
        exact ⟨f, hf, by rw [isBelow_dir (List.all_eq_true.1 hall f hf) hp h0] at h; exact h⟩
    have h1 : p.isEmpty = false := by simpa using h0
    unfold dirIn
    rw [e, h1, Bool.or_false, Bool.false_or, Bool.eq_iff_iff, List.any_eq_true, decide_eq_true_eq, List.length_pos_iff_exists_mem]
    unfold belowFils
    constructor
    · rintro ⟨f, hf, h⟩; exact ⟨f, List.mem_filter.2 ⟨hf, h⟩⟩
    · rintro ⟨f, hf⟩; exact ⟨f, (List.mem_filter.1 hf).1, (List.mem_filter.1 hf).2⟩

theorem filter_snoc {α : Type} (q : α → Bool) (xs : List α) (k : Nat) (h : k < xs.length) : (xs.take (k + 1)).filter q = (xs.take k).filter q ++ (if q xs[k] then [xs[k]] else []) := by
  rw [List.take_succ_eq_append_getElem h, List.filter_append]
  congr 1
  cases hq : q xs[k] <;> simp [hq]
theorem any_snoc {α : Type} (q : α → Bool) (xs : List α) (k : Nat) (h : k < xs.length) : (xs.take (k + 1)).any q = ((xs.take k).any q || q xs[k]) := by
  rw [List.take_succ_eq_append_getElem h, List.any_append]; simp

/-! ### Plain facts of ascending lists: a sorted and compacted list is the one that is made by putting in each text at its place. -/
theorem ltB_iff : ∀ (a b : Bs), ltB a b = true ↔ a < b
  | [], [] => by simp [ltB]
  | _ :: _, [] => by simp [ltB]
  | [], _ :: _ => by simp [ltB]
  | a :: s, b :: t => by
    rw [List.cons_lt_cons_iff, ltB]
    by_cases h : a = b
    · subst h
      rw [if_pos rfl, ltB_iff s t]
      constructor
      · exact fun h => .inr ⟨rfl, h⟩
      · rintro (h | ⟨_, h⟩)
        · exact absurd h (UInt8.lt_irrefl a)
        · exact h
    · rw [if_neg h]
      simp [h, UInt8.lt_iff_toNat_lt]
theorem leB_iff (a b : Bs) : decide (a ≤ b) = !ltB b a := by
  by_cases h : b < a
  · rw [(ltB_iff b a).2 h]
    exact decide_eq_false (fun h' => List.not_lt.2 h' h)
  · have : ltB b a = false := by cases hb : ltB b a with | false => rfl | true => exact absurd ((ltB_iff b a).1 hb) h
    rw [this]
    exact decide_eq_true (List.not_lt.1 h)

theorem ltB_irr : ∀ (a : Bs), ltB a a = false
  | [] => rfl
  | a :: s => by rw [ltB, if_pos rfl, ltB_irr s]
theorem ltB_tr : ∀ {a b c : Bs}, ltB a b = true → ltB b c = true → ltB a c = true
  | _, _, [], _, h => by cases h' : ‹Bs› <;> simp_all [ltB]
  | _, [], _ :: _, h, _ => by cases h' : ‹Bs› <;> simp_all [ltB]
  | [], _ :: _, _ :: _, _, _ => rfl
  | a :: s, b :: t, c :: u, h1, h2 => by
    rw [ltB] at h1 h2 ⊢
    by_cases e1 : a = b
    · subst e1
      rw [if_pos rfl] at h1
      by_cases e2 : a = c
      · subst e2; rw [if_pos rfl] at h2 ⊢; exact ltB_tr h1 h2
      · rw [if_neg e2] at h2 ⊢; exact h2
    · rw [if_neg e1] at h1
      by_cases e2 : b = c
      · subst e2; rw [if_neg e1]; exact h1
      · rw [if_neg e2] at h2
        simp only [decide_eq_true_eq] at h1 h2
        rw [if_neg (fun e => by subst e; omega)]
        simp only [decide_eq_true_eq]; omega
theorem ltB_tri : ∀ (a b : Bs), ltB a b = false → a ≠ b → ltB b a = true
  | [], [], _, h => absurd rfl h
  | [], _ :: _, h, _ => by simp [ltB] at h
  | _ :: _, [], _, _ => rfl
  | a :: s, b :: t, h, hne => by
    rw [ltB] at h ⊢
    by_cases e : a = b
    · subst e
      rw [if_pos rfl] at h ⊢
      exact ltB_tri s t h (fun e => hne (by rw [e]))
    · rw [if_neg e] at h
      rw [if_neg (Ne.symm e)]
      simp only [decide_eq_false_iff_not, decide_eq_true_eq] at h ⊢
      have : a.toNat ≠ b.toNat := fun e1 => e (UInt8.toNat_inj.1 e1)
      omega

/-- Strictly ascending. -/
def Up (l : List Bs) : Prop := l.Pairwise (fun a b => ltB a b = true)
theorem up_ext : ∀ {l m : List Bs}, Up l → Up m → (∀ x, x ∈ l ↔ x ∈ m) → l = m
  | [], [], _, _, _ => rfl
  | [], y :: m, _, _, h => absurd ((h y).2 (by simp)) (by simp)
  | x :: l, [], _, _, h => absurd ((h x).1 (by simp)) (by simp)
  | x :: l, y :: m, h1, h2, h => by
    obtain ⟨hx, hl⟩ := List.pairwise_cons.1 h1
    obtain ⟨hy, hm⟩ := List.pairwise_cons.1 h2
    have hxy : x = y := by
      rcases List.mem_cons.1 ((h x).1 (by simp)) with e | e
      · exact e
      · rcases List.mem_cons.1 ((h y).2 (by simp)) with e' | e'
        · exact e'.symm
        · have := ltB_tr (hx y e') (hy x e)
          rw [ltB_irr] at this; cases this
    subst hxy
    rw [up_ext hl hm (fun z => ⟨fun hz => by
      rcases List.mem_cons.1 ((h z).1 (List.mem_cons_of_mem _ hz)) with e | e
      · subst e; have := hx _ hz; rw [ltB_irr] at this; cases this
      · exact e, fun hz => by
      rcases List.mem_cons.1 ((h z).2 (List.mem_cons_of_mem _ hz)) with e | e
      · subst e; have := hy _ hz; rw [ltB_irr] at this; cases this
      · exact e⟩)]

theorem insTo_mem (s x : Bs) : ∀ (l : List Bs), x ∈ insTo l s ↔ x ∈ l ∨ x = s
  | [] => by simp [insTo]
  | y :: r => by
    rw [insTo]
    by_cases h : ltB y s = true
    · rw [if_pos h, List.mem_cons, insTo_mem s x r, List.mem_cons, or_assoc]
    · rw [if_neg h]
      by_cases e : y = s
      · rw [if_pos e]; subst e
        exact ⟨.inl, fun h => h.elim id (fun e => by subst e; exact List.mem_cons_self ..)⟩
      · rw [if_neg e, List.mem_cons]
        exact ⟨Or.symm, Or.symm⟩
theorem insTo_up (s : Bs) : ∀ {l : List Bs}, Up l → Up (insTo l s)
  | [], _ => List.pairwise_singleton _ _
  | y :: r, h => by
    obtain ⟨hy, hr⟩ := List.pairwise_cons.1 h
    rw [insTo]
    by_cases h1 : ltB y s = true
    · rw [if_pos h1]
      refine List.pairwise_cons.2 ⟨fun z hz => ?_, insTo_up s hr⟩
      rcases (insTo_mem s z r).1 hz with e | e
      · exact hy z e
      · subst e; exact h1
    · rw [if_neg h1]
      by_cases e : y = s
      · rw [if_pos e]; exact h
      · rw [if_neg e]
        have hsy := ltB_tri y s (by cases hb : ltB y s with | false => rfl | true => exact absurd hb h1) e
        refine List.pairwise_cons.2 ⟨fun z hz => ?_, h⟩
        rcases List.mem_cons.1 hz with e' | e'
        · subst e'; exact hsy
        · exact ltB_tr hsy (hy z e')
theorem foldIns_mem (x : Bs) : ∀ (xs l : List Bs), x ∈ xs.foldl insTo l ↔ x ∈ l ∨ x ∈ xs
  | [], l => by simp
  | y :: r, l => by rw [List.foldl_cons, foldIns_mem x r, insTo_mem, List.mem_cons, or_assoc]
theorem foldIns_up : ∀ (xs : List Bs) {l : List Bs}, Up l → Up (xs.foldl insTo l)
  | [], _, h => h
  | y :: r, _, h => foldIns_up r (insTo_up y h)
theorem sortUp_mem (x : Bs) (xs : List Bs) : x ∈ sortUp xs ↔ x ∈ xs := by rw [sortUp, foldIns_mem]; simp
theorem sortUp_up (xs : List Bs) : Up (sortUp xs) := foldIns_up xs List.Pairwise.nil

def asc (xs : List Bs) : List Bs := Lib.compact (xs.mergeSort fun x y => decide (x ≤ y))

theorem get!_eq (zs : List Bs) (j : Nat) (h : j < zs.length) : zs.toArray[j]! = zs[j] := by simp [h]
theorem compact_mem (x : Bs) (zs : List Bs) : x ∈ Lib.compact zs ↔ x ∈ zs := by
  rw [Lib.compact, Lib.compactUpTo, List.mem_map]
  constructor
  · rintro ⟨j, hj, rfl⟩
    have hj' : j < zs.length := List.mem_range.1 (List.mem_filter.1 hj).1
    rw [get!_eq zs j hj']
    exact List.getElem_mem hj'
  · intro h
    obtain ⟨j, hj, rfl⟩ := List.mem_iff_getElem.1 h
    clear h
    induction j with
    | zero => exact ⟨0, List.mem_filter.2 ⟨List.mem_range.2 hj, by simp [Lib.keeps]⟩, get!_eq zs 0 hj⟩
    | succ j ih =>
      by_cases hk : zs[j + 1] = zs[j]
      · rw [hk]; exact ih (by omega)
      · refine ⟨j + 1, List.mem_filter.2 ⟨List.mem_range.2 hj, ?_⟩, get!_eq zs (j + 1) hj⟩
        rw [Lib.keeps, get!_eq zs (j + 1) hj, show j + 1 - 1 = j by omega, get!_eq zs j (by omega)]
        simp [hk]
theorem compact_up {zs : List Bs} (h : zs.Pairwise (fun a b => (!ltB b a) = true)) : Up (Lib.compact zs) := by
  rw [Lib.compact, Lib.compactUpTo, Up, List.pairwise_map, List.pairwise_filter]
  have hle := List.pairwise_iff_getElem.1 h
  refine List.pairwise_iff_getElem.2 (fun i j hi hj hij => ?_)
  simp only [List.length_range] at hi hj
  rw [List.getElem_range, List.getElem_range]
  intro _ hk
  rw [Lib.keeps, get!_eq zs j hj, get!_eq zs (j - 1) (by omega)] at hk
  rw [get!_eq zs i hi, get!_eq zs j hj]
  have hne : zs[j - 1] ≠ zs[j] := fun e => by
    simp only [decide_eq_true_eq] at hk
    rcases hk with hk | hk
    · omega
    · exact hk e.symm
  have h1 : ltB zs[j] zs[j - 1] = false := by simpa using hle (j - 1) j (by omega) hj (by omega)
  have h2 := ltB_tri _ _ h1 (Ne.symm hne)
  by_cases e : i = j - 1
  · subst e; exact h2
  · have h3 : ltB zs[j - 1] zs[i] = false := by simpa using hle i (j - 1) hi (by omega) (by omega)
    by_cases e1 : zs[i] = zs[j - 1]
    · rw [e1]; exact h2
    · exact ltB_tr (ltB_tri _ _ h3 (Ne.symm e1)) h2
theorem asc_eq (xs : List Bs) : asc xs = sortUp xs := by
  refine up_ext (compact_up ?_) (sortUp_up xs) (fun x => ?_)
  · have := List.pairwise_mergeSort (le := fun x y : Bs => decide (x ≤ y)) (fun a b c h1 h2 => by
      rw [leB_iff] at *
      simp only [Bool.not_eq_true'] at *
      cases h : ltB c a with
      | false => rfl
      | true =>
        exfalso
        by_cases e : b = a
        · subst e; rw [h] at h2; cases h2
        · have := ltB_tr h (ltB_tri b a h1 e); rw [this] at h2; cases h2) (fun a b => by
      rw [leB_iff, leB_iff]
      cases h : ltB b a with
      | false => rfl
      | true =>
        cases h' : ltB a b with
        | false => rfl
        | true => have := ltB_tr h h'; rw [ltB_irr] at this; cases this) xs
    exact this.imp (fun h => by rw [leB_iff] at h; exact h)
  · rw [asc, compact_mem, List.mem_mergeSort, sortUp_mem]
theorem insTo_len (s : Bs) : ∀ (l : List Bs), (insTo l s).length ≤ l.length + 1
  | [] => by simp [insTo]
  | x :: r => by
    rw [insTo]
    split
    · have := insTo_len s r; simp; omega
    · split <;> simp
theorem foldIns_len : ∀ (xs l : List Bs), (xs.foldl insTo l).length ≤ l.length + xs.length
  | [], l => by simp
  | x :: r, l => by have := foldIns_len r (insTo l x); have := insTo_len x l; simp only [List.foldl_cons, List.length_cons]; omega
theorem sortUp_len (xs : List Bs) : (sortUp xs).length ≤ xs.length := by have := foldIns_len xs []; simpa [sortUp] using this
theorem sortUp_snoc (xs : List Bs) (x : Bs) : sortUp (xs ++ [x]) = insTo (sortUp xs) x := by simp [sortUp]


theorem bytesLess_eq : ∀ (a b : Bs), Op.bytesLess a b = ltB a b
  | [], [] => rfl
  | _ :: _, [] => rfl
  | [], _ :: _ => rfl
  | a :: s, b :: t => by
    rw [Op.bytesLess, ltB, bytesLess_eq s t]
    by_cases h : a = b
    · subst h; simp [UInt8.lt_irrefl]
    · simp [h, UInt8.lt_iff_toNat_lt]
theorem gt_eq (a b : Bs) : (!(Op.bytesLess a b || a == b)) = ltB b a := by
  rw [bytesLess_eq]
  cases h : ltB a b with
  | true =>
    simp only [Bool.true_or, Bool.not_true]
    cases h' : ltB b a with
    | false => rfl
    | true => have := ltB_tr h h'; rw [ltB_irr] at this; cases this
  | false =>
    by_cases e : a = b
    · subst e; simp [ltB_irr]
    · rw [ltB_tri a b h e]; simp [e]

theorem insTo_in {s : Bs} : ∀ {l : List Bs}, Up l → s ∈ l → insTo l s = l
  | [], _, h => absurd h (by simp)
  | x :: r, hu, h => by
    obtain ⟨hx, hr⟩ := List.pairwise_cons.1 hu
    rw [insTo]
    rcases List.mem_cons.1 h with e | e
    · subst e; rw [ltB_irr]; simp
    · rw [if_pos (hx s e), insTo_in hr e]
theorem insTo_at {s : Bs} : ∀ {l : List Bs} (i : Nat), Up l → s ∉ l → (∀ j (h : j < l.length), i ≤ j → ltB s l[j] = true) → (∀ h : i - 1 < l.length, 0 < i → ltB s l[i - 1] = false) → i ≤ l.length →
    insTo l s = l.take i ++ s :: l.drop i
  | [], i, _, _, _, _, hi => by simp at hi; subst hi; rfl
  | x :: r, 0, hu, hn, ha, _, _ => by
    have h0 := ha 0 (by simp) (by omega)
    rw [List.getElem_cons_zero] at h0
    have : ltB x s = false := by
      cases h : ltB x s with
      | false => rfl
      | true => have := ltB_tr h h0; rw [ltB_irr] at this; cases this
    rw [insTo, this, if_neg (by simp), if_neg (fun e => hn (by subst e; exact List.mem_cons_self ..))]
    rfl
  | x :: r, i + 1, hu, hn, ha, hb, hi => by
    obtain ⟨hx, hr⟩ := List.pairwise_cons.1 hu
    have hnr : s ∉ r := fun h => hn (List.mem_cons_of_mem _ h)
    have hne : x ≠ s := fun e => hn (by subst e; exact List.mem_cons_self ..)
    have hlt : ltB x s = true := by
      have hb' := hb (by simp at hi ⊢; omega) (by omega)
      simp only [Nat.add_sub_cancel] at hb'
      cases i with
      | zero => rw [List.getElem_cons_zero] at hb'; exact ltB_tri s x hb' (Ne.symm hne)
      | succ k =>
        rw [List.getElem_cons_succ] at hb'
        have hk : k < r.length := by simp at hi; omega
        have h1 : ltB r[k] s = true := ltB_tri s r[k] hb' (fun e => hnr (by rw [e]; exact List.getElem_mem hk))
        exact ltB_tr (hx _ (List.getElem_mem hk)) h1
    rw [insTo, if_pos hlt, insTo_at i hr hnr (fun j h hij => by have := ha (j + 1) (by simp; omega) (by omega); rwa [List.getElem_cons_succ] at this) (fun h h0 => by
      have := hb (by simp at h ⊢; omega) (by omega)
      simp only [Nat.add_sub_cancel] at this
      cases i with
      | zero => omega
      | succ k => rw [List.getElem_cons_succ] at this; exact this) (by simp at hi; omega)]
    rfl

/-! ### Plain facts on what a directory has. -/
theorem first_of {s p : Bs} (hs : vn s = true) (hp : vpk p = true) (hu : under s p = true) (hne : s ≠ p) : (parts s)[(parts p).length]? = some (firstBelow s p) := by
  rw [parts_of hs, firstBelow]
  have hpos := split_pos s
  by_cases h0 : p = []
  · subst h0
    rw [parts_not vn_nil]
    cases h : split s with
    | nil => rw [h] at hpos; simp at hpos
    | cons a b => simp [h]
  · have hpe : p.isEmpty = false := by cases p with | nil => exact absurd rfl h0 | cons a b => rfl
    rcases under_shape hu h0 with rfl | ⟨r, rfl⟩
    · exact absurd rfl hne
    · rw [parts_of (vn_of_vpk hp h0), split_append, hpe]
      have hr := split_pos r
      have hd : (p ++ 46 :: r).drop (p.length + 1) = r := by
        rw [List.drop_append]; simp
      rw [if_neg (by simp), hd, List.getElem?_append_right (Nat.le_refl _), Nat.sub_self]
      cases h : split r with
      | nil => rw [h] at hr; simp at hr
      | cons a b => rfl

/-- What a directory has because of a file below it. -/
def entryAt (p : Bs) (f : Fil) : Bs := if f.pack = p then (if f.init then [42] else f.name) else firstBelow f.pack p ++ [47]

theorem okFil_name {f : Fil} (h : okFil f = true) (hi : f.init = false) : f.name ≠ [] := by
  intro e
  simp only [okFil, Bool.and_eq_true, hi, Bool.false_eq_true, if_false] at h
  have := h.2.1
  rw [e] at this
  exact absurd this (by decide)
theorem entry_below {f : Fil} {root : Int} {p : Bs} (hf : okFil f = true) (hp : vpk p = true) : entry f root p = if isBelow root p f then entryAt p f else [] := by
  unfold entry isBelow entryAt
  rw [isUnder_vpk (okFil_pack hf) hp]
  by_cases h1 : f.root = root
  · rw [if_pos h1]
    by_cases h2 : f.pack = p
    · rw [if_pos h2, if_pos h2]
      simp [h1, h2]
    · rw [if_neg h2, if_neg h2]
      simp [h1, h2]
  · rw [if_neg h1]
    simp [h1]
theorem entryAt_ne {f : Fil} (p : Bs) (hf : okFil f = true) : entryAt p f ≠ [] := by
  unfold entryAt
  split
  · cases hi : f.init with
    | true => simp
    | false => simpa using okFil_name hf hi
  · simp
theorem entries_eq (root : Int) (p : Bs) (hp : vpk p = true) : ∀ (fs : List Fil), fs.all okFil = true → entries fs root p = (belowFils fs root p).map (entryAt p)
  | [], _ => rfl
  | f :: r, h => by
    simp only [List.all_cons, Bool.and_eq_true] at h
    have ih := entries_eq root p hp r h.2
    unfold entries belowFils at *
    rw [List.map_cons, entry_below h.1 hp, List.filter_cons (p := fun s : Bs => !s.isEmpty)]
    have hne : (!(entryAt p f).isEmpty) = true := by simpa using entryAt_ne p h.1
    cases hb : isBelow root p f with
    | true =>
      rw [if_pos rfl, if_pos hne, List.filter_cons, if_pos hb, List.map_cons, ih]
    | false =>
      rw [if_neg Bool.false_ne_true, if_neg (by simp), List.filter_cons, if_neg (by rw [hb]; exact Bool.false_ne_true)]
      exact ih
theorem belowFils_len (fs : List Fil) (root : Int) (p : Bs) : (belowFils fs root p).length ≤ fs.length := List.length_filter_le _ _
theorem placed_at {t : List Fil} {root : Int} {p : Bs} (h : placed t root p = true) : okTree t = true ∧ vpk p = true := by
  simp only [placed, Bool.and_eq_true] at h
  exact ⟨h.1.1, h.2⟩
theorem listDir_at {t : List Fil} {root : Int} {p : Bs} (h : placed t root p = true) : sortUp ((belowFils t root p).map (entryAt p)) = listDir t root p := by
  rw [listDir, if_pos h, entries_eq root p (placed_at h).2 t (okTree_all (placed_at h).1).1]
theorem listDir_no {t : List Fil} {root : Int} {p : Bs} (h : placed t root p = false) : listDir t root p = [] := by rw [listDir, h]; rfl
end Go.Proofs.Ytgecemngfpgcoaa.Nm
