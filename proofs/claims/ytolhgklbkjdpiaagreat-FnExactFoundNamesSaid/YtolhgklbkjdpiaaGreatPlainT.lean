/- Statements, files and trees as plain data: what is valid, and what the model's functions of chapter 2 answer. Nothing of the program stands here. -/
import Derived.Test.YtolhgklbkjdpiaaGreatPlain
set_option linter.unusedVariables false
set_option linter.unusedSimpArgs false
namespace Go.Proofs.YtolhgklbkjdpiaaGreat.Nm

/-- A statement. -/
structure Stm where
  kind : Int
  module : Bs
  level : Int
  name : Bs
  value : Int

theorem stm_ext {a b : Stm} (h1 : a.kind = b.kind) (h2 : a.module = b.module) (h3 : a.level = b.level) (h4 : a.name = b.name) (h5 : a.value = b.value) : a = b := by
  cases a; cases b; simp_all

instance : DecidableEq Stm := fun a b =>
  if h : a.kind = b.kind ∧ a.module = b.module ∧ a.level = b.level ∧ a.name = b.name ∧ a.value = b.value then
    isTrue (stm_ext h.1 h.2.1 h.2.2.1 h.2.2.2.1 h.2.2.2.2)
  else isFalse (fun e => h (by subst e; simp))

/-- A file. -/
structure Fil where
  root : Int
  pack : Bs
  name : Bs
  init : Bool
  stamp : Int
  body : List Stm

theorem fil_ext {a b : Fil} (h1 : a.root = b.root) (h2 : a.pack = b.pack) (h3 : a.name = b.name) (h4 : a.init = b.init) (h5 : a.stamp = b.stamp) (h6 : a.body = b.body) : a = b := by
  cases a; cases b; simp_all

instance : DecidableEq Fil := fun a b =>
  if h : a.root = b.root ∧ a.pack = b.pack ∧ a.name = b.name ∧ a.init = b.init ∧ a.stamp = b.stamp ∧ a.body = b.body then
    isTrue (fil_ext h.1 h.2.1 h.2.2.1 h.2.2.2.1 h.2.2.2.2.1 h.2.2.2.2.2)
  else isFalse (fun e => h (by subst e; simp))

def inr (n lo hi : Int) : Bool := decide (lo ≤ n) && decide (n ≤ hi)

/-- From where a name is taken. -/
def okSrc (m : Bs) (lv : Int) : Bool := inr lv 0 3 && vpk m && (!m.isEmpty || decide (0 < lv))
theorem beq_dec (a b : Int) : (a == b) = decide (a = b) := rfl
theorem vn_nil : vn [] = false := by decide
theorem vpk_nil : vpk [] = true := by decide
theorem vp_nil : vp [] = false := by decide
theorem source_vpk (m : Bs) (lv : Int) : (inr lv 0 3 && (vn m || m.isEmpty && decide (0 < lv))) = okSrc m lv := by
  cases m with
  | nil => simp [okSrc, vpk, vn_nil]
  | cons a b => simp [okSrc, vpk]

/-- A valid statement, by its kind. -/
def okStm (s : Stm) : Bool :=
  if s.kind = 0 then vn s.module && decide (s.level = 0) && s.name.isEmpty && decide (s.value = 0)
  else if s.kind = 1 then okSrc s.module s.level && vp s.name && decide (s.value = 0)
  else if s.kind = 2 then vn s.module && decide (s.level = 0) && s.name.isEmpty && decide (s.value = 0)
  else if s.kind = 3 then s.module.isEmpty && decide (s.level = 0) && vp s.name && inr s.value 0 99
  else if s.kind = 4 then s.module.isEmpty && decide (s.level = 0) && vp s.name && decide (s.value = 0)
  else if s.kind = 5 then s.module.isEmpty && decide (s.level = 0) && s.name.isEmpty && decide (s.value = 0)
  else false

def okBody (b : List Stm) : Bool := b.all okStm && decide (b.length ≤ 8)

/-- The module of a file, as it stands. -/
def modName (f : Fil) : Bs := if f.init then f.pack else child f.pack f.name

def okFil (f : Fil) : Bool :=
  inr f.root 0 2 && inr f.stamp 0 99 && vpk f.pack && okBody f.body &&
    (if f.init then !f.pack.isEmpty && f.name.isEmpty else vp f.name && vn (child f.pack f.name))

abbrev Pl := Int × Bs × Bs × Bool
/-- Where a file lies. -/
def place (f : Fil) : Pl := (f.root, f.pack, f.name, f.init)

def placesOf (t : List Fil) : List Pl := t.map place

def okTree (t : List Fil) : Bool := t.all okFil && decide (t.map place).Nodup && decide (t.length ≤ 12)

def modOf (f : Fil) : Bs := if okFil f then modName f else []

def addFil (t : List Fil) (f : Fil) : List Fil × Bool := if okTree t && okTree (t ++ [f]) then (t ++ [f], true) else ([], false)
def remFil (t : List Fil) (i : Int) : List Fil × Bool := if okTree t && inr i 0 ((t.length : Int) - 1) then (t.eraseIdx i.toNat, true) else ([], false)
/-- A file with another stamp and another body. -/
def turned (f : Fil) (stamp : Int) (body : List Stm) : Fil := { f with stamp := stamp, body := body }
def edFil (t : List Fil) (i : Int) (stamp : Int) (body : List Stm) : List Fil × Bool :=
  if okTree t && inr i 0 ((t.length : Int) - 1) && inr stamp 0 99 && okBody body then (t.modify i.toNat (fun f => turned f stamp body), true) else ([], false)

/-- A directory is there. -/
def dirIn (t : List Fil) (root : Int) (p : Bs) : Bool := t.any (fun f => decide (f.root = root) && !f.pack.isEmpty && under f.pack p) || p.isEmpty
def placed (t : List Fil) (root : Int) (p : Bs) : Bool := okTree t && inr root 0 2 && vpk p
def hasDir (t : List Fil) (root : Int) (p : Bs) : Bool := placed t root p && dirIn t root p

/-- Texts in order of their bytes. -/
def ltB : Bs → Bs → Bool
  | _, [] => false
  | [], _ :: _ => true
  | a :: s, b :: t => if a = b then ltB s t else decide (a.toNat < b.toNat)

/-- An ascending list with one more text. -/
def insTo : List Bs → Bs → List Bs
  | [], s => [s]
  | x :: r, s => if ltB x s then x :: insTo r s else if x = s then x :: r else s :: x :: r

def sortUp (xs : List Bs) : List Bs := xs.foldl insTo []

/-- The part behind a package of a name under it. -/
def firstBelow (s p : Bs) : Bs := (split (if p.isEmpty then s else s.drop (p.length + 1))).headD []

/-- What a directory has because of a file, "" if nothing. -/
def entry (f : Fil) (root : Int) (p : Bs) : Bs :=
  if f.root = root then
    if f.pack = p then (if f.init then [42] else f.name)
    else if !f.pack.isEmpty && under f.pack p then firstBelow f.pack p ++ [47] else []
  else []

def entries (t : List Fil) (root : Int) (p : Bs) : List Bs := (t.map (fun f => entry f root p)).filter (fun s => !s.isEmpty)
def listDir (t : List Fil) (root : Int) (p : Bs) : List Bs := if placed t root p then sortUp (entries t root p) else []

def mixed (n k : Int) : Int := (n * 131 + k + 1).tmod 1000003
def mixedText (n : Int) (s : Bs) : Int := mixed (s.foldl (fun n c => mixed n (c.toNat : Int)) n) 0
def hashStm (n : Int) (s : Stm) : Int := mixedText (mixedText (mixed (mixed (mixed n s.kind) s.level) s.value) s.module) s.name
def hashOf (b : List Stm) : Int := if okBody b then b.foldl hashStm 1 else -1

def modulesOf (t : List Fil) : List Bs := if okTree t then sortUp (t.map modName) else []
def packs (t : List Fil) : List Bs := t.flatMap (fun f => if f.pack.isEmpty then [] else above f.pack)
def packagesOf (t : List Fil) : List Bs := if okTree t then sortUp (packs t) else []

end Go.Proofs.YtolhgklbkjdpiaaGreat.Nm
