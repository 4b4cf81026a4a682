/- Contracts of the exact laws' measures of statements, files and trees. -/
import Derived.Test.YteifoepfobojbaaStmT
import Derived.Test.YteifoepfobojbaaTreeMem
import Derived.StillTailTactics
import Derived.Laws.StructEq
set_option linter.unusedVariables false
set_option linter.unusedSimpArgs false
namespace Go.Proofs.Yteifoepfobojbaa
open Go.RowKit Go.Proofs.Yteifoepfobojbaa.Nm

/-- What a measure comes to: something is left, or nothing. -/
def SzB (cost left : Nat) (w : World) (e : Ending) (w' : World) : Prop :=
  ∃ r : Int, e = .returned (.int .i64 r) ∧ ((0 ≤ r ∧ r + cost ≤ left) ∨ r = -1) ∧ Below w.heap.size w w'
def stmCost (s : Stm) : Nat := s.module.length + s.name.length
def stmsCost (ss : List Stm) : Nat := ss.length + (ss.map stmCost).sum
def filCost (f : Fil) : Nat := f.pack.length + f.name.length + stmsCost f.body
def filsCost (fs : List Fil) : Nat := fs.length + (fs.map filCost).sum
theorem sum_snoc {α : Type} (f : α → Nat) (xs : List α) (i : Nat) (h : i < xs.length) : ((xs.take (i + 1)).map f).sum = ((xs.take i).map f).sum + f xs[i] := by
  rw [List.take_succ_eq_append_getElem h, List.map_append, List.sum_append, List.map_singleton, List.sum_singleton]
theorem mem_sum {α : Type} (f : α → Nat) {xs : List α} {x : α} (h : x ∈ xs) : f x ≤ (xs.map f).sum := by
  induction xs with
  | nil => cases h
  | cons y r ih =>
    rcases List.mem_cons.1 h with rfl | h
    · simp
    · have := ih h; simp; omega
theorem short_of {ss : List Stm} {B : Nat} (h : stmsCost ss ≤ B) : Short B ss := fun s hs => by
  have := mem_sum stmCost hs
  have e : stmCost s = s.module.length + s.name.length := rfl
  unfold stmsCost at h
  exact ⟨by omega, by omega⟩
theorem shortF_of {f : Fil} {B : Nat} (h : filCost f ≤ B) : ShortF B f := by
  unfold filCost at h
  exact ⟨by omega, by omega, short_of (by omega)⟩
theorem shortT_of {fs : List Fil} {B : Nat} (h : filsCost fs ≤ B) : ShortT B fs := fun f hf => by
  have := mem_sum filCost hf
  unfold filsCost at h
  exact shortF_of (by omega)
theorem shortF_mono {A B : Nat} (h : A ≤ B) {f : Fil} (hs : ShortF A f) : ShortF B f := ⟨Nat.le_trans hs.1 h, Nat.le_trans hs.2.1 h, short_mono h hs.2.2⟩
theorem shortT_mono {A B : Nat} (h : A ≤ B) {fs : List Fil} (hs : ShortT A fs) : ShortT B fs := fun f hf => shortF_mono h (hs f hf)

def filsCost' (fs : List Fil) : Prop := fs.length ≤ 1048576 ∧ ∀ f ∈ fs, f.body.length ≤ 1048576
theorem costs_of {fs : List Fil} (h : filsCost fs ≤ 1048576) : filsCost' fs := by
  unfold filsCost at h
  refine ⟨by omega, fun f hf => ?_⟩
  have := mem_sum filCost hf
  have e : filCost f = f.pack.length + f.name.length + stmsCost f.body := rfl
  have e2 : stmsCost f.body = f.body.length + (f.body.map stmCost).sum := rfl
  omega





/-! ### Contracts of the exact laws' copies of arguments: statements, files and trees. -/
def filV (p : Fil × Value) : Value := .agg #[.int .i64 p.1.root, .string (mk p.1.pack), .string (mk p.1.name), .bool p.1.init, .int .i64 p.1.stamp, p.2]


/-- What a function that returns a new row of statements comes to. -/
def NewStms (ss : List Stm) (w : World) (e : Ending) (w' : World) : Prop :=
  ∃ v, e = .returned v ∧ w'.ownsRow w.heap.size 82 5 v ss.length (ss.flatMap stmCells) ∧ Below w.heap.size w w'

/-- What a function that returns a file with a new body comes to. -/
def NewFil (f : Fil) (w : World) (e : Ending) (w' : World) : Prop :=
  ∃ bv, e = .returned (filV (f, bv)) ∧ w'.ownsRow w.heap.size 82 5 bv f.body.length (f.body.flatMap stmCells) ∧ Below w.heap.size w w'

theorem infoFil : (Try.prog.info? 50).map (fun i => (i.zero, i.size, i.bytes)) = some (some (.agg #[.int .i64 0, .string ByteArray.empty, .string ByteArray.empty, .bool false, .int .i64 0, .slice none 0 0]), 6, 80) := by kernel_rfl
/-- The bodies of files lie in rows of their own, no two in one. -/
def OwnBodies (w : World) (B : Nat) (ps : List (Fil × Value)) : Prop :=
  (∀ p ∈ ps, w.ownsRow B 82 5 p.2 p.1.body.length (p.1.body.flatMap stmCells)) ∧ ps.Pairwise (fun p q => ∀ b, p.2.ownBlock = some b → q.2.ownBlock ≠ some b)
/-- The slice v and the bodies of its files are rows of the call's own. -/
def OwnFils (w : World) (B : Nat) (v : Value) (ps : List (Fil × Value)) : Prop :=
  w.ownsRow B 50 6 v ps.length (ps.flatMap filCells) ∧ OwnBodies w B ps
theorem OwnBodies.nil (w : World) (B : Nat) : OwnBodies w B [] := ⟨by simp, List.Pairwise.nil⟩
theorem OwnBodies.heap {w w' : World} {B : Nat} {ps : List (Fil × Value)} (h : OwnBodies w B ps) (hk : ∀ b, B ≤ b → b < w.heap.size → (∃ p ∈ ps, p.2.ownBlock = some b) → w'.heap[b]? = w.heap[b]?) : OwnBodies w' B ps :=
  ⟨fun p hp => owns_heap (h.1 p hp) (fun b hb => hk b (owns_block (h.1 p hp) hb).1 (owns_block (h.1 p hp) hb).2 ⟨p, hp, hb⟩), h.2⟩
theorem OwnBodies.below {w w' : World} {B : Nat} {ps : List (Fil × Value)} (h : OwnBodies w B ps) (hb : Below w.heap.size w w') : OwnBodies w' B ps := h.heap (fun b _ hlt _ => hb.block b hlt)
theorem OwnBodies.mono {w : World} {B B' : Nat} {ps : List (Fil × Value)} (h : OwnBodies w B ps) (hB : B' ≤ B) : OwnBodies w B' ps := ⟨fun p hp => owns_mono (h.1 p hp) hB, h.2⟩
theorem OwnBodies.set_low {w : World} {B : Nat} {ps : List (Fil × Value)} (h : OwnBodies w B ps) {p : Addr} (hp : p.block < B) (u : Value) : OwnBodies (w.setCell p u) B ps :=
  h.heap (fun b hb _ _ => Below.heap_setCell w p u b (by omega))
theorem OwnBodies.snoc {w w' : World} {B : Nat} {ps : List (Fil × Value)} {q : Fil × Value} (h : OwnBodies w B ps) (hb : Below w.heap.size w w') (hB : B ≤ w.heap.size)
    (hq : w'.ownsRow w.heap.size 82 5 q.2 q.1.body.length (q.1.body.flatMap stmCells)) : OwnBodies w' B (ps ++ [q]) := by
  refine ⟨fun p hp => ?_, ?_⟩
  · rcases List.mem_append.1 hp with hp | hp
    · exact (h.below hb).1 p hp
    · simp at hp; subst hp; exact owns_mono hq hB
  · rw [List.pairwise_append]
    refine ⟨h.2, by simp, fun p hp x hx b hpb => ?_⟩
    simp at hx; subst hx
    intro hxb
    have h1 := owns_block (h.1 p hp) hpb
    have h2 := owns_block hq hxb
    omega
theorem OwnBodies.stms {w : World} {B : Nat} {ps : List (Fil × Value)} (h : OwnBodies w B ps) {D : Nat → Prop} (hD : ∀ g, B ≤ g → D g) : ∀ p ∈ ps, StmsIn w D p.2 p.1.body := fun p hp => StmsIn.of_owns (h.1 p hp) hD
theorem OwnFils.fils {w : World} {B : Nat} {v : Value} {ps : List (Fil × Value)} (h : OwnFils w B v ps) {D : Nat → Prop} (hD : ∀ g, B ≤ g → D g) : FilsIn w D v (ps.map (·.1)) := FilsIn.of_owns h.1 hD (h.2.stms hD)
theorem OwnFils.below {w w' : World} {B : Nat} {v : Value} {ps : List (Fil × Value)} (h : OwnFils w B v ps) (hb : Below w.heap.size w w') : OwnFils w' B v ps := ⟨owns_below h.1 hb, h.2.below hb⟩
theorem OwnFils.mono {w : World} {B B' : Nat} {v : Value} {ps : List (Fil × Value)} (h : OwnFils w B v ps) (hB : B' ≤ B) : OwnFils w B' v ps := ⟨owns_mono h.1 hB, h.2.mono hB⟩
/-- What a function that returns new files comes to. -/
def NewFils (fs : List Fil) (w : World) (e : Ending) (w' : World) : Prop :=
  ∃ v ps, e = .returned v ∧ ps.map (·.1) = fs ∧ OwnFils w' w.heap.size v ps ∧ Below w.heap.size w w'
def NewTree (fs : List Fil) (w : World) (e : Ending) (w' : World) : Prop :=
  ∃ v ps, e = .returned (.agg #[v]) ∧ ps.map (·.1) = fs ∧ OwnFils w' w.heap.size v ps ∧ Below w.heap.size w w'
theorem zipFill {fs : List Fil} {ps : List (Fil × Value)} {i : Nat} (h : ps.map (·.1) = fs.take i) (hi : i ≤ fs.length) : ps.length = i := by
  have := congrArg List.length h
  simp at this; omega
theorem fill_put2 (ps : List (Fil × Value)) (z q : Fil × Value) (n : Nat) (h : 0 < n) : (ps ++ List.replicate n z).set ps.length q = ps ++ [q] ++ List.replicate (n - 1) z := by
  rw [List.set_append_right _ _ (Nat.le_refl _), Nat.sub_self, show n = (n - 1) + 1 by omega, List.replicate_succ, List.set_cons_zero, List.append_assoc]
  rfl
theorem OwnFils.set_low {w : World} {B : Nat} {v : Value} {ps : List (Fil × Value)} (h : OwnFils w B v ps) {p : Addr} (hp : p.block < B) (u : Value) : OwnFils (w.setCell p u) B v ps := ⟨owns_set_low h.1 hp u, h.2.set_low hp u⟩
theorem OwnFils.len {w : World} {B : Nat} {v : Value} {ps : List (Fil × Value)} (h : OwnFils w B v ps) : ∃ a cap, v = .slice a ps.length cap := owns_shape h.1

/-! ### Contracts of the exact laws' looks: statements, files and trees are equal. -/
theorem beq_bs' (a b : Bs) : (a == b) = decide (a = b) := by rw [Bool.eq_iff_iff]; simp
theorem bne_bs (a b : Bs) : (a != b) = decide (a ≠ b) := by rw [bne, beq_bs']; simp
theorem bne_int (a b : Int) : (a != b) = decide (a ≠ b) := by rw [bne, beq_dec]; simp
def sameStm (a b : Stm) : Bool := decide (a = b)
def sameStms (a b : List Stm) : Bool := decide (a = b)
def sameFil (a b : Fil) : Bool := decide (a = b)
def sameFils (a b : List Fil) : Bool := decide (a = b)





end Go.Proofs.Yteifoepfobojbaa
