/- Words for memory that holds statements, files and trees. -/
import Derived.Test.YtgecemngfpgcoaaTools
import Derived.Test.YtgecemngfpgcoaaPlainT
import Derived.Maps.AppendAt
import Derived.OwnWalk
import Derived.Laws.OwnMore
import Derived.Laws.MakeOwn
set_option linter.unusedVariables false
set_option linter.unusedSimpArgs false
namespace Go.Proofs.Ytgecemngfpgcoaa.Nm
open Go.RowKit

theorem ba {w a : World} (h : Below w.heap.size w a) (o : Obj) : Below w.heap.size w (a.alloc o) := h.alloc h.size o
theorem bd {w a : World} (h : Below w.heap.size w a) : Below w.heap.size w a.drew := ⟨h.os, h.tape, h.output, h.size, h.block⟩
theorem bdN {w a : World} (h : Below w.heap.size w a) (n : Nat) : Below w.heap.size w (a.drewN n) := ⟨h.os, h.tape, h.output, h.size, h.block⟩
theorem bs {w a : World} (h : Below w.heap.size w a) {p : Addr} (hp : w.heap.size ≤ p.block) (u : Value) : Below w.heap.size w (a.setCell p u) := h.setCell hp u
theorem bcell {W w1 : World} (hb : Below W.heap.size W w1) : (∀ b o, b < W.heap.size → w1.cell? ⟨b, o, none⟩ = W.cell? ⟨b, o, none⟩) ∧ (∀ b o, b < W.heap.size → w1.frozen? ⟨b, o, none⟩ = W.frozen? ⟨b, o, none⟩) ∧ (∀ b, b < W.heap.size → b < w1.heap.size) :=
  ⟨fun b o h => hb.cell (p := ⟨b, o, none⟩) h, fun b o h => hb.frozen (p := ⟨b, o, none⟩) h, fun b h => Nat.lt_of_lt_of_le h hb.size⟩

/-- A call that leaves the world alone, within a region behind another one. -/
theorem still_more {P : Program} {f : FuncId} {args : Array Value} {w : World} {a n : Nat} {v : Value} (h : Calls P f args (w.drewN (a + n)) fun e w' => e = .returned v ∧ w.drewN (a + n) = w') :
    Calls P f args (w.drewN (a + n)) fun e w' => e = .returned v ∧ ∃ m, w' = w.drewN (a + m) := h.mono fun _ _ hh => ⟨hh.1, n, hh.2.symm⟩
theorem still_one {P : Program} {f : FuncId} {args : Array Value} {w : World} {n : Nat} {v : Value} (h : Calls P f args (w.drewN n) fun e w' => e = .returned v ∧ w.drewN n = w') :
    Calls P f args (w.drewN n) fun e w' => e = .returned v ∧ ∃ m, w' = w.drewN m := h.mono fun _ _ hh => ⟨hh.1, n, hh.2.symm⟩

/-- The texts of statements are not too long. -/
def Short (B : Nat) (ss : List Stm) : Prop := ∀ s ∈ ss, s.module.length ≤ B ∧ s.name.length ≤ B

/-- The cells of a statement. -/
def stmCells (s : Stm) : List Value := [.int .i64 s.kind, .string (mk s.module), .int .i64 s.level, .string (mk s.name), .int .i64 s.value]

/-- The slice v reads as the statements ss in w, in a block of D. -/
def StmsIn (w : World) (D : Nat → Prop) (v : Value) (ss : List Stm) : Prop :=
  ∃ a cap, v = .slice a ss.length cap ∧ ss.length ≤ cap ∧ cap ≤ maxLen ∧
    (0 < ss.length → ∃ b off, a = some ⟨b, off, none⟩ ∧ D b ∧ b < w.heap.size ∧
      ∀ i (h : i < ss.length), w.cell? ⟨b, off + i * 5, none⟩ = some (.int .i64 ss[i].kind) ∧ w.cell? ⟨b, off + i * 5 + 1, none⟩ = some (.string (mk ss[i].module)) ∧
        w.cell? ⟨b, off + i * 5 + 2, none⟩ = some (.int .i64 ss[i].level) ∧ w.cell? ⟨b, off + i * 5 + 3, none⟩ = some (.string (mk ss[i].name)) ∧ w.cell? ⟨b, off + i * 5 + 4, none⟩ = some (.int .i64 ss[i].value))

theorem StmsIn.keep {w w' : World} {D : Nat → Prop} {v : Value} {ss : List Stm} (h : StmsIn w D v ss) (hs : w.heap.size ≤ w'.heap.size) (hk : ∀ b, D b → b < w.heap.size → w'.heap[b]? = w.heap[b]?) : StmsIn w' D v ss := by
  obtain ⟨a, cap, h1, h2, h3, h4⟩ := h
  refine ⟨a, cap, h1, h2, h3, fun hx => ?_⟩
  obtain ⟨b, off, e1, e2, e3, e4⟩ := h4 hx
  refine ⟨b, off, e1, e2, Nat.lt_of_lt_of_le e3 hs, fun i hi => ?_⟩
  have hc : ∀ o, w'.cell? ⟨b, o, none⟩ = w.cell? ⟨b, o, none⟩ := fun o => by rw [World.cell?_of_block (w := w) (hk b e2 e3)]
  simp only [hc]
  exact e4 i hi

theorem StmsIn.below {w w' : World} {D : Nat → Prop} {v : Value} {ss : List Stm} (h : StmsIn w D v ss) (hb : Below w.heap.size w w') : StmsIn w' D v ss := h.keep hb.size (fun b _ hlt => hb.block b hlt)

theorem StmsIn.mono {w : World} {D D' : Nat → Prop} {v : Value} {ss : List Stm} (h : StmsIn w D v ss) (hd : ∀ b, b < w.heap.size → D b → D' b) : StmsIn w D' v ss := by
  obtain ⟨a, cap, h1, h2, h3, h4⟩ := h
  refine ⟨a, cap, h1, h2, h3, fun hx => ?_⟩
  obtain ⟨b, off, e1, e2, e3, e4⟩ := h4 hx
  exact ⟨b, off, e1, hd b e3 e2, e3, e4⟩

theorem StmsIn.len {w : World} {D : Nat → Prop} {v : Value} {ss : List Stm} (h : StmsIn w D v ss) : ∃ a cap, v = .slice a ss.length cap ∧ ss.length ≤ cap ∧ cap ≤ maxLen := by
  obtain ⟨a, cap, h1, h2, h3, _⟩ := h
  exact ⟨a, cap, h1, h2, h3⟩

theorem StmsIn.at_ {w : World} {D : Nat → Prop} {v : Value} {ss : List Stm} (h : StmsIn w D v ss) {i : Nat} (hi : i < ss.length) : ∃ b off cap, v = .slice (some ⟨b, off, none⟩) ss.length cap ∧ D b ∧ b < w.heap.size ∧
    w.cell? ⟨b, off + i * 5, none⟩ = some (.int .i64 ss[i].kind) ∧ w.cell? ⟨b, off + i * 5 + 1, none⟩ = some (.string (mk ss[i].module)) ∧
        w.cell? ⟨b, off + i * 5 + 2, none⟩ = some (.int .i64 ss[i].level) ∧ w.cell? ⟨b, off + i * 5 + 3, none⟩ = some (.string (mk ss[i].name)) ∧ w.cell? ⟨b, off + i * 5 + 4, none⟩ = some (.int .i64 ss[i].value) := by
  obtain ⟨a, cap, h1, h2, h3, h4⟩ := h
  obtain ⟨b, off, e1, e2, e3, e4⟩ := h4 (by omega)
  subst e1
  exact ⟨b, off, cap, h1, e2, e3, e4 i hi⟩

/-! ### Words for memory that holds files and trees. -/
/-- The slice v reads as the files fs in w, in blocks of D, and so do their bodies. -/
def FilsIn (w : World) (D : Nat → Prop) (v : Value) (fs : List Fil) : Prop :=
  ∃ a cap, v = .slice a fs.length cap ∧ fs.length ≤ cap ∧ cap ≤ maxLen ∧
    (0 < fs.length → ∃ b off, a = some ⟨b, off, none⟩ ∧ D b ∧ b < w.heap.size ∧
      ∀ i (h : i < fs.length), ∃ bv, StmsIn w D bv fs[i].body ∧ w.cell? ⟨b, off + i * 6, none⟩ = some (.int .i64 fs[i].root) ∧ w.cell? ⟨b, off + i * 6 + 1, none⟩ = some (.string (mk fs[i].pack)) ∧
        w.cell? ⟨b, off + i * 6 + 2, none⟩ = some (.string (mk fs[i].name)) ∧ w.cell? ⟨b, off + i * 6 + 3, none⟩ = some (.bool fs[i].init) ∧ w.cell? ⟨b, off + i * 6 + 4, none⟩ = some (.int .i64 fs[i].stamp) ∧
        w.cell? ⟨b, off + i * 6 + 5, none⟩ = some bv)

theorem FilsIn.keep {w w' : World} {D : Nat → Prop} {v : Value} {fs : List Fil} (h : FilsIn w D v fs) (hs : w.heap.size ≤ w'.heap.size) (hk : ∀ b, D b → b < w.heap.size → w'.heap[b]? = w.heap[b]?) : FilsIn w' D v fs := by
  obtain ⟨a, cap, h1, h2, h3, h4⟩ := h
  refine ⟨a, cap, h1, h2, h3, fun hx => ?_⟩
  obtain ⟨b, off, e1, e2, e3, e4⟩ := h4 hx
  refine ⟨b, off, e1, e2, Nat.lt_of_lt_of_le e3 hs, fun i hi => ?_⟩
  have hc : ∀ o, w'.cell? ⟨b, o, none⟩ = w.cell? ⟨b, o, none⟩ := fun o => by rw [World.cell?_of_block (w := w) (hk b e2 e3)]
  simp only [hc]
  obtain ⟨bv, g1, g2⟩ := e4 i hi
  exact ⟨bv, g1.keep hs hk, g2⟩

theorem FilsIn.below {w w' : World} {D : Nat → Prop} {v : Value} {fs : List Fil} (h : FilsIn w D v fs) (hb : Below w.heap.size w w') : FilsIn w' D v fs := h.keep hb.size (fun b _ hlt => hb.block b hlt)

theorem FilsIn.mono {w : World} {D D' : Nat → Prop} {v : Value} {fs : List Fil} (h : FilsIn w D v fs) (hd : ∀ b, b < w.heap.size → D b → D' b) : FilsIn w D' v fs := by
  obtain ⟨a, cap, h1, h2, h3, h4⟩ := h
  refine ⟨a, cap, h1, h2, h3, fun hx => ?_⟩
  obtain ⟨b, off, e1, e2, e3, e4⟩ := h4 hx
  refine ⟨b, off, e1, hd b e3 e2, e3, fun i hi => ?_⟩
  obtain ⟨bv, g1, g2⟩ := e4 i hi
  exact ⟨bv, g1.mono hd, g2⟩

theorem FilsIn.len {w : World} {D : Nat → Prop} {v : Value} {fs : List Fil} (h : FilsIn w D v fs) : ∃ a cap, v = .slice a fs.length cap ∧ fs.length ≤ cap ∧ cap ≤ maxLen := by
  obtain ⟨a, cap, h1, h2, h3, _⟩ := h
  exact ⟨a, cap, h1, h2, h3⟩

theorem FilsIn.at_ {w : World} {D : Nat → Prop} {v : Value} {fs : List Fil} (h : FilsIn w D v fs) {i : Nat} (hi : i < fs.length) : ∃ b off cap bv, v = .slice (some ⟨b, off, none⟩) fs.length cap ∧ D b ∧ b < w.heap.size ∧ StmsIn w D bv fs[i].body ∧
    w.cell? ⟨b, off + i * 6, none⟩ = some (.int .i64 fs[i].root) ∧ w.cell? ⟨b, off + i * 6 + 1, none⟩ = some (.string (mk fs[i].pack)) ∧
        w.cell? ⟨b, off + i * 6 + 2, none⟩ = some (.string (mk fs[i].name)) ∧ w.cell? ⟨b, off + i * 6 + 3, none⟩ = some (.bool fs[i].init) ∧ w.cell? ⟨b, off + i * 6 + 4, none⟩ = some (.int .i64 fs[i].stamp) ∧
        w.cell? ⟨b, off + i * 6 + 5, none⟩ = some bv := by
  obtain ⟨a, cap, h1, h2, h3, h4⟩ := h
  obtain ⟨b, off, e1, e2, e3, e4⟩ := h4 (by omega)
  subst e1
  obtain ⟨bv, g1, g2⟩ := e4 i hi
  exact ⟨b, off, cap, bv, h1, e2, e3, g1, g2⟩

/-- A block of the call's own that stands first among the new ones, and has not turned. -/
def Boxed (w : World) (cs : Array Value) (T : TypeId) (wr : World) : Prop := Below (w.alloc (.cells cs T)).heap.size (w.alloc (.cells cs T)) wr
theorem Boxed.start (w : World) (cs : Array Value) (T : TypeId) : Boxed w cs T (w.alloc (.cells cs T)) := Below.refl _ _
theorem Boxed.lt {w wr : World} {cs : Array Value} {T : TypeId} (h : Boxed w cs T wr) : w.heap.size < wr.heap.size := by
  have := h.size; simp at this; omega
theorem Boxed.cell {w wr : World} {cs : Array Value} {T : TypeId} (h : Boxed w cs T wr) (i : Nat) : wr.cell? ⟨w.heap.size, i, none⟩ = cs[i]? := by
  have e : (w.alloc (.cells cs T)).heap[w.heap.size]? = some (.cells cs T (0, 0)) := by
    show (w.heap.push (Obj.cells cs T (0, 0)))[w.heap.size]? = _
    simp
  have hb := h.block w.heap.size (by simp)
  rw [e] at hb
  simp only [World.cell?, hb]
  rfl
theorem Boxed.below {w wr : World} {cs : Array Value} {T : TypeId} (h : Boxed w cs T wr) : Below w.heap.size w wr :=
  (ba (Below.refl _ _) _).trans (h.mono (by simp))
theorem Boxed.step {w wr w' : World} {cs : Array Value} {T : TypeId} (h : Boxed w cs T wr) (hb : Below wr.heap.size wr w') : Boxed w cs T w' := bt h hb

/-- The texts of a file are not too long. -/
def ShortF (B : Nat) (f : Fil) : Prop := f.pack.length ≤ B ∧ f.name.length ≤ B ∧ Short B f.body
def ShortT (B : Nat) (fs : List Fil) : Prop := ∀ f ∈ fs, ShortF B f

/-! ### Words for what has turned: only blocks of a set, and new ones. -/
/-- Only blocks of S have turned among those that were there. -/
structure Turned (S : Nat → Prop) (w w' : World) : Prop where
  os : w'.os = w.os
  tape : w'.tape = w.tape
  output : w'.output = w.output
  size : w.heap.size ≤ w'.heap.size
  block : ∀ k, k < w.heap.size → ¬ S k → w'.heap[k]? = w.heap[k]?
theorem Turned.refl (S : Nat → Prop) (w : World) : Turned S w w := ⟨rfl, rfl, rfl, Nat.le_refl _, fun _ _ _ => rfl⟩
theorem Turned.trans {S : Nat → Prop} {a b c : World} (h : Turned S a b) (k : Turned S b c) : Turned S a c :=
  ⟨k.os.trans h.os, k.tape.trans h.tape, k.output.trans h.output, Nat.le_trans h.size k.size, fun i hi hs => (k.block i (Nat.lt_of_lt_of_le hi h.size) hs).trans (h.block i hi hs)⟩
theorem Turned.mono {S S' : Nat → Prop} {a b : World} (h : Turned S a b) (hs : ∀ k, S k → S' k) : Turned S' a b := ⟨h.os, h.tape, h.output, h.size, fun k hk hn => h.block k hk (fun e => hn (hs k e))⟩
theorem Turned.of_below {S : Nat → Prop} {a b : World} (h : Below a.heap.size a b) : Turned S a b := ⟨h.os, h.tape, h.output, h.size, fun k hk _ => h.block k hk⟩
theorem Turned.step {S : Nat → Prop} {a b c : World} (h : Turned S a b) (k : Below b.heap.size b c) : Turned S a c := h.trans (.of_below k)
theorem Turned.set {S : Nat → Prop} {a b : World} (h : Turned S a b) {p : Addr} (hp : S p.block) (u : Value) : Turned S a (b.setCell p u) :=
  h.trans ⟨rfl, rfl, rfl, by simp [World.setCell], fun k _ hk => Below.heap_setCell _ _ _ _ (fun e => hk (by rw [e]; exact hp))⟩
theorem Turned.drew {S : Nat → Prop} {a b : World} (h : Turned S a b) : Turned S a b.drew := ⟨h.os, h.tape, h.output, h.size, h.block⟩
theorem Turned.alloc {S : Nat → Prop} {a b : World} (h : Turned S a b) (o : Obj) : Turned S a (b.alloc o) := h.step (ba (Below.refl _ _) o)
theorem Turned.below {S : Nat → Prop} {B : Nat} {a b : World} (h : Turned S a b) (hB : B ≤ a.heap.size) (hs : ∀ k, S k → B ≤ k) : Below B a b :=
  ⟨h.os, h.tape, h.output, h.size, fun k hk => h.block k (by omega) (fun e => by have := hs k e; omega)⟩
theorem Turned.grown {S : Nat → Prop} {a b c : World} {row : Option Nat} (h : Turned S a b) (hg : b.grownBy c row) (hr : ∀ j, row = some j → j < a.heap.size → S j) : Turned S a c :=
  ⟨hg.os.trans h.os, hg.tape.trans h.tape, hg.output.trans h.output, Nat.le_trans h.size hg.size, fun j hj hn => (hg.block j (Nat.lt_of_lt_of_le hj h.size) (fun e => hn (hr j e.symm hj))).trans (h.block j hj hn)⟩
theorem at_or {g2 g n2 c2 n c W B : Nat} (h : (Value.slice (some ⟨g2, 0, none⟩) n2 c2).ownBlock = (Value.slice (some ⟨g, 0, none⟩) n c).ownBlock ∨ (Value.slice (some ⟨g2, 0, none⟩) n2 c2).ownBlock = some W) (hW : B ≤ W) : g2 = g ∨ B ≤ g2 := by
  rcases h with h | h
  · exact .inl (Option.some.inj h)
  · have := Option.some.inj h
    exact .inr (by dsimp only at this; omega)

/-! ### Rows of statements and files that a call owns. -/
section
variable {α : Type} (c : α → List Value) (m : Nat) (hc : ∀ x, (c x).length = m)
theorem fm_len (L : List α) (hc : ∀ x, (c x).length = m) : (L.flatMap c).length = L.length * m := by
  induction L with
  | nil => simp
  | cons x r ih => rw [List.flatMap_cons, List.length_append, ih, hc, List.length_cons, Nat.add_mul]; omega
theorem fm_split (L : List α) (i : Nat) (h : i < L.length) : L.flatMap c = (L.take i).flatMap c ++ (c L[i] ++ (L.drop (i + 1)).flatMap c) := by
  have e : L = L.take i ++ (L[i] :: L.drop (i + 1)) := by rw [← List.drop_eq_getElem_cons h, List.take_append_drop]
  have e2 := congrArg (List.flatMap c) e
  rw [List.flatMap_append, List.flatMap_cons] at e2
  exact e2
theorem fm_take_len (L : List α) (i : Nat) (h : i < L.length) (hc : ∀ x, (c x).length = m) : ((L.take i).flatMap c).length = i * m := by
  rw [fm_len c m _ hc, List.length_take, Nat.min_eq_left (by omega)]
theorem fm_get (L : List α) (i j : Nat) (h : i < L.length) (hj : j < m) (hc : ∀ x, (c x).length = m) : (L.flatMap c)[i * m + j]? = (c L[i])[j]? := by
  have hl := fm_take_len c m L i h hc
  rw [fm_split c L i h, List.getElem?_append_right (by omega), hl, Nat.add_sub_cancel_left, List.getElem?_append_left (by rw [hc]; exact hj)]
theorem fm_put (L : List α) (i : Nat) (x : α) (h : i < L.length) : (L.set i x).flatMap c = (L.take i).flatMap c ++ (c x ++ (L.drop (i + 1)).flatMap c) := by
  rw [List.set_eq_take_append_cons_drop, if_pos h, List.flatMap_append, List.flatMap_cons]
theorem set_mid (A B C : List Value) (p j : Nat) (u : Value) (hA : A.length = p) (hj : j < B.length) : (A ++ (B ++ C)).set (p + j) u = A ++ (B.set j u ++ C) := by
  rw [List.set_append_right _ _ (by omega), hA, Nat.add_sub_cancel_left, List.set_append_left _ _ hj]
end

theorem stmCells_len (s : Stm) : (stmCells s).length = 5 := rfl
/-- The cells of a file whose body is the slice bv. -/
def filCells (p : Fil × Value) : List Value := [.int .i64 p.1.root, .string (mk p.1.pack), .string (mk p.1.name), .bool p.1.init, .int .i64 p.1.stamp, p.2]
theorem filCells_len (p : Fil × Value) : (filCells p).length = 6 := rfl

theorem list5 {l : List Value} (h : l.length = 5) : ∃ a b c d e, l = [a, b, c, d, e] := by
  match l, h with
  | [a, b, c, d, e], _ => exact ⟨a, b, c, d, e, rfl⟩
theorem list6 {l : List Value} (h : l.length = 6) : ∃ a b c d e f, l = [a, b, c, d, e, f] := by
  match l, h with
  | [a, b, c, d, e, f], _ => exact ⟨a, b, c, d, e, f, rfl⟩

section
variable {w : World} {B e g cap n : Nat}
/-- The cells of element i of a row of statements that is owned. -/
theorem own5 {L : List Stm} (h : w.ownsRow B e 5 (.slice (some ⟨g, 0, none⟩) n cap) n (L.flatMap stmCells)) (i : Nat) (hi : i < L.length) :
    (w.cell? ⟨g, i * 5, none⟩ = some (.int .i64 L[i].kind) ∧ w.cell? ⟨g, i * 5 + 1, none⟩ = some (.string (mk L[i].module)) ∧ w.cell? ⟨g, i * 5 + 2, none⟩ = some (.int .i64 L[i].level) ∧ w.cell? ⟨g, i * 5 + 3, none⟩ = some (.string (mk L[i].name)) ∧ w.cell? ⟨g, i * 5 + 4, none⟩ = some (.int .i64 L[i].value)) ∧
    (w.frozen? ⟨g, i * 5, none⟩ = false ∧ w.frozen? ⟨g, i * 5 + 1, none⟩ = false ∧ w.frozen? ⟨g, i * 5 + 2, none⟩ = false ∧ w.frozen? ⟨g, i * 5 + 3, none⟩ = false ∧ w.frozen? ⟨g, i * 5 + 4, none⟩ = false) := by
  have hl := fm_len stmCells 5 L stmCells_len
  have hn : (L.flatMap stmCells).length = n * 5 := h.1
  have hc : ∀ j, j < 5 → w.cell? ⟨g, i * 5 + j, none⟩ = (stmCells L[i])[j]? := fun j hj => by
    rw [h.cellAt (i * 5 + j) (by omega), fm_get stmCells 5 L i j hi hj stmCells_len]
  exact ⟨⟨hc 0 (by omega), hc 1 (by omega), hc 2 (by omega), hc 3 (by omega), hc 4 (by omega)⟩, h.frozenAt _, h.frozenAt _, h.frozenAt _, h.frozenAt _, h.frozenAt _⟩
/-- Element i is written. -/
theorem own5_put {L : List Stm} (h : w.ownsRow B e 5 (.slice (some ⟨g, 0, none⟩) n cap) n (L.flatMap stmCells)) (i : Nat) (hi : i < L.length) (s : Stm) :
    (((((w.setCell ⟨g, i * 5, none⟩ (.int .i64 s.kind)).setCell ⟨g, i * 5 + 1, none⟩ (.string (mk s.module))).setCell ⟨g, i * 5 + 2, none⟩ (.int .i64 s.level)).setCell ⟨g, i * 5 + 3, none⟩ (.string (mk s.name))).setCell ⟨g, i * 5 + 4, none⟩ (.int .i64 s.value)).ownsRow B e 5 (.slice (some ⟨g, 0, none⟩) n cap) n ((L.set i s).flatMap stmCells) := by
  have h5 := ((((h.stored (i * 5) (.int .i64 s.kind)).1.stored (i * 5 + 1) (.string (mk s.module))).1.stored (i * 5 + 2) (.int .i64 s.level)).1.stored (i * 5 + 3) (.string (mk s.name))).1.stored (i * 5 + 4) (.int .i64 s.value)
  have hA := fm_take_len stmCells 5 L i hi stmCells_len
  obtain ⟨a0, a1, a2, a3, a4, ha⟩ := list5 (stmCells_len L[i])
  rw [fm_split stmCells L i hi, ha] at h5
  rw [fm_put stmCells L i s hi]
  have s0 : ((L.take i).flatMap stmCells ++ ([a0, a1, a2, a3, a4] ++ (L.drop (i + 1)).flatMap stmCells)).set (i * 5) (.int .i64 s.kind) = (L.take i).flatMap stmCells ++ ([a0, a1, a2, a3, a4].set 0 (.int .i64 s.kind) ++ (L.drop (i + 1)).flatMap stmCells) := set_mid _ _ _ (i * 5) 0 _ hA (by simp)
  rw [s0, set_mid _ _ _ (i * 5) 1 _ hA (by simp), set_mid _ _ _ (i * 5) 2 _ hA (by simp), set_mid _ _ _ (i * 5) 3 _ hA (by simp), set_mid _ _ _ (i * 5) 4 _ hA (by simp)] at h5
  exact h5.1
theorem own6 {L : List (Fil × Value)} (h : w.ownsRow B e 6 (.slice (some ⟨g, 0, none⟩) n cap) n (L.flatMap filCells)) (i : Nat) (hi : i < L.length) :
    (w.cell? ⟨g, i * 6, none⟩ = some (.int .i64 L[i].1.root) ∧ w.cell? ⟨g, i * 6 + 1, none⟩ = some (.string (mk L[i].1.pack)) ∧ w.cell? ⟨g, i * 6 + 2, none⟩ = some (.string (mk L[i].1.name)) ∧ w.cell? ⟨g, i * 6 + 3, none⟩ = some (.bool L[i].1.init) ∧ w.cell? ⟨g, i * 6 + 4, none⟩ = some (.int .i64 L[i].1.stamp) ∧ w.cell? ⟨g, i * 6 + 5, none⟩ = some L[i].2) ∧
    (w.frozen? ⟨g, i * 6, none⟩ = false ∧ w.frozen? ⟨g, i * 6 + 1, none⟩ = false ∧ w.frozen? ⟨g, i * 6 + 2, none⟩ = false ∧ w.frozen? ⟨g, i * 6 + 3, none⟩ = false ∧ w.frozen? ⟨g, i * 6 + 4, none⟩ = false ∧ w.frozen? ⟨g, i * 6 + 5, none⟩ = false) := by
  have hl := fm_len filCells 6 L filCells_len
  have hn : (L.flatMap filCells).length = n * 6 := h.1
  have hc : ∀ j, j < 6 → w.cell? ⟨g, i * 6 + j, none⟩ = (filCells L[i])[j]? := fun j hj => by
    rw [h.cellAt (i * 6 + j) (by omega), fm_get filCells 6 L i j hi hj filCells_len]
  exact ⟨⟨hc 0 (by omega), hc 1 (by omega), hc 2 (by omega), hc 3 (by omega), hc 4 (by omega), hc 5 (by omega)⟩, h.frozenAt _, h.frozenAt _, h.frozenAt _, h.frozenAt _, h.frozenAt _, h.frozenAt _⟩
theorem own6_put {L : List (Fil × Value)} (h : w.ownsRow B e 6 (.slice (some ⟨g, 0, none⟩) n cap) n (L.flatMap filCells)) (i : Nat) (hi : i < L.length) (p : Fil × Value) :
    ((((((w.setCell ⟨g, i * 6, none⟩ (.int .i64 p.1.root)).setCell ⟨g, i * 6 + 1, none⟩ (.string (mk p.1.pack))).setCell ⟨g, i * 6 + 2, none⟩ (.string (mk p.1.name))).setCell ⟨g, i * 6 + 3, none⟩ (.bool p.1.init)).setCell ⟨g, i * 6 + 4, none⟩ (.int .i64 p.1.stamp)).setCell ⟨g, i * 6 + 5, none⟩ p.2).ownsRow B e 6 (.slice (some ⟨g, 0, none⟩) n cap) n ((L.set i p).flatMap filCells) := by
  have h5 := (((((h.stored (i * 6) (.int .i64 p.1.root)).1.stored (i * 6 + 1) (.string (mk p.1.pack))).1.stored (i * 6 + 2) (.string (mk p.1.name))).1.stored (i * 6 + 3) (.bool p.1.init)).1.stored (i * 6 + 4) (.int .i64 p.1.stamp)).1.stored (i * 6 + 5) p.2
  have hA := fm_take_len filCells 6 L i hi filCells_len
  obtain ⟨a0, a1, a2, a3, a4, a5, ha⟩ := list6 (filCells_len L[i])
  rw [fm_split filCells L i hi, ha] at h5
  rw [fm_put filCells L i p hi]
  have s0 : ((L.take i).flatMap filCells ++ ([a0, a1, a2, a3, a4, a5] ++ (L.drop (i + 1)).flatMap filCells)).set (i * 6) (.int .i64 p.1.root) = (L.take i).flatMap filCells ++ ([a0, a1, a2, a3, a4, a5].set 0 (.int .i64 p.1.root) ++ (L.drop (i + 1)).flatMap filCells) := set_mid _ _ _ (i * 6) 0 _ hA (by simp)
  rw [s0, set_mid _ _ _ (i * 6) 1 _ hA (by simp), set_mid _ _ _ (i * 6) 2 _ hA (by simp), set_mid _ _ _ (i * 6) 3 _ hA (by simp), set_mid _ _ _ (i * 6) 4 _ hA (by simp), set_mid _ _ _ (i * 6) 5 _ hA (by simp)] at h5
  exact h5.1
end

/-- Zero statements and files, as make lays them. -/
def zeroStm : Stm := ⟨0, [], 0, [], 0⟩
def zeroFil : Fil × Value := (⟨0, [], [], false, 0, []⟩, .slice none 0 0)
theorem made_cells (c : Array Value) (m : Nat) (hm : c.size = m) (h0 : 0 < m) (n : Nat) : (madeCells c (n * m)).toList = (List.replicate n c.toList).flatten := by
  apply List.ext_getElem?
  intro k
  have hl : ((List.replicate n c.toList).flatten).length = n * m := by simp [hm]
  by_cases hk : k < n * m
  · have hq : k / m < n := Nat.div_lt_of_lt_mul (by rw [Nat.mul_comm]; exact hk)
    have hr : k % m < m := Nat.mod_lt _ h0
    have e : k = k / m * m + k % m := by rw [Nat.mul_comm]; exact (Nat.div_add_mod k m).symm
    have hR : ((List.replicate n c.toList).flatten)[k]? = c.toList[k % m]? := by
      have hf := fm_get (fun l : List Value => if l.length = m then l else List.replicate m (.bool false)) m (List.replicate n c.toList) (k / m) (k % m) (by simpa using hq) hr (fun x => by
        by_cases hx : x.length = m <;> simp [hx])
      have hfm : (List.replicate n c.toList).flatMap (fun l : List Value => if l.length = m then l else List.replicate m (.bool false)) = (List.replicate n c.toList).flatten := by
        rw [List.flatMap_def, List.map_replicate]
        have : (if c.toList.length = m then c.toList else List.replicate m (.bool false)) = c.toList := by rw [if_pos (by simpa using hm)]
        rw [this]
      rw [hfm, ← e] at hf
      rw [hf]
      simp [hm]
    rw [hR, List.getElem?_eq_getElem (by simp [size_madeCells]; exact hk)]
    have hcm : k % m < c.size := by omega
    simp [madeCells, hm]
    rw [getElem!_pos c (k % m) hcm, Array.getElem?_eq_getElem hcm]
  · rw [List.getElem?_eq_none (by simp [size_madeCells]; omega), List.getElem?_eq_none (by rw [hl]; omega)]
theorem made5 (n : Nat) : (madeCells #[.int .i64 0, .string ByteArray.empty, .int .i64 0, .string ByteArray.empty, .int .i64 0] (n * 5)).toList = (List.replicate n zeroStm).flatMap stmCells := by
  rw [made_cells _ 5 rfl (by omega), List.flatMap_def, List.map_replicate]; rfl
theorem made6 (n : Nat) : (madeCells #[.int .i64 0, .string ByteArray.empty, .string ByteArray.empty, .bool false, .int .i64 0, .slice none 0 0] (n * 6)).toList = (List.replicate n zeroFil).flatMap filCells := by
  rw [made_cells _ 6 rfl (by omega), List.flatMap_def, List.map_replicate]; rfl
theorem fill_put {α : Type} (xs : List α) (z : α) (i : Nat) (h : i < xs.length) : ((xs.take i ++ List.replicate (xs.length - i) z).set i xs[i]) = xs.take (i + 1) ++ List.replicate (xs.length - (i + 1)) z := by
  have hl : (xs.take i).length = i := by simp; omega
  rw [List.set_append_right _ _ (by omega), hl, Nat.sub_self, show xs.length - i = (xs.length - (i + 1)) + 1 by omega, List.replicate_succ, List.set_cons_zero, List.take_succ_eq_append_getElem h, List.append_assoc]
  rfl
theorem fill_len {α : Type} (xs : List α) (z : α) (i : Nat) (h : i ≤ xs.length) : (xs.take i ++ List.replicate (xs.length - i) z).length = xs.length := by simp; omega

/-- An owned row of statements reads as they are. -/
theorem StmsIn.of_owns {w : World} {B : Nat} {e : TypeId} {v : Value} {ss : List Stm} {D : Nat → Prop} (h : w.ownsRow B e 5 v ss.length (ss.flatMap stmCells)) (hD : ∀ g, B ≤ g → D g) : StmsIn w D v ss := by
  rcases h.2 with ⟨h1, h2⟩ | ⟨g, cap, cur, h1, h2, h3, h4, h5, h6, h7⟩
  · exact ⟨none, 0, by rw [h1, h2], by omega, by unfold maxLen; omega, fun hx => absurd hx (by omega)⟩
  · subst h1
    refine ⟨_, cap, rfl, h4, h5, fun _ => ⟨g, 0, rfl, hD g h2, (Array.getElem?_eq_some_iff.1 h3).1, fun i hi => ?_⟩⟩
    simpa using (own5 h i hi).1
theorem FilsIn.of_owns {w : World} {B : Nat} {e : TypeId} {v : Value} {ps : List (Fil × Value)} {D : Nat → Prop} (h : w.ownsRow B e 6 v ps.length (ps.flatMap filCells)) (hD : ∀ g, B ≤ g → D g) (hb : ∀ p ∈ ps, StmsIn w D p.2 p.1.body) :
    FilsIn w D v (ps.map (·.1)) := by
  rcases h.2 with ⟨h1, h2⟩ | ⟨g, cap, cur, h1, h2, h3, h4, h5, h6, h7⟩
  · exact ⟨none, 0, by rw [h1]; simp [h2], by simp [h2], by unfold maxLen; omega, fun hx => absurd hx (by rw [List.length_map]; omega)⟩
  · subst h1
    refine ⟨_, cap, by simp, by simpa using h4, h5, fun _ => ⟨g, 0, rfl, hD g h2, (Array.getElem?_eq_some_iff.1 h3).1, fun i hi => ?_⟩⟩
    have hi' : i < ps.length := by simpa using hi
    refine ⟨ps[i].2, by simpa using hb _ (List.getElem_mem hi'), ?_⟩
    simpa using (own6 h i hi').1
end Go.Proofs.Ytgecemngfpgcoaa.Nm
