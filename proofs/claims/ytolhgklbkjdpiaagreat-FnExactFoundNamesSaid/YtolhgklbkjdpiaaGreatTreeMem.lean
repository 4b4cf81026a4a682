/- Words for memory that holds statements, files and trees. -/
import Derived.Test.YtolhgklbkjdpiaaGreatTools
import Derived.Test.YtolhgklbkjdpiaaGreatPlainT
set_option linter.unusedVariables false
set_option linter.unusedSimpArgs false
namespace Go.Proofs.YtolhgklbkjdpiaaGreat.Nm
open Go.RowKit

theorem ba {w a : World} (h : Below w.heap.size w a) (o : Obj) : Below w.heap.size w (a.alloc o) := h.alloc h.size o
theorem bd {w a : World} (h : Below w.heap.size w a) : Below w.heap.size w a.drew := ⟨h.os, h.tape, h.output, h.size, h.block⟩
theorem bdN {w a : World} (h : Below w.heap.size w a) (n : Nat) : Below w.heap.size w (a.drewN n) := ⟨h.os, h.tape, h.output, h.size, h.block⟩
theorem bs {w a : World} (h : Below w.heap.size w a) {p : Addr} (hp : w.heap.size ≤ p.block) (u : Value) : Below w.heap.size w (a.setCell p u) := h.setCell hp u
theorem bcell {W w1 : World} (hb : Below W.heap.size W w1) : (∀ b o, b < W.heap.size → w1.cell? ⟨b, o, none⟩ = W.cell? ⟨b, o, none⟩) ∧ (∀ b o, b < W.heap.size → w1.frozen? ⟨b, o, none⟩ = W.frozen? ⟨b, o, none⟩) ∧ (∀ b, b < W.heap.size → b < w1.heap.size) :=
  ⟨fun b o h => hb.cell (p := ⟨b, o, none⟩) h, fun b o h => hb.frozen (p := ⟨b, o, none⟩) h, fun b h => Nat.lt_of_lt_of_le h hb.size⟩

/-- A call that leaves the world alone, within a region behind another one. -/
theorem still_more {P : Program} {f : FuncId} {args : Array Value} {w : World} {a n : Nat} {v : Value} (h : Calls P f args (w.drewN (a + n)) fun e w' => e = .returned v ∧ w.drewN (a + n) = w') :
    Calls P f args (w.drewN (a + n)) fun e w' => e = .returned v ∧ ∃ m, w' = w.drewN (a + m) := h.mono fun _ _ hh => ⟨hh.1, n, hh.2.symm⟩
theorem still_one {P : Program} {f : FuncId} {args : Array Value} {w : World} {n : Nat} {v : Value} (h : Calls P f args (w.drewN n) fun e w' => e = .returned v ∧ w.drewN n = w') :
    Calls P f args (w.drewN n) fun e w' => e = .returned v ∧ ∃ m, w' = w.drewN m := h.mono fun _ _ hh => ⟨hh.1, n, hh.2.symm⟩

/-- The texts of statements are not too long. -/
def Short (B : Nat) (ss : List Stm) : Prop := ∀ s ∈ ss, s.module.length ≤ B ∧ s.name.length ≤ B

/-- The cells of a statement. -/
def stmCells (s : Stm) : List Value := [.int .i64 s.kind, .string (mk s.module), .int .i64 s.level, .string (mk s.name), .int .i64 s.value]

/-- The slice v reads as the statements ss in w, in a block of D. -/
def StmsIn (w : World) (D : Nat → Prop) (v : Value) (ss : List Stm) : Prop :=
  ∃ a cap, v = .slice a ss.length cap ∧ ss.length ≤ cap ∧ cap ≤ maxLen ∧
    (0 < ss.length → ∃ b off, a = some ⟨b, off, none⟩ ∧ D b ∧ b < w.heap.size ∧
      ∀ i (h : i < ss.length), w.cell? ⟨b, off + i * 5, none⟩ = some (.int .i64 ss[i].kind) ∧ w.cell? ⟨b, off + i * 5 + 1, none⟩ = some (.string (mk ss[i].module)) ∧
        w.cell? ⟨b, off + i * 5 + 2, none⟩ = some (.int .i64 ss[i].level) ∧ w.cell? ⟨b, off + i * 5 + 3, none⟩ = some (.string (mk ss[i].name)) ∧ w.cell? ⟨b, off + i * 5 + 4, none⟩ = some (.int .i64 ss[i].value))

theorem StmsIn.keep {w w' : World} {D : Nat → Prop} {v : Value} {ss : List Stm} (h : StmsIn w D v ss) (hs : w.heap.size ≤ w'.heap.size) (hk : ∀ b, D b → b < w.heap.size → w'.heap[b]? = w.heap[b]?) : StmsIn w' D v ss := by
  obtain ⟨a, cap, h1, h2, h3, h4⟩ := h
  refine ⟨a, cap, h1, h2, h3, fun hx => ?_⟩
  obtain ⟨b, off, e1, e2, e3, e4⟩ := h4 hx
  refine ⟨b, off, e1, e2, Nat.lt_of_lt_of_le e3 hs, fun i hi => ?_⟩
  have hc : ∀ o, w'.cell? ⟨b, o, none⟩ = w.cell? ⟨b, o, none⟩ := fun o => by rw [World.cell?_of_block (w := w) (hk b e2 e3)]
  simp only [hc]
  exact e4 i hi

theorem StmsIn.below {w w' : World} {D : Nat → Prop} {v : Value} {ss : List Stm} (h : StmsIn w D v ss) (hb : Below w.heap.size w w') : StmsIn w' D v ss := h.keep hb.size (fun b _ hlt => hb.block b hlt)

theorem StmsIn.mono {w : World} {D D' : Nat → Prop} {v : Value} {ss : List Stm} (h : StmsIn w D v ss) (hd : ∀ b, b < w.heap.size → D b → D' b) : StmsIn w D' v ss := by
  obtain ⟨a, cap, h1, h2, h3, h4⟩ := h
  refine ⟨a, cap, h1, h2, h3, fun hx => ?_⟩
  obtain ⟨b, off, e1, e2, e3, e4⟩ := h4 hx
  exact ⟨b, off, e1, hd b e3 e2, e3, e4⟩

theorem StmsIn.len {w : World} {D : Nat → Prop} {v : Value} {ss : List Stm} (h : StmsIn w D v ss) : ∃ a cap, v = .slice a ss.length cap ∧ ss.length ≤ cap ∧ cap ≤ maxLen := by
  obtain ⟨a, cap, h1, h2, h3, _⟩ := h
  exact ⟨a, cap, h1, h2, h3⟩

theorem StmsIn.at_ {w : World} {D : Nat → Prop} {v : Value} {ss : List Stm} (h : StmsIn w D v ss) {i : Nat} (hi : i < ss.length) : ∃ b off cap, v = .slice (some ⟨b, off, none⟩) ss.length cap ∧ D b ∧ b < w.heap.size ∧
    w.cell? ⟨b, off + i * 5, none⟩ = some (.int .i64 ss[i].kind) ∧ w.cell? ⟨b, off + i * 5 + 1, none⟩ = some (.string (mk ss[i].module)) ∧
        w.cell? ⟨b, off + i * 5 + 2, none⟩ = some (.int .i64 ss[i].level) ∧ w.cell? ⟨b, off + i * 5 + 3, none⟩ = some (.string (mk ss[i].name)) ∧ w.cell? ⟨b, off + i * 5 + 4, none⟩ = some (.int .i64 ss[i].value) := by
  obtain ⟨a, cap, h1, h2, h3, h4⟩ := h
  obtain ⟨b, off, e1, e2, e3, e4⟩ := h4 (by omega)
  subst e1
  exact ⟨b, off, cap, h1, e2, e3, e4 i hi⟩

end Go.Proofs.YtolhgklbkjdpiaaGreat.Nm
