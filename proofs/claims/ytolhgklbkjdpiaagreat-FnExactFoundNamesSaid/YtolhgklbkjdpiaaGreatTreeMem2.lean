/- Words for memory that holds files and trees. -/
import Derived.Test.YtolhgklbkjdpiaaGreatTreeMem
set_option linter.unusedVariables false
set_option linter.unusedSimpArgs false
namespace Go.Proofs.YtolhgklbkjdpiaaGreat.Nm
open Go.RowKit

/-- The slice v reads as the files fs in w, in blocks of D, and so do their bodies. -/
def FilsIn (w : World) (D : Nat → Prop) (v : Value) (fs : List Fil) : Prop :=
  ∃ a cap, v = .slice a fs.length cap ∧ fs.length ≤ cap ∧ cap ≤ maxLen ∧
    (0 < fs.length → ∃ b off, a = some ⟨b, off, none⟩ ∧ D b ∧ b < w.heap.size ∧
      ∀ i (h : i < fs.length), ∃ bv, StmsIn w D bv fs[i].body ∧ w.cell? ⟨b, off + i * 6, none⟩ = some (.int .i64 fs[i].root) ∧ w.cell? ⟨b, off + i * 6 + 1, none⟩ = some (.string (mk fs[i].pack)) ∧
        w.cell? ⟨b, off + i * 6 + 2, none⟩ = some (.string (mk fs[i].name)) ∧ w.cell? ⟨b, off + i * 6 + 3, none⟩ = some (.bool fs[i].init) ∧ w.cell? ⟨b, off + i * 6 + 4, none⟩ = some (.int .i64 fs[i].stamp) ∧
        w.cell? ⟨b, off + i * 6 + 5, none⟩ = some bv)

theorem FilsIn.keep {w w' : World} {D : Nat → Prop} {v : Value} {fs : List Fil} (h : FilsIn w D v fs) (hs : w.heap.size ≤ w'.heap.size) (hk : ∀ b, D b → b < w.heap.size → w'.heap[b]? = w.heap[b]?) : FilsIn w' D v fs := by
  obtain ⟨a, cap, h1, h2, h3, h4⟩ := h
  refine ⟨a, cap, h1, h2, h3, fun hx => ?_⟩
  obtain ⟨b, off, e1, e2, e3, e4⟩ := h4 hx
  refine ⟨b, off, e1, e2, Nat.lt_of_lt_of_le e3 hs, fun i hi => ?_⟩
  have hc : ∀ o, w'.cell? ⟨b, o, none⟩ = w.cell? ⟨b, o, none⟩ := fun o => by rw [World.cell?_of_block (w := w) (hk b e2 e3)]
  simp only [hc]
  obtain ⟨bv, g1, g2⟩ := e4 i hi
  exact ⟨bv, g1.keep hs hk, g2⟩

theorem FilsIn.below {w w' : World} {D : Nat → Prop} {v : Value} {fs : List Fil} (h : FilsIn w D v fs) (hb : Below w.heap.size w w') : FilsIn w' D v fs := h.keep hb.size (fun b _ hlt => hb.block b hlt)

theorem FilsIn.mono {w : World} {D D' : Nat → Prop} {v : Value} {fs : List Fil} (h : FilsIn w D v fs) (hd : ∀ b, b < w.heap.size → D b → D' b) : FilsIn w D' v fs := by
  obtain ⟨a, cap, h1, h2, h3, h4⟩ := h
  refine ⟨a, cap, h1, h2, h3, fun hx => ?_⟩
  obtain ⟨b, off, e1, e2, e3, e4⟩ := h4 hx
  refine ⟨b, off, e1, hd b e3 e2, e3, fun i hi => ?_⟩
  obtain ⟨bv, g1, g2⟩ := e4 i hi
  exact ⟨bv, g1.mono hd, g2⟩

theorem FilsIn.len {w : World} {D : Nat → Prop} {v : Value} {fs : List Fil} (h : FilsIn w D v fs) : ∃ a cap, v = .slice a fs.length cap ∧ fs.length ≤ cap ∧ cap ≤ maxLen := by
  obtain ⟨a, cap, h1, h2, h3, _⟩ := h
  exact ⟨a, cap, h1, h2, h3⟩

theorem FilsIn.at_ {w : World} {D : Nat → Prop} {v : Value} {fs : List Fil} (h : FilsIn w D v fs) {i : Nat} (hi : i < fs.length) : ∃ b off cap bv, v = .slice (some ⟨b, off, none⟩) fs.length cap ∧ D b ∧ b < w.heap.size ∧ StmsIn w D bv fs[i].body ∧
    w.cell? ⟨b, off + i * 6, none⟩ = some (.int .i64 fs[i].root) ∧ w.cell? ⟨b, off + i * 6 + 1, none⟩ = some (.string (mk fs[i].pack)) ∧
        w.cell? ⟨b, off + i * 6 + 2, none⟩ = some (.string (mk fs[i].name)) ∧ w.cell? ⟨b, off + i * 6 + 3, none⟩ = some (.bool fs[i].init) ∧ w.cell? ⟨b, off + i * 6 + 4, none⟩ = some (.int .i64 fs[i].stamp) ∧
        w.cell? ⟨b, off + i * 6 + 5, none⟩ = some bv := by
  obtain ⟨a, cap, h1, h2, h3, h4⟩ := h
  obtain ⟨b, off, e1, e2, e3, e4⟩ := h4 (by omega)
  subst e1
  obtain ⟨bv, g1, g2⟩ := e4 i hi
  exact ⟨b, off, cap, bv, h1, e2, e3, g1, g2⟩

/-- A block of the call's own that stands first among the new ones, and has not turned. -/
def Boxed (w : World) (cs : Array Value) (T : TypeId) (wr : World) : Prop := Below (w.alloc (.cells cs T)).heap.size (w.alloc (.cells cs T)) wr
theorem Boxed.start (w : World) (cs : Array Value) (T : TypeId) : Boxed w cs T (w.alloc (.cells cs T)) := Below.refl _ _
theorem Boxed.lt {w wr : World} {cs : Array Value} {T : TypeId} (h : Boxed w cs T wr) : w.heap.size < wr.heap.size := by
  have := h.size; simp at this; omega
theorem Boxed.cell {w wr : World} {cs : Array Value} {T : TypeId} (h : Boxed w cs T wr) (i : Nat) : wr.cell? ⟨w.heap.size, i, none⟩ = cs[i]? := by
  have e : (w.alloc (.cells cs T)).heap[w.heap.size]? = some (.cells cs T (0, 0)) := by
    show (w.heap.push (Obj.cells cs T (0, 0)))[w.heap.size]? = _
    simp
  have hb := h.block w.heap.size (by simp)
  rw [e] at hb
  simp only [World.cell?, hb]
  rfl
theorem Boxed.below {w wr : World} {cs : Array Value} {T : TypeId} (h : Boxed w cs T wr) : Below w.heap.size w wr :=
  (ba (Below.refl _ _) _).trans (h.mono (by simp))
theorem Boxed.step {w wr w' : World} {cs : Array Value} {T : TypeId} (h : Boxed w cs T wr) (hb : Below wr.heap.size wr w') : Boxed w cs T w' := bt h hb

/-- The texts of a file are not too long. -/
def ShortF (B : Nat) (f : Fil) : Prop := f.pack.length ≤ B ∧ f.name.length ≤ B ∧ Short B f.body
def ShortT (B : Nat) (fs : List Fil) : Prop := ∀ f ∈ fs, ShortF B f

end Go.Proofs.YtolhgklbkjdpiaaGreat.Nm
