/- A box of a call's own, cell by cell. -/
import Derived.Test.YtgecemngfpgcoaaTreeMem
set_option linter.unusedVariables false
set_option linter.unusedSimpArgs false
namespace Go.Proofs.Ytgecemngfpgcoaa
open Go.RowKit Go.Proofs.Ytgecemngfpgcoaa.Nm

/-- The block G holds the cells cs. -/
def BoxC (w : World) (G : Nat) (cs : Array Value) : Prop := G < w.heap.size ∧ ∀ i : Nat, w.cell? ⟨G, i, none⟩ = cs[i]?
theorem BoxC.start (w : World) (cs : Array Value) (T : TypeId) : BoxC (w.alloc (.cells cs T)) w.heap.size cs := ⟨(Boxed.start w cs T).lt, fun i => (Boxed.start w cs T).cell i⟩
theorem BoxC.at {w : World} {G G' : Nat} {cs : Array Value} (h : BoxC w G cs) (e : G = G') : BoxC w G' cs := e ▸ h
theorem BoxC.keep {w w' : World} {G : Nat} {cs : Array Value} (h : BoxC w G cs) (hs : w.heap.size ≤ w'.heap.size) (hk : w'.heap[G]? = w.heap[G]?) : BoxC w' G cs :=
  ⟨Nat.lt_of_lt_of_le h.1 hs, fun i => by rw [World.cell?_of_block (w := w) hk]; exact h.2 i⟩
theorem BoxC.below {w w' : World} {G : Nat} {cs : Array Value} (h : BoxC w G cs) (hb : Below w.heap.size w w') : BoxC w' G cs := h.keep hb.size (hb.block G h.1)
theorem BoxC.turned {S : Nat → Prop} {w w' : World} {G : Nat} {cs : Array Value} (h : BoxC w G cs) (ht : Turned S w w') (hn : ¬ S G) : BoxC w' G cs := h.keep ht.size (ht.block G h.1 hn)
end Go.Proofs.Ytgecemngfpgcoaa
