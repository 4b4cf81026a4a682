/- Words for the exact laws whose answer is a find. -/
import Derived.Test.YtkmclfhnhcphoaaSLooks
import Derived.Test.YtkmclfhnhcphoaaMarks2
import Derived.Test.YtkmclfhnhcphoaaHeld
set_option linter.unusedVariables false
set_option linter.unusedSimpArgs false
namespace Go.Proofs.Ytkmclfhnhcphoaa
open Go.RowKit Go.Proofs.Ytkmclfhnhcphoaa.Nm

/-- The cells of a find's box. -/
def SpcC (w : World) (G : Nat) (sp : Spc) (v : Value) : Prop := w.cell? ⟨G, 0, none⟩ = some (.int .i64 sp.kind) ∧ w.cell? ⟨G, 1, none⟩ = some (.int .i64 sp.file) ∧ w.cell? ⟨G, 2, none⟩ = some v ∧ G < w.heap.size
theorem SpcC.start (w : World) (sp : Spc) (v : Value) (T : TypeId) : SpcC (w.alloc (.cells #[.int .i64 sp.kind, .int .i64 sp.file, v] T)) w.heap.size sp v := by
  have h := Boxed.start w #[.int .i64 sp.kind, .int .i64 sp.file, v] T
  exact ⟨h.cell 0, h.cell 1, h.cell 2, h.lt⟩
theorem SpcC.keep {w w' : World} {G : Nat} {sp : Spc} {v : Value} (h : SpcC w G sp v) (hs : w.heap.size ≤ w'.heap.size) (hk : w'.heap[G]? = w.heap[G]?) : SpcC w' G sp v := by
  obtain ⟨h0, h1, h2, h3⟩ := h
  have hc : ∀ o, w'.cell? ⟨G, o, none⟩ = w.cell? ⟨G, o, none⟩ := fun o => by rw [World.cell?_of_block (w := w) hk]
  exact ⟨(hc 0).trans h0, (hc 1).trans h1, (hc 2).trans h2, by omega⟩
theorem SpcC.below {w w' : World} {G : Nat} {sp : Spc} {v : Value} (h : SpcC w G sp v) (hb : Below w.heap.size w w') : SpcC w' G sp v := h.keep hb.size (hb.block G h.2.2.2)
theorem SpcC.turned {S : Nat → Prop} {w w' : World} {G : Nat} {sp : Spc} {v : Value} (h : SpcC w G sp v) (ht : Turned S w w') (hn : ¬ S G) : SpcC w' G sp v := h.keep ht.size (ht.block G h.2.2.2 hn)
theorem owns_unturned {S : Nat → Prop} {w w' : World} {B e size n : Nat} {u : Value} {xs : List Value} (h : w.ownsRow B e size u n xs) (ht : Turned S w w') (hs : ∀ b, u.ownBlock = some b → ¬ S b) : w'.ownsRow B e size u n xs :=
  owns_heap h (fun b hb => ht.block b (h.lt b hb).2 (hs b hb))
end Go.Proofs.Ytkmclfhnhcphoaa
