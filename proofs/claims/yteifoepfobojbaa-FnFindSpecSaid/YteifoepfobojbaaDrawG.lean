/- The functions that draw a file that may not be valid. Written by mkany.py. -/
import Derived.Test.YteifoepfobojbaaDrawF
set_option linter.unusedVariables false
set_option linter.unusedSimpArgs false
namespace Go.Proofs.Yteifoepfobojbaa
open Go.RowKit Go.Proofs.Yteifoepfobojbaa.Nm

/-- A drawn file. -/
def DrawnFil (w : World) (e : Ending) (w' : World) : Prop :=
  ∃ (f : Fil) (bv : Value), e = .returned (filV (f, bv)) ∧ w'.ownsRow w.heap.size 82 5 bv f.body.length (f.body.flatMap stmCells) ∧ ShortF 8 f ∧ f.body.length ≤ 4 ∧ Below w.heap.size w w'
theorem code_alloc {w : World} {a : Option Addr} {n cap : Nat} (hc : Code w w.heap.size a n cap) (o : Obj) : Code (w.alloc o) (w.alloc o).heap.size a n cap := by
  rcases hc with ⟨rfl, h⟩ | ⟨b, off, rfl, hb, hl, hcm, hcc⟩
  · exact .inl ⟨rfl, h⟩
  · refine .inr ⟨b, off, rfl, by rw [World.size_alloc]; omega, hl, hcm, fun i hi => ?_⟩
    obtain ⟨c, c1, c2, c3⟩ := hcc i hi
    exact ⟨c, c1, c2, by rw [World.cell?_of_block (w := w) (Below.heap_alloc w o b hb)]; exact c3⟩
end Go.Proofs.Yteifoepfobojbaa
