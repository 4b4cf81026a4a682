/- What the steps from a walk to a given row share: the code that came in, as bytes below the heap. -/
import Derived.Test.YtgecemngfpgcoaaRows
import Derived.Test.YtgecemngfpgcoaaPick
import Derived.Test.YtgecemngfpgcoaaTools
import Derived.ProofKit
import Derived.OpenShut
import Derived.ShutString
import Derived.ChangeOld
set_option linter.unusedVariables false
set_option linter.unusedSimpArgs false
namespace Go.Proofs.Ytgecemngfpgcoaa
open Go.ChangeShapes Go.WideShapes Go.ChangeAt Go.RowKit

theorem own : ownKnob Try.prog.godebug = none := by kernel_rfl
theorem laidOut : laidOutB Try.prog = true := by kernel_rfl

/-- A slice of bytes that came in: empty, or a row of cells that hold bytes, below the heap's end. -/
theorem code_row (w : World) (x : Addr) (len cap : Nat) (zs : List Int) (hl : len ≤ cap) (hm : cap ≤ maxLen) (hz : zs.length = cap)
    (hcell : ∀ i, i < zs.length → w.cell? (x.add i) = some (.int .u8 (zs.getD i 0))) (hwz : ∀ n ∈ zs, (Lit.int .u8 n).wf = true) : Code w w.heap.size (some x) len cap := by
  by_cases h0 : len = 0
  · exact .inl ⟨h0, hm⟩
  obtain ⟨b, off, spot⟩ := x
  have hc := hcell 0 (by omega)
  have hspot : spot = none := by simpa [Addr.add] using World.cell?_spot hc
  subst hspot
  have hb : b < w.heap.size := by
    have h := World.block_lt_of_cell? w _ hc
    simpa [Addr.add] using h
  refine .inr ⟨b, off, rfl, hb, hl, hm, fun i hi => ?_⟩
  have hci := hcell i (by omega)
  have hmem : zs.getD i 0 ∈ zs := by
    rw [List.getD_eq_getElem?_getD, List.getElem?_eq_getElem (by omega)]; exact List.getElem_mem _
  have hw := bounds_u8 (hwz _ hmem)
  refine ⟨zs.getD i 0, hw.1, hw.2, ?_⟩
  have hadd : (⟨b, off, none⟩ : Addr).add i = ⟨b, off + i, none⟩ := by unfold Addr.add; split <;> simp_all
  rw [hadd] at hci
  exact hci
end Go.Proofs.Ytgecemngfpgcoaa
