/- Contracts of the model's functions that copy trees: with one more file, without one, with one that is edited. -/
import Derived.Deep.RegionLaw
import Derived.Test.YtomdmkhgkaalnaaAdds2
set_option linter.unusedVariables false
set_option linter.unusedSimpArgs false
namespace Go.Proofs.Ytomdmkhgkaalnaa
open Go.RowKit Go.Proofs.Ytomdmkhgkaalnaa.Nm

theorem made_at (W : World) (g base size : Nat) (e : TypeId) (hg : g = W.heap.size) (hb : base ≤ g) : (W.alloc (.cells #[] e)).ownsRow base e size (.slice (some ⟨g, 0, none⟩) 0 0) 0 [] := by
  subst hg
  exact World.ownsRow_made (base := base) (size := size) (e := e) W #[] 0 hb (by unfold maxLen; omega) (by simp)

end Go.Proofs.Ytomdmkhgkaalnaa
