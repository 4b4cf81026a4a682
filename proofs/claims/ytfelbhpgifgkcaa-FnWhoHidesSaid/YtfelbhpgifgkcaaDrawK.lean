/- The functions that draw a tree and an index. Written by mkdraws.py. -/
import Derived.Test.YtfelbhpgifgkcaaDrawZ
import Derived.Test.YtfelbhpgifgkcaaDrawG
import Derived.Test.YtfelbhpgifgkcaaDrawP
import Derived.Deep.RegionLaw
set_option linter.unusedVariables false
set_option linter.unusedSimpArgs false
namespace Go.Proofs.Ytfelbhpgifgkcaa
open Go.RowKit Go.Proofs.Ytfelbhpgifgkcaa.Nm

theorem BoxC.gb {w w' : World} {X R : Nat} {cs : Array Value} (h : BoxC w X cs) (hg : w.grownBy w' (some R)) (hne : X ≠ R) : BoxC w' X cs :=
  h.keep hg.size (hg.block X h.1 (fun e => hne (Option.some.inj e)))
theorem BoxC.drew {w : World} {X : Nat} {cs : Array Value} (h : BoxC w X cs) : BoxC w.drew X cs := h.keep (Nat.le_refl _) rfl
theorem RowsB.drewK {w : World} {B : Nat} {v : Value} {ps : List (Fil × Value)} (h : RowsB w B v ps) : RowsB w.drew B v ps := h.below ⟨rfl, rfl, rfl, Nat.le_refl _, fun _ _ => rfl⟩
theorem below_drewK {c : Nat} {a b : World} (h : Below c a b) : Below c a b.drew := ⟨h.os, h.tape, h.output, h.size, h.block⟩
end Go.Proofs.Ytfelbhpgifgkcaa
