/- Contracts of the functions that tell the parent, the last part and a child of a name, and what is under a package. -/
import Derived.Test.YtkecjifejbhdpaaVp
import Derived.Test.YtkecjifejbhdpaaPlain
set_option linter.unusedVariables false
set_option linter.unusedSimpArgs false
namespace Go.Proofs.Ytkecjifejbhdpaa
open Go.RowKit Go.Proofs.Ytkecjifejbhdpaa.Nm


set_option maxRecDepth 100000 in
set_option maxHeartbeats 400000 in
theorem spec_validPackage (l : Bs) (w : World) (hs : l.length ≤ 8000000) :
    Calls Try.prog 24 #[.string (mk l)] w fun e w' => e = .returned (.bool (vpk l)) ∧ Below w.heap.size w w' := by
  by_cases h0 : l = []
  · subst h0
    go_enter Try.func24, Try.ntmps24
    go_wp2_with fail
    go_ret
    exact ⟨rfl, Below.refl _ _⟩
  · have hd : l.isEmpty = false := by simpa using h0
    have Hv := Lib.hid (show vpk l = vn l by rw [vpk, hd]; rfl)
    go_enter Try.func24, Try.ntmps24
    go_wp2_with fail
    refine (spec_validName l w hs).mono ?_
    rintro e w1 ⟨rfl, hb⟩
    go_wp2_with fail
    go_ret
    rw [Hv.out]
    exact ⟨rfl, hb⟩











/-! ### Contracts of the functions that tell what is under a package. -/




/-! ### Contracts of the functions that tell the names above a name. -/
def abv (ps : List Bs) (k : Nat) : List Bs := (List.range k).map (fun i => join (ps.take (i + 1)))
theorem abv_len (ps : List Bs) (k : Nat) : (abv ps k).length = k := by simp [abv]
theorem abv_succ (ps : List Bs) (k : Nat) : abv ps k ++ [join (ps.take (k + 1))] = abv ps (k + 1) := by simp [abv, List.range_succ]
theorem above_abv (l : Bs) : above l = abv (split l) (split l).length := rfl



end Go.Proofs.Ytkecjifejbhdpaa
