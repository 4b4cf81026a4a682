/- Contracts of the functions that ask for a part of a name: the program's and the model's both say whether a text is one to three letters from a to z. -/
import Derived.Test.YtekgongbffaenaaTools
set_option linter.unusedVariables false
set_option linter.unusedSimpArgs false
namespace Go.Proofs.Ytekgongbffaenaa
open Go.RowKit Go.Proofs.Ytekgongbffaenaa.Nm


set_option maxHeartbeats 400000 in
theorem spec_inRange (n lo hi : Int) (w : World) :
    Calls Try.prog 15 #[.int .i64 n, .int .i64 lo, .int .i64 hi] w fun e w' => e = .returned (.bool (decide (lo ≤ n) && decide (n ≤ hi))) ∧ w = w' := by
  by_cases h1 : lo ≤ n
  · by_cases h2 : n ≤ hi
    · go_enter Try.func15, Try.ntmps15
      go_wp2
      go_ret
      exact ⟨ret_bool (by simp [h1, h2]), rfl⟩
    · go_enter Try.func15, Try.ntmps15
      go_wp2
      go_ret
      exact ⟨ret_bool (by simp [h1, h2]), rfl⟩
  · go_enter Try.func15, Try.ntmps15
    go_wp2
    go_ret
    exact ⟨ret_bool (by rw [decide_eq_false (Int.not_le.2 (by omega : n < lo))]; rfl), rfl⟩


/-! ### Contracts of the functions that split a text at its dots. -/
theorem infoS : (Try.prog.info? 9).map (fun i => (i.zero, i.size, i.bytes)) = some (some (.string ByteArray.empty), 1, 16) := by kernel_rfl



/-! ### Contracts of the functions that ask for the parts of a name, and for a name. -/


/-! ### Contracts of the functions that take names apart and ask for names. -/
theorem newStrs_nil {T : TypeId} {xs : List Bs} {w : World} (h : xs = []) : NewStrs T xs w (.returned (.slice none 0 0)) w := by
  subst h; exact ⟨_, rfl, World.ownsRow_nil _ _ _ _, Below.refl _ _⟩






/-! ### Contracts of the functions that join parts with dots. -/


/-! ### Contracts of the functions that join parts, and that tell the parent and the last part of a name. -/



end Go.Proofs.Ytekgongbffaenaa
