/- Contracts of ForgetAll, and words for finders without directories. -/
import Derived.Test.YtllopbfgiflokaaGreatDisks4
import Derived.Test.YtllopbfgiflokaaGreatDisks2
import Derived.Test.YtllopbfgiflokaaGreatMarkD
set_option linter.unusedVariables false
set_option linter.unusedSimpArgs false
namespace Go.Proofs.YtllopbfgiflokaaGreat
open Go.RowKit Go.Proofs.YtllopbfgiflokaaGreat.Nm

theorem dirs_nil (w : World) : DirsIn w (fun _ => True) (.slice none 0 0) [] := ⟨none, 0, rfl, by simp, by unfold maxLen; omega, fun hx => absurd hx (by simp)⟩
theorem ownDirs_nil (w : World) (B : Nat) : OwnDirs w B (.slice none 0 0) [] := ⟨World.ownsRow_nil _ _ _ _, OwnNames.nil _ _⟩
theorem ownDirs_re {w : World} {B : Nat} (h : OwnDirs w B (.slice none 0 0) []) (B' : Nat) : OwnDirs w B' (.slice none 0 0) [] := ownDirs_nil w B'
theorem dirs_turned {w w' : World} {B : Nat} {v : Value} {ps : List (Dr × Value)} {S : Nat → Prop} (h : OwnDirs w B v ps) (ht : Turned S w w') (hs : ∀ b, BlkD v ps b → ¬ S b) : OwnDirs w' B v ps :=
  ⟨owns_turned h.1 ht (fun b hb => hs b (.inl hb)), names_turned h.2 ht (fun p hp b hb => hs b (.inr ⟨p, hp, hb⟩))⟩
theorem blkD_ge {w : World} {B : Nat} {v : Value} {ps : List (Dr × Value)} (h : OwnDirs w B v ps) : ∀ b, BlkD v ps b → B ≤ b ∧ b < w.heap.size := by
  rintro b (hb | ⟨p, hp, hb⟩)
  · exact h.1.lt b hb
  · exact (h.2.1 p hp).lt b hb
theorem laws_markFinder0 (B : Nat) (c d : Int) (k : Nat) (w : World) (hown : OwnDirs w B (.slice none 0 0) []) (h1 : 1 ≤ k) (h9 : k ≤ 9000000) :
    Calls Tryz.prog 16 #[.agg #[.slice none 0 0, .int .i64 c, .int .i64 d], .int .i64 k] w fun e w' => e = .returned (.int .i64 ((k + 0 : Nat) : Int)) ∧ OwnDirs w' B (.slice none 0 0) [] ∧ Turned (BlkD (.slice none 0 0) []) w w' := laws_markFinder B _ c d [] k w hown h1 h9 (by simp)
theorem laws_heldFinder00 (c d : Int) (q : Nat) (w : World) (h : DirsIn w (fun _ => True) (.slice none 0 0) []) : Calls Tryz.prog 25 #[.agg #[.slice none 0 0, .int .i64 c, .int .i64 d], .int .i64 q] w fun e w' => e = .returned (.int .i64 ((q + 0 : Nat) : Int)) ∧ Below w.heap.size w w' := laws_heldFinder0 c d q w
end Go.Proofs.YtllopbfgiflokaaGreat
