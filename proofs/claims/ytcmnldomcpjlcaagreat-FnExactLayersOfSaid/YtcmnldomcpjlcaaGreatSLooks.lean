/- Contracts of the model's functions of chapter 3 over a path. -/
import Derived.Test.YtcmnldomcpjlcaaGreatSFind
import Derived.Test.YtcmnldomcpjlcaaGreatLooks
set_option linter.unusedVariables false
set_option linter.unusedSimpArgs false
namespace Go.Proofs.YtcmnldomcpjlcaaGreat
open Go.RowKit Go.Proofs.YtcmnldomcpjlcaaGreat.Nm

/-- The cells of the tree's box and of the result's. -/
theorem kept2 {w w' : World} {a : Option Addr} {n c : Nat} {T U : TypeId} (hB : Boxed2 w #[.slice a n c] T #[.int .i64 0, .int .i64 0, .slice none 0 0] U w') :
    w'.cell? ⟨w.heap.size, 0, none⟩ = some (.slice a n c) ∧ w'.cell? ⟨w.heap.size + 1, 0, none⟩ = some (.int .i64 0) ∧ w'.cell? ⟨w.heap.size + 1, 1, none⟩ = some (.int .i64 0) ∧ w'.cell? ⟨w.heap.size + 1, 2, none⟩ = some (.slice none 0 0) ∧
    w'.frozen? ⟨w.heap.size + 1, 0, none⟩ = false ∧ w'.frozen? ⟨w.heap.size + 1, 1, none⟩ = false ∧ w'.frozen? ⟨w.heap.size + 1, 2, none⟩ = false ∧ w.heap.size + 1 < w'.heap.size :=
  ⟨hB.one.cell 0, hB.cell 0, hB.cell 1, hB.cell 2, hB.two.free2 0, hB.two.free2 1, hB.two.free2 2, hB.lt⟩



end Go.Proofs.YtcmnldomcpjlcaaGreat
