/- A box of three cells (a find) that a drawing region lays at any time. -/
import Derived.Test.YtcmnldomcpjlcaaGreatBoxT
set_option linter.unusedVariables false
set_option linter.unusedSimpArgs false
namespace Go.Proofs.YtcmnldomcpjlcaaGreat
open Go.RowKit Go.Proofs.YtcmnldomcpjlcaaGreat.Nm

theorem boxS_set {w : World} {X : Nat} {x0 x1 x2 : Value} (h : BoxC w X #[x0, x1, x2]) (u0 u1 u2 : Value) : BoxC (((w.setCell ⟨X, 0, none⟩ u0).setCell ⟨X, 1, none⟩ u1).setCell ⟨X, 2, none⟩ u2) X #[u0, u1, u2] := by
  have h0 := h.2 0
  have h1 := h.2 1
  have h2 := h.2 2
  refine ⟨by simpa using h.1, fun i => ?_⟩
  match i with
  | 0 => simp at h0; simp [go_sem, h0]
  | 1 => simp at h1; simp [go_sem, h1]
  | 2 => simp at h2; simp [go_sem, h2]
  | n + 3 =>
    rw [World.cell?_setCell_other _ _ _ _ (by simp), World.cell?_setCell_other _ _ _ _ (by simp), World.cell?_setCell_other _ _ _ _ (by simp)]
    simpa using h.2 (n + 3)
theorem boxS_kept {w w1 : World} {x0 x1 x2 : Value} {T : TypeId} (h : Below (w.alloc (.cells #[x0, x1, x2] T)).heap.size (w.alloc (.cells #[x0, x1, x2] T)) w1) :
    w1.cell? ⟨w.heap.size, 0, none⟩ = some x0 ∧ w1.cell? ⟨w.heap.size, 1, none⟩ = some x1 ∧ w1.cell? ⟨w.heap.size, 2, none⟩ = some x2 ∧ w1.frozen? ⟨w.heap.size, 0, none⟩ = false ∧ w1.frozen? ⟨w.heap.size, 1, none⟩ = false ∧ w1.frozen? ⟨w.heap.size, 2, none⟩ = false ∧ w.heap.size < w1.heap.size := by
  have hb := (BoxC.start w #[x0, x1, x2] T).below h
  have hf := fun o => (h.frozen (p := ⟨w.heap.size, o, none⟩) (by simp)).trans (show (w.alloc (.cells #[x0, x1, x2] T)).frozen? ⟨w.heap.size, o, none⟩ = false by simp [go_sem])
  exact ⟨hb.2 0, hb.2 1, hb.2 2, hf 0, hf 1, hf 2, hb.1⟩
theorem boxS_drew {w w1 : World} {o : Obj} (h : Below (w.alloc o).drew.heap.size (w.alloc o).drew w1) : Below (w.alloc o).heap.size (w.alloc o) w1 := bt (bd (Below.refl _ _)) h
end Go.Proofs.YtcmnldomcpjlcaaGreat
