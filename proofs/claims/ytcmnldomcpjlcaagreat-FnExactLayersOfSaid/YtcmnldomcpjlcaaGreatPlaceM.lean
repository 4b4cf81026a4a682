/- Contract of the program's function that says where the file of a module lies. -/
import Derived.Test.YtcmnldomcpjlcaaGreatBoxT
import Derived.Test.YtcmnldomcpjlcaaGreatPlaces
import Derived.Test.YtcmnldomcpjlcaaGreatKin
set_option linter.unusedVariables false
set_option linter.unusedSimpArgs false
namespace Go.Proofs.YtcmnldomcpjlcaaGreat
open Go.RowKit Go.Proofs.YtcmnldomcpjlcaaGreat.Nm

set_option maxRecDepth 100000 in
set_option maxHeartbeats 1000000 in
theorem impl_placeOfModuleI (r : Int) (n : Bs) (w : World) :
    Calls Tryz.prog 227 #[.int .i64 r, .string (mk n), .bool true] w fun e w' => e = .returned (plVal (r, n, [], true)) ∧ Below w.heap.size w w' := by
  go_enter Tryz.func227, Tryz.ntmps227
  go_wp2_with fail
  exact bodyPost_ret (v := plVal (r, n, [], true)) (by simp [results, Tryz.results227, go_sem, plVal, mk_nil]) rfl ⟨rfl, by (repeat (with_reducible first | exact Below.refl _ _ | assumption | refine ba ?_ _ | refine bd ?_ | refine bdN ?_ _ | refine bs ?_ (by first | exact Nat.le_refl _ | (dsimp only; omega) | (simp; done)) _ | refine bt ?_ (by assumption)))⟩
set_option maxRecDepth 100000 in
set_option maxHeartbeats 1000000 in
theorem impl_placeOfModuleM (r : Int) (n : Bs) (w : World) (hn : n.length ≤ 8000000) :
    Calls Tryz.prog 227 #[.int .i64 r, .string (mk n), .bool false] w fun e w' => e = .returned (plVal (r, parentOf n, lastOf n, false)) ∧ Below w.heap.size w w' := by
  go_enter Tryz.func227, Tryz.ntmps227
  go_wp2_with (first
    | (go_at_call 123; refine (impl_ParentOf n _ (by omega)).mono ?_; (rintro _ _ ⟨rfl, hb⟩; obtain ⟨hc, hf, hs⟩ := bcell hb))
    | (go_at_call 231; refine (impl_LastOf n _ (by omega)).mono ?_; rintro _ w2 ⟨rfl, hb2⟩
       have hB := (show Below (w.alloc (.cells #[.int .i64 0, .string (⟨#[]⟩ : ByteArray), .string (⟨#[]⟩ : ByteArray), .bool false] 132)).heap.size (w.alloc (.cells #[.int .i64 0, .string (⟨#[]⟩ : ByteArray), .string (⟨#[]⟩ : ByteArray), .bool false] 132)) w2 by (repeat (with_reducible first | exact Below.refl _ _ | assumption | refine ba ?_ _ | refine bd ?_ | refine bdN ?_ _ | refine bs ?_ (by first | exact Nat.le_refl _ | (dsimp only; omega) | (simp; done)) _ | refine bt ?_ (by assumption))))
       have hx := (BoxC.start w #[.int .i64 0, .string (⟨#[]⟩ : ByteArray), .string (⟨#[]⟩ : ByteArray), .bool false] 132).below hB
       have x0 : w2.cell? ⟨w.heap.size, 0, none⟩ = some (.int .i64 0) := hx.2 0
       have x1 : w2.cell? ⟨w.heap.size, 1, none⟩ = some (.string (⟨#[]⟩ : ByteArray)) := hx.2 1
       have x2 : w2.cell? ⟨w.heap.size, 2, none⟩ = some (.string (⟨#[]⟩ : ByteArray)) := hx.2 2
       have x3 : w2.cell? ⟨w.heap.size, 3, none⟩ = some (.bool false) := hx.2 3
       have fz := fun (j : Nat) => (hB.frozen (p := ⟨w.heap.size, j, none⟩) (by simp)).trans (show _ = false by simp [go_sem])
       have f0 := fz 0
       have f1 := fz 1
       have f2 := fz 2
       have f3 := fz 3
       clear hx fz))
  exact bodyPost_ret (v := plVal (r, parentOf n, lastOf n, false)) (by simp [results, Tryz.results227, go_sem, plVal, *]) rfl ⟨rfl, by (repeat (with_reducible first | exact Below.refl _ _ | assumption | refine ba ?_ _ | refine bd ?_ | refine bdN ?_ _ | refine bs ?_ (by first | exact Nat.le_refl _ | (dsimp only; omega) | (simp; done)) _ | refine bt ?_ (by assumption)))⟩
end Go.Proofs.YtcmnldomcpjlcaaGreat
