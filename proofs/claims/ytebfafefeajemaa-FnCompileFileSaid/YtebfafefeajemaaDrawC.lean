/- The function that draws a file and a mode for a law. -/
import Derived.Test.YtebfafefeajemaaDrawG
set_option linter.unusedVariables false
set_option linter.unusedSimpArgs false
namespace Go.Proofs.Ytebfafefeajemaa
open Go.RowKit Go.Proofs.Ytebfafefeajemaa.Nm

set_option maxRecDepth 100000 in
set_option maxHeartbeats 800000 in
theorem spec_DrawCompileFile (a : Option Addr) (n cap : Nat) (w : World) (hc : Code w w.heap.size a n cap) :
    Calls Try.prog 50 #[.slice a n cap] w fun e w' => ∃ (f : Fil) (bv : Value) (m : Int), e = .returned (.tuple #[filV (f, bv), .int .i64 m]) ∧ w'.ownsRow w.heap.size 110 5 bv f.body.length (f.body.flatMap stmCells) ∧ ShortF 8 f ∧ f.body.length ≤ 4 ∧ Below w.heap.size w w' := by
  go_enter Try.func50, Try.ntmps50
  go_wp2_with fail
  refine (spec_newReader a n cap _ (code_alloc hc _)).mono ?_
  rintro e w1 ⟨rfl, hr, hb⟩
  have hz := hb.size
  rw [show (w.alloc (.cells #[.int .i64 0, .string (⟨#[]⟩ : ByteArray), .string (⟨#[]⟩ : ByteArray), .bool false, .int .i64 0, .slice none 0 0] 31)).heap.size = w.heap.size + 1 by simp] at hr
  simp only [World.size_alloc]
  go_wp2_with fail
  refine (spec_anyFile _ 0 _ hr (by omega)).mono ?_
  rintro e w2 ⟨⟨fr, fp, fn, fi, fst, fb⟩, bv, rfl, hown, hsf, hl4, q', hq', hr2, hg⟩
  unfold filV
  dsimp only at hown hl4 ⊢
  obtain ⟨va, vc, rfl⟩ := owns_shape hown
  have hB := below_gb hb hz (by simp) hg
  have hz2 := hg.size
  have hz1 : w.heap.size + 1 ≤ w1.heap.size := by simp at hz; omega
  clear hg hb
  go_wp2_with fail
  refine (reader_one _ q' w2.heap.size 3 [0, 1, 2, 3, -1] _ (hr2.alloc _) (heap_new w2 _ _) (by have := hr2.lt; omega) (by decide) (by decide) (by omega)).mono ?_
  rintro e w3 ⟨m, hm, rfl, hr3, hg3⟩
  have hB3 := below_gb (hB.alloc (by simp; omega) (.cells ([0, 1, 2, 3, -1].map ivN).toArray 3)) (by simp; omega) (by simp) hg3
  have Hown := Lib.hid ((hown.alloc (.cells ([0, 1, 2, 3, -1].map ivN).toArray 3)).kept hg3 (.inr (fun e => by have h1 := (hown.lt _ e).1; have h2 := hr.lt; omega)))
  have hx := (BoxC.start w #[.int .i64 0, .string (⟨#[]⟩ : ByteArray), .string (⟨#[]⟩ : ByteArray), .bool false, .int .i64 0, .slice none 0 0] 31).below hB3
  have x0 : w3.cell? ⟨w.heap.size, 0, none⟩ = some (.int .i64 0) := hx.2 0
  have x1 : w3.cell? ⟨w.heap.size, 1, none⟩ = some (.string (⟨#[]⟩ : ByteArray)) := hx.2 1
  have x2 : w3.cell? ⟨w.heap.size, 2, none⟩ = some (.string (⟨#[]⟩ : ByteArray)) := hx.2 2
  have x3 : w3.cell? ⟨w.heap.size, 3, none⟩ = some (.bool false) := hx.2 3
  have x4 : w3.cell? ⟨w.heap.size, 4, none⟩ = some (.int .i64 0) := hx.2 4
  have x5 : w3.cell? ⟨w.heap.size, 5, none⟩ = some (.slice none 0 0) := hx.2 5
  have fz := fun (j : Nat) => (hB3.frozen (p := ⟨w.heap.size, j, none⟩) (by simp)).trans (show _ = false by simp [go_sem])
  have f0 := fz 0
  have f1 := fz 1
  have f2 := fz 2
  have f3 := fz 3
  have f4 := fz 4
  have f5 := fz 5
  have Hsf := Lib.hid hsf
  have HB := Lib.hid (show Below w.heap.size w w3 from (ba (Below.refl _ _) _).trans (hB3.mono (by simp)))
  clear fz hx hown hsf hB hB3 hg3 hr hr2 hr3 hm hz hz2
  go_wp2_with fail
  refine bodyPost_ret (v := .tuple #[filV (⟨fr, fp, fn, fi, fst, fb⟩, .slice va fb.length vc), .int .i64 m]) (by simp [results, Try.results50, go_sem, filV, *]) rfl ⟨_, _, m, rfl, ?_, Hsf.out, hl4, ?_⟩
  · have h3 := owns_mono Hown.out hz1
    refine owns_mono (B := w.heap.size + 1) ?_ (by omega)
    repeat (first | with_reducible exact h3 | with_reducible refine owns_set_low ?_ (by dsimp only; omega) _)
  · have h3 := HB.out
    (repeat (with_reducible first | exact Below.refl _ _ | assumption | refine ba ?_ _ | refine bd ?_ | refine bdN ?_ _ | refine bs ?_ (by first | exact Nat.le_refl _ | (dsimp only; omega) | (simp; done)) _ | refine bt ?_ (by assumption)))
end Go.Proofs.Ytebfafefeajemaa
