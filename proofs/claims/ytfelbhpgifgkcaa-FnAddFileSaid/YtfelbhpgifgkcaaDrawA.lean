/- The function that draws a tree and a file for a law. -/
import Derived.Test.YtfelbhpgifgkcaaDrawZ
set_option linter.unusedVariables false
set_option linter.unusedSimpArgs false
namespace Go.Proofs.Ytfelbhpgifgkcaa
open Go.RowKit Go.Proofs.Ytfelbhpgifgkcaa.Nm

set_option maxRecDepth 100000 in
set_option maxHeartbeats 1500000 in
theorem spec_DrawAddFile (a : Option Addr) (n cap : Nat) (w : World) (hc : Code w w.heap.size a n cap) :
    Calls Try.prog 16 #[.slice a n cap] w fun e w' => ∃ v ps f bv, e = .returned (.tuple #[.agg #[v], filV (f, bv)]) ∧ TreeD w w' v ps ∧ w'.ownsRow w.heap.size 139 5 bv f.body.length (f.body.flatMap stmCells) ∧ ShortF 8 f ∧ f.body.length ≤ 5 := by
  go_enter Try.func16, Try.ntmps16
  go_wp2_with fail
  refine (spec_newReader a n cap _ (code_alloc (code_alloc hc _) _)).mono ?_
  rintro e w1 ⟨rfl, hr, hb⟩
  have hz := hb.size
  have B1 := Lib.hid ((Boxed2.start w #[.slice none 0 0] 25 #[.int .i64 0, .string (⟨#[]⟩ : ByteArray), .string (⟨#[]⟩ : ByteArray), .bool false, .int .i64 0, .slice none 0 0] 36).step hb)
  have hz1 : w.heap.size + 2 ≤ w1.heap.size := by simp at hz; omega
  simp only [World.size_alloc] at hr hz ⊢
  have hRlt := hr.lt
  clear hb
  go_wp2_with fail
  refine (spec_anyTree _ 0 _ hr (by omega)).mono ?_
  rintro e w2 ⟨v, ps, rfl, hrows, hsh, hl, hb5, q2, hq2, hr2, hg2⟩
  obtain ⟨va, vc, rfl⟩ := hrows.len
  have HR2 := Lib.hid hrows
  have Hsh := Lib.hid hsh
  have Hb5 := Lib.hid hb5
  have B2 := Lib.hid (show Below (w.heap.size + 2) ((w.alloc (.cells #[.slice none 0 0] 25)).alloc (.cells #[.int .i64 0, .string (⟨#[]⟩ : ByteArray), .string (⟨#[]⟩ : ByteArray), .bool false, .int .i64 0, .slice none 0 0] 36)) w2 from below_gb (by have := B1.out; unfold Boxed2 at this; simpa using this) hz1 (by omega) hg2)
  have hz2 := hg2.size
  clear hrows hsh hb5 hg2 B1
  go_wp2_with fail
  refine (spec_anyFile _ q2 _ hr2 (by omega)).mono ?_
  rintro e w3 ⟨⟨fr, fp, fn, fi, fst, fb⟩, bv, rfl, hown, hsf, hl4, q3, hq3, hr3, hg3⟩
  unfold filV
  dsimp only at hown hl4 ⊢
  obtain ⟨ba', bc, rfl⟩ := owns_shape hown
  have HR3 := Lib.hid (HR2.out.gb hg3 (by omega))
  have Hown := Lib.hid hown
  have Hsf := Lib.hid hsf
  have B3 := Lib.hid (below_gb B2.out (by omega) (by omega) hg3)
  have X3 := Lib.hid (show Boxed2 w #[.slice none 0 0] 25 #[.int .i64 0, .string (⟨#[]⟩ : ByteArray), .string (⟨#[]⟩ : ByteArray), .bool false, .int .i64 0, .slice none 0 0] 36 w3 from by unfold Boxed2; simpa using B3.out)
  have x0 : w3.cell? ⟨w.heap.size, 0, none⟩ = some (.slice none 0 0) := X3.out.one.cell 0
  have y0 : w3.cell? ⟨w.heap.size + 1, 0, none⟩ = some (.int .i64 0) := X3.out.cell 0
  have y1 : w3.cell? ⟨w.heap.size + 1, 1, none⟩ = some (.string (⟨#[]⟩ : ByteArray)) := X3.out.cell 1
  have y2 : w3.cell? ⟨w.heap.size + 1, 2, none⟩ = some (.string (⟨#[]⟩ : ByteArray)) := X3.out.cell 2
  have y3 : w3.cell? ⟨w.heap.size + 1, 3, none⟩ = some (.bool false) := X3.out.cell 3
  have y4 : w3.cell? ⟨w.heap.size + 1, 4, none⟩ = some (.int .i64 0) := X3.out.cell 4
  have y5 : w3.cell? ⟨w.heap.size + 1, 5, none⟩ = some (.slice none 0 0) := X3.out.cell 5
  have fz := fun (b j : Nat) (h : b < w.heap.size + 2) => (B3.out.frozen (p := ⟨b, j, none⟩) h)
  have g0 : w3.frozen? ⟨w.heap.size, 0, none⟩ = false := by rw [fz _ _ (by omega)]; simp [go_sem]
  have f0 : w3.frozen? ⟨w.heap.size + 1, 0, none⟩ = false := by rw [fz _ _ (by omega)]; simp [go_sem]
  have f1 : w3.frozen? ⟨w.heap.size + 1, 1, none⟩ = false := by rw [fz _ _ (by omega)]; simp [go_sem]
  have f2 : w3.frozen? ⟨w.heap.size + 1, 2, none⟩ = false := by rw [fz _ _ (by omega)]; simp [go_sem]
  have f3 : w3.frozen? ⟨w.heap.size + 1, 3, none⟩ = false := by rw [fz _ _ (by omega)]; simp [go_sem]
  have f4 : w3.frozen? ⟨w.heap.size + 1, 4, none⟩ = false := by rw [fz _ _ (by omega)]; simp [go_sem]
  have f5 : w3.frozen? ⟨w.heap.size + 1, 5, none⟩ = false := by rw [fz _ _ (by omega)]; simp [go_sem]
  have hz3 : w2.heap.size ≤ w3.heap.size := hg3.size
  clear fz hown hsf hg3 hr hr2 hr3 HR2 B2
  generalize hpn : ps.length = pn at *
  go_wp2_with fail
  refine bodyPost_ret (v := .tuple #[.agg #[.slice va pn vc], filV (⟨fr, fp, fn, fi, fst, fb⟩, .slice ba' fb.length bc)]) (by simp [results, Try.results16, go_sem, filV, *]) rfl ⟨_, ps, _, _, rfl, ⟨?_, Hsh.out, by omega, Hb5.out, ?_⟩, ?_, Hsf.out, by dsimp only; omega⟩
  · have h3 := HR3.out.mono (B' := w.heap.size + 2) (by omega)
    refine RowsB.mono (B := w.heap.size + 2) ?_ (by omega)
    repeat (first | with_reducible exact h3 | with_reducible refine RowsB.set_low ?_ (by dsimp only; omega) _)
  · have h3 := X3.out.below
    (repeat (with_reducible first | exact Below.refl _ _ | assumption | refine ba ?_ _ | refine bd ?_ | refine bdN ?_ _ | refine bs ?_ (by first | exact Nat.le_refl _ | (dsimp only; omega) | (simp; done)) _ | refine bt ?_ (by assumption)))
  · have h3 := owns_mono Hown.out (show w.heap.size + 2 ≤ _ by omega)
    refine owns_mono (B := w.heap.size + 2) ?_ (by omega)
    repeat (first | with_reducible exact h3 | with_reducible refine owns_set_low ?_ (by dsimp only; omega) _)
end Go.Proofs.Ytfelbhpgifgkcaa
