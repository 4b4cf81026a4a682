/- Contracts of the model's functions of chapter 3 over a path. -/
import Derived.Test.YteifoepfobojbaaSFind
import Derived.Test.YteifoepfobojbaaLooks
set_option linter.unusedVariables false
set_option linter.unusedSimpArgs false
namespace Go.Proofs.Yteifoepfobojbaa
open Go.RowKit Go.Proofs.Yteifoepfobojbaa.Nm

/-- The cells of the tree's box and of the result's. -/
theorem kept2 {w w' : World} {a : Option Addr} {n c : Nat} {T U : TypeId} (hB : Boxed2 w #[.slice a n c] T #[.int .i64 0, .int .i64 0, .slice none 0 0] U w') :
    w'.cell? ⟨w.heap.size, 0, none⟩ = some (.slice a n c) ∧ w'.cell? ⟨w.heap.size + 1, 0, none⟩ = some (.int .i64 0) ∧ w'.cell? ⟨w.heap.size + 1, 1, none⟩ = some (.int .i64 0) ∧ w'.cell? ⟨w.heap.size + 1, 2, none⟩ = some (.slice none 0 0) ∧
    w'.frozen? ⟨w.heap.size + 1, 0, none⟩ = false ∧ w'.frozen? ⟨w.heap.size + 1, 1, none⟩ = false ∧ w'.frozen? ⟨w.heap.size + 1, 2, none⟩ = false ∧ w.heap.size + 1 < w'.heap.size :=
  ⟨hB.one.cell 0, hB.cell 0, hB.cell 1, hB.cell 2, hB.two.free2 0, hB.two.free2 1, hB.two.free2 2, hB.lt⟩

set_option maxRecDepth 100000 in
set_option maxHeartbeats 2000000 in
theorem spec_FindSpec (v : Value) (fs : List Fil) (D : Nat → Prop) (pv : Value) (path : List Int) (s : Bs) (w : World) (hr : FilsIn w D v fs) (hz : ShortT 2000000 fs) (hp : IntsIn w pv path) (hsl : s.length ≤ 8000000) :
    Calls Try.prog 7 #[.agg #[v], pv, .string (mk s)] w (NewSpc 3 (findSpec fs path s) w) := by
  have Hr := Lib.hid hr
  have Hz := Lib.hid hz
  have Hz3 := Lib.hid (short2 (B := 3000000) (by omega) hz)
  have Hp := Lib.hid hp
  obtain ⟨aa, ca, rfl, hl, hm⟩ := hr.len
  obtain ⟨pa, pc, rfl, hl1, hm1⟩ := hp.len
  clear hr hz hp hl hm hl1 hm1
  have Hb0 := Lib.hid (Boxed2.start w #[.slice aa fs.length ca] 25 #[.int .i64 0, .int .i64 0, .slice none 0 0] 30)
  cases h1 : okTree fs
  · have H1 := Lib.hid h1
    have Hs := Lib.hid (show findSpec fs path s = noSpc by unfold findSpec okLook; rw [h1]; simp)
    clear h1
    go_enter Try.func7, Try.ntmps7
    go_wp2_with (first
      | (go_at_call 20; refine (spec_validTree _ fs D _ (Hr.out.below (by have := Hb0.out.below; (repeat (with_reducible first | exact Below.refl _ _ | assumption | refine ba ?_ _ | refine bd ?_ | refine bdN ?_ _ | refine bs ?_ (by first | exact Nat.le_refl _ | (dsimp only; omega) | (simp; done)) _ | refine bt ?_ (by assumption))))) Hz3.out).mono ?_; rintro _ w5 ⟨rfl, hb5⟩; rw [H1.out]; have Hx5 := Lib.hid (Hb0.out.step hb5); clear hb5; obtain ⟨a0, c0, c1, c2, g0, g1, g2, s0⟩ := kept2 Hx5.out)
      | (go_at_call 23; refine (spec_noSpec _).mono ?_; rintro _ w8 ⟨v8, rfl, hown8, hb8⟩; dsimp only [noSpc] at hown8 ⊢; obtain ⟨a8, k8, hv8⟩ := owns_shape (n := 0) hown8; subst hv8; have Hown8 := Lib.hid hown8; have Hx8 := Lib.hid (Hx5.out.step hb8); clear hown8 hb8; clear a0 c0 c1 c2 g0 g1 g2 s0; obtain ⟨a0, c0, c1, c2, g0, g1, g2, s0⟩ := kept2 Hx8.out))
    refine bodyPost_ret (v := .agg #[.int .i64 0, .int .i64 (-1), .slice a8 0 k8]) (by simp [results, Try.results7, go_sem, *]) rfl ?_
    rw [Hs.out]
    have hbw := Hx8.out.below
    have hlt9 := Hx5.out.lt
    refine ⟨_, rfl, ?_, by (repeat (with_reducible first | exact Below.refl _ _ | assumption | refine ba ?_ _ | refine bd ?_ | refine bdN ?_ _ | refine bs ?_ (by first | exact Nat.le_refl _ | (dsimp only; omega) | (simp; done)) _ | refine bt ?_ (by assumption)))⟩
    refine owns_mono (B := w.heap.size + 2) ?_ (by omega)
    (repeat (with_reducible first | refine World.ownsRow.alloc ?_ _ | refine owns_set_low ?_ (by first | (dsimp only; omega) | (simp; done) | (simp; omega)) _))
    exact owns_mono Hown8.out (by first | omega | (simp; omega))
  cases h2 : okPath path
  · have H1 := Lib.hid h1
    have H2 := Lib.hid h2
    have Hs := Lib.hid (show findSpec fs path s = noSpc by unfold findSpec okLook; rw [h2]; simp)
    clear h1 h2
    go_enter Try.func7, Try.ntmps7
    go_wp2_with (first
      | (go_at_call 20; refine (spec_validTree _ fs D _ (Hr.out.below (by have := Hb0.out.below; (repeat (with_reducible first | exact Below.refl _ _ | assumption | refine ba ?_ _ | refine bd ?_ | refine bdN ?_ _ | refine bs ?_ (by first | exact Nat.le_refl _ | (dsimp only; omega) | (simp; done)) _ | refine bt ?_ (by assumption))))) Hz3.out).mono ?_; rintro _ w5 ⟨rfl, hb5⟩; rw [H1.out]; have Hx5 := Lib.hid (Hb0.out.step hb5); clear hb5; obtain ⟨a0, c0, c1, c2, g0, g1, g2, s0⟩ := kept2 Hx5.out)
      | (go_at_call 21; refine (spec_validPath _ path _ (Hp.out.below (by have := Hx5.out.below; (repeat (with_reducible first | exact Below.refl _ _ | assumption | refine ba ?_ _ | refine bd ?_ | refine bdN ?_ _ | refine bs ?_ (by first | exact Nat.le_refl _ | (dsimp only; omega) | (simp; done)) _ | refine bt ?_ (by assumption)))))).mono ?_; rintro _ w6 ⟨rfl, hb6⟩; rw [H2.out]; have Hx6 := Lib.hid (Hx5.out.step hb6); clear hb6; clear a0 c0 c1 c2 g0 g1 g2 s0; obtain ⟨a0, c0, c1, c2, g0, g1, g2, s0⟩ := kept2 Hx6.out)
      | (go_at_call 23; refine (spec_noSpec _).mono ?_; rintro _ w8 ⟨v8, rfl, hown8, hb8⟩; dsimp only [noSpc] at hown8 ⊢; obtain ⟨a8, k8, hv8⟩ := owns_shape (n := 0) hown8; subst hv8; have Hown8 := Lib.hid hown8; have Hx8 := Lib.hid (Hx6.out.step hb8); clear hown8 hb8; clear a0 c0 c1 c2 g0 g1 g2 s0; obtain ⟨a0, c0, c1, c2, g0, g1, g2, s0⟩ := kept2 Hx8.out))
    refine bodyPost_ret (v := .agg #[.int .i64 0, .int .i64 (-1), .slice a8 0 k8]) (by simp [results, Try.results7, go_sem, *]) rfl ?_
    rw [Hs.out]
    have hbw := Hx8.out.below
    have hlt9 := Hx6.out.lt
    refine ⟨_, rfl, ?_, by (repeat (with_reducible first | exact Below.refl _ _ | assumption | refine ba ?_ _ | refine bd ?_ | refine bdN ?_ _ | refine bs ?_ (by first | exact Nat.le_refl _ | (dsimp only; omega) | (simp; done)) _ | refine bt ?_ (by assumption)))⟩
    refine owns_mono (B := w.heap.size + 2) ?_ (by omega)
    (repeat (with_reducible first | refine World.ownsRow.alloc ?_ _ | refine owns_set_low ?_ (by first | (dsimp only; omega) | (simp; done) | (simp; omega)) _))
    exact owns_mono Hown8.out (by first | omega | (simp; omega))
  have h3l := okPath_len h2
  cases h3 : vn s
  · have H1 := Lib.hid h1
    have H2 := Lib.hid h2
    have H3 := Lib.hid h3
    have Hs := Lib.hid (show findSpec fs path s = noSpc by unfold findSpec byParts; rw [h3]; simp)
    clear h1 h2 h3
    go_enter Try.func7, Try.ntmps7
    go_wp2_with (first
      | (go_at_call 20; refine (spec_validTree _ fs D _ (Hr.out.below (by have := Hb0.out.below; (repeat (with_reducible first | exact Below.refl _ _ | assumption | refine ba ?_ _ | refine bd ?_ | refine bdN ?_ _ | refine bs ?_ (by first | exact Nat.le_refl _ | (dsimp only; omega) | (simp; done)) _ | refine bt ?_ (by assumption))))) Hz3.out).mono ?_; rintro _ w5 ⟨rfl, hb5⟩; rw [H1.out]; have Hx5 := Lib.hid (Hb0.out.step hb5); clear hb5; obtain ⟨a0, c0, c1, c2, g0, g1, g2, s0⟩ := kept2 Hx5.out)
      | (go_at_call 21; refine (spec_validPath _ path _ (Hp.out.below (by have := Hx5.out.below; (repeat (with_reducible first | exact Below.refl _ _ | assumption | refine ba ?_ _ | refine bd ?_ | refine bdN ?_ _ | refine bs ?_ (by first | exact Nat.le_refl _ | (dsimp only; omega) | (simp; done)) _ | refine bt ?_ (by assumption)))))).mono ?_; rintro _ w6 ⟨rfl, hb6⟩; rw [H2.out]; have Hx6 := Lib.hid (Hx5.out.step hb6); clear hb6; clear a0 c0 c1 c2 g0 g1 g2 s0; obtain ⟨a0, c0, c1, c2, g0, g1, g2, s0⟩ := kept2 Hx6.out)
      | (go_at_call 22; refine (spec_validName s _ hsl).mono ?_; rintro _ w7 ⟨rfl, hb7⟩; rw [H3.out]; have Hx7 := Lib.hid (Hx6.out.step hb7); clear hb7; clear a0 c0 c1 c2 g0 g1 g2 s0; obtain ⟨a0, c0, c1, c2, g0, g1, g2, s0⟩ := kept2 Hx7.out)
      | (go_at_call 23; refine (spec_noSpec _).mono ?_; rintro _ w8 ⟨v8, rfl, hown8, hb8⟩; dsimp only [noSpc] at hown8 ⊢; obtain ⟨a8, k8, hv8⟩ := owns_shape (n := 0) hown8; subst hv8; have Hown8 := Lib.hid hown8; have Hx8 := Lib.hid (Hx7.out.step hb8); clear hown8 hb8; clear a0 c0 c1 c2 g0 g1 g2 s0; obtain ⟨a0, c0, c1, c2, g0, g1, g2, s0⟩ := kept2 Hx8.out))
    refine bodyPost_ret (v := .agg #[.int .i64 0, .int .i64 (-1), .slice a8 0 k8]) (by simp [results, Try.results7, go_sem, *]) rfl ?_
    rw [Hs.out]
    have hbw := Hx8.out.below
    have hlt9 := Hx7.out.lt
    refine ⟨_, rfl, ?_, by (repeat (with_reducible first | exact Below.refl _ _ | assumption | refine ba ?_ _ | refine bd ?_ | refine bdN ?_ _ | refine bs ?_ (by first | exact Nat.le_refl _ | (dsimp only; omega) | (simp; done)) _ | refine bt ?_ (by assumption)))⟩
    refine owns_mono (B := w.heap.size + 2) ?_ (by omega)
    (repeat (with_reducible first | refine World.ownsRow.alloc ?_ _ | refine owns_set_low ?_ (by first | (dsimp only; omega) | (simp; done) | (simp; omega)) _))
    exact owns_mono Hown8.out (by first | omega | (simp; omega))
  · have H1 := Lib.hid h1
    have H2 := Lib.hid h2
    have H3 := Lib.hid h3
    have Hs := Lib.hid (show findSpec fs path s = byParts fs path s by unfold findSpec; rw [okLook_of h1 h2]; rfl)
    clear h1 h2 h3
    go_enter Try.func7, Try.ntmps7
    go_wp2_with (first
      | (go_at_call 20; refine (spec_validTree _ fs D _ (Hr.out.below (by have := Hb0.out.below; (repeat (with_reducible first | exact Below.refl _ _ | assumption | refine ba ?_ _ | refine bd ?_ | refine bdN ?_ _ | refine bs ?_ (by first | exact Nat.le_refl _ | (dsimp only; omega) | (simp; done)) _ | refine bt ?_ (by assumption))))) Hz3.out).mono ?_; rintro _ w5 ⟨rfl, hb5⟩; rw [H1.out]; have Hx5 := Lib.hid (Hb0.out.step hb5); clear hb5; obtain ⟨a0, c0, c1, c2, g0, g1, g2, s0⟩ := kept2 Hx5.out)
      | (go_at_call 21; refine (spec_validPath _ path _ (Hp.out.below (by have := Hx5.out.below; (repeat (with_reducible first | exact Below.refl _ _ | assumption | refine ba ?_ _ | refine bd ?_ | refine bdN ?_ _ | refine bs ?_ (by first | exact Nat.le_refl _ | (dsimp only; omega) | (simp; done)) _ | refine bt ?_ (by assumption)))))).mono ?_; rintro _ w6 ⟨rfl, hb6⟩; rw [H2.out]; have Hx6 := Lib.hid (Hx5.out.step hb6); clear hb6; clear a0 c0 c1 c2 g0 g1 g2 s0; obtain ⟨a0, c0, c1, c2, g0, g1, g2, s0⟩ := kept2 Hx6.out)
      | (go_at_call 22; refine (spec_validName s _ hsl).mono ?_; rintro _ w7 ⟨rfl, hb7⟩; rw [H3.out]; have Hx7 := Lib.hid (Hx6.out.step hb7); clear hb7; clear a0 c0 c1 c2 g0 g1 g2 s0; obtain ⟨a0, c0, c1, c2, g0, g1, g2, s0⟩ := kept2 Hx7.out)
      | (go_at_call 24; refine (spec_find _ fs D _ path s _ (Hr.out.below (by have := Hx7.out.below; (repeat (with_reducible first | exact Below.refl _ _ | assumption | refine ba ?_ _ | refine bd ?_ | refine bdN ?_ _ | refine bs ?_ (by first | exact Nat.le_refl _ | (dsimp only; omega) | (simp; done)) _ | refine bt ?_ (by assumption))))) Hz.out H1.out H3.out (Hp.out.below (by have := Hx7.out.below; (repeat (with_reducible first | exact Below.refl _ _ | assumption | refine ba ?_ _ | refine bd ?_ | refine bdN ?_ _ | refine bs ?_ (by first | exact Nat.le_refl _ | (dsimp only; omega) | (simp; done)) _ | refine bt ?_ (by assumption))))) (by omega)).mono ?_; rintro _ w8 ⟨v8, rfl, hown8, hb8⟩; rw [← Hs.out]; rw [← Hs.out] at hown8; obtain ⟨a8, k8, hv8⟩ := owns_shape hown8; subst hv8; have Hown8 := Lib.hid hown8; have Hx8 := Lib.hid (Hx7.out.step hb8); clear hown8 hb8; clear a0 c0 c1 c2 g0 g1 g2 s0; obtain ⟨a0, c0, c1, c2, g0, g1, g2, s0⟩ := kept2 Hx8.out))
    refine bodyPost_ret (v := .agg #[.int .i64 (findSpec fs path s).kind, .int .i64 (findSpec fs path s).file, .slice a8 (findSpec fs path s).roots.length k8]) (by simp [results, Try.results7, go_sem, *]) rfl ?_
    have hbw := Hx8.out.below
    have hlt9 := Hx7.out.lt
    refine ⟨_, rfl, ?_, by (repeat (with_reducible first | exact Below.refl _ _ | assumption | refine ba ?_ _ | refine bd ?_ | refine bdN ?_ _ | refine bs ?_ (by first | exact Nat.le_refl _ | (dsimp only; omega) | (simp; done)) _ | refine bt ?_ (by assumption)))⟩
    refine owns_mono (B := w.heap.size + 2) ?_ (by omega)
    (repeat (with_reducible first | refine World.ownsRow.alloc ?_ _ | refine owns_set_low ?_ (by first | (dsimp only; omega) | (simp; done) | (simp; omega)) _))
    exact owns_mono Hown8.out (by first | omega | (simp; omega))


end Go.Proofs.Yteifoepfobojbaa
