/- Contracts of the model's functions of chapter 3 over a path. -/
import Derived.Test.YtfelbhpgifgkcaaSFind
import Derived.Test.YtfelbhpgifgkcaaLooks
set_option linter.unusedVariables false
set_option linter.unusedSimpArgs false
namespace Go.Proofs.Ytfelbhpgifgkcaa
open Go.RowKit Go.Proofs.Ytfelbhpgifgkcaa.Nm

/-- The cells of the tree's box and of the result's. -/
theorem kept2 {w w' : World} {a : Option Addr} {n c : Nat} {T U : TypeId} (hB : Boxed2 w #[.slice a n c] T #[.int .i64 0, .int .i64 0, .slice none 0 0] U w') :
    w'.cell? ⟨w.heap.size, 0, none⟩ = some (.slice a n c) ∧ w'.cell? ⟨w.heap.size + 1, 0, none⟩ = some (.int .i64 0) ∧ w'.cell? ⟨w.heap.size + 1, 1, none⟩ = some (.int .i64 0) ∧ w'.cell? ⟨w.heap.size + 1, 2, none⟩ = some (.slice none 0 0) ∧
    w'.frozen? ⟨w.heap.size + 1, 0, none⟩ = false ∧ w'.frozen? ⟨w.heap.size + 1, 1, none⟩ = false ∧ w'.frozen? ⟨w.heap.size + 1, 2, none⟩ = false ∧ w.heap.size + 1 < w'.heap.size :=
  ⟨hB.one.cell 0, hB.cell 0, hB.cell 1, hB.cell 2, hB.two.free2 0, hB.two.free2 1, hB.two.free2 2, hB.lt⟩

set_option maxRecDepth 100000 in
set_option maxHeartbeats 2000000 in
theorem spec_FindSpec (v : Value) (fs : List Fil) (D : Nat → Prop) (pv : Value) (path : List Int) (s : Bs) (w : World) (hr : FilsIn w D v fs) (hz : ShortT 2000000 fs) (hp : IntsIn w pv path) (hsl : s.length ≤ 8000000) :
    Calls Try.prog 33 #[.agg #[v], pv, .string (mk s)] w (NewSpc 3 (findSpec fs path s) w) := by
  have Hr := Lib.hid hr
  have Hz := Lib.hid hz
  have Hz3 := Lib.hid (short2 (B := 3000000) (by omega) hz)
  have Hp := Lib.hid hp
  obtain ⟨aa, ca, rfl, hl, hm⟩ := hr.len
  obtain ⟨pa, pc, rfl, hl1, hm1⟩ := hp.len
  clear hr hz hp hl hm hl1 hm1
  have Hb0 := Lib.hid (Boxed2.start w #[.slice aa fs.length ca] 25 #[.int .i64 0, .int .i64 0, .slice none 0 0] 51)
  cases h1 : okTree fs
  · have H1 := Lib.hid h1
    have Hs := Lib.hid (show findSpec fs path s = noSpc by unfold findSpec okLook; rw [h1]; simp)
    clear h1
    go_enter Try.func33, Try.ntmps33
    go_wp2_with (first
      | (go_at_call 60; refine (spec_validTree _ fs D _ (Hr.out.below (by have := Hb0.out.below; (repeat (with_reducible first | exact Below.refl _ _ | assumption | refine ba ?_ _ | refine bd ?_ | refine bdN ?_ _ | refine bs ?_ (by first | exact Nat.le_refl _ | (dsimp only; omega) | (simp; done)) _ | refine bt ?_ (by assumption))))) Hz3.out).mono ?_; rintro _ w5 ⟨rfl, hb5⟩; rw [H1.out]; have Hx5 := Lib.hid (Hb0.out.step hb5); clear hb5; obtain ⟨a0, c0, c1, c2, g0, g1, g2, s0⟩ := kept2 Hx5.out)
      | (go_at_call 88; refine (spec_noSpec _).mono ?_; rintro _ w8 ⟨v8, rfl, hown8, hb8⟩; dsimp only [noSpc] at hown8 ⊢; obtain ⟨a8, k8, hv8⟩ := owns_shape (n := 0) hown8; subst hv8; have Hown8 := Lib.hid hown8; have Hx8 := Lib.hid (Hx5.out.step hb8); clear hown8 hb8; clear a0 c0 c1 c2 g0 g1 g2 s0; obtain ⟨a0, c0, c1, c2, g0, g1, g2, s0⟩ := kept2 Hx8.out))
    refine bodyPost_ret (v := .agg #[.int .i64 0, .int .i64 (-1), .slice a8 0 k8]) (by simp [results, Try.results33, go_sem, *]) rfl ?_
    rw [Hs.out]
    have hbw := Hx8.out.below
    have hlt9 := Hx5.out.lt
    refine ⟨_, rfl, ?_, by (repeat (with_reducible first | exact Below.refl _ _ | assumption | refine ba ?_ _ | refine bd ?_ | refine bdN ?_ _ | refine bs ?_ (by first | exact Nat.le_refl _ | (dsimp only; omega) | (simp; done)) _ | refine bt ?_ (by assumption)))⟩
    refine owns_mono (B := w.heap.size + 2) ?_ (by omega)
    (repeat (with_reducible first | refine World.ownsRow.alloc ?_ _ | refine owns_set_low ?_ (by first | (dsimp only; omega) | (simp; done) | (simp; omega)) _))
    exact owns_mono Hown8.out (by first | omega | (simp; omega))
  cases h2 : okPath path
  · have H1 := Lib.hid h1
    have H2 := Lib.hid h2
    have Hs := Lib.hid (show findSpec fs path s = noSpc by unfold findSpec okLook; rw [h2]; simp)
    clear h1 h2
    go_enter Try.func33, Try.ntmps33
    go_wp2_with (first
      | (go_at_call 60; refine (spec_validTree _ fs D _ (Hr.out.below (by have := Hb0.out.below; (repeat (with_reducible first | exact Below.refl _ _ | assumption | refine ba ?_ _ | refine bd ?_ | refine bdN ?_ _ | refine bs ?_ (by first | exact Nat.le_refl _ | (dsimp only; omega) | (simp; done)) _ | refine bt ?_ (by assumption))))) Hz3.out).mono ?_; rintro _ w5 ⟨rfl, hb5⟩; rw [H1.out]; have Hx5 := Lib.hid (Hb0.out.step hb5); clear hb5; obtain ⟨a0, c0, c1, c2, g0, g1, g2, s0⟩ := kept2 Hx5.out)
      | (go_at_call 61; refine (spec_validPath _ path _ (Hp.out.below (by have := Hx5.out.below; (repeat (with_reducible first | exact Below.refl _ _ | assumption | refine ba ?_ _ | refine bd ?_ | refine bdN ?_ _ | refine bs ?_ (by first | exact Nat.le_refl _ | (dsimp only; omega) | (simp; done)) _ | refine bt ?_ (by assumption)))))).mono ?_; rintro _ w6 ⟨rfl, hb6⟩; rw [H2.out]; have Hx6 := Lib.hid (Hx5.out.step hb6); clear hb6; clear a0 c0 c1 c2 g0 g1 g2 s0; obtain ⟨a0, c0, c1, c2, g0, g1, g2, s0⟩ := kept2 Hx6.out)
      | (go_at_call 88; refine (spec_noSpec _).mono ?_; rintro _ w8 ⟨v8, rfl, hown8, hb8⟩; dsimp only [noSpc] at hown8 ⊢; obtain ⟨a8, k8, hv8⟩ := owns_shape (n := 0) hown8; subst hv8; have Hown8 := Lib.hid hown8; have Hx8 := Lib.hid (Hx6.out.step hb8); clear hown8 hb8; clear a0 c0 c1 c2 g0 g1 g2 s0; obtain ⟨a0, c0, c1, c2, g0, g1, g2, s0⟩ := kept2 Hx8.out))
    refine bodyPost_ret (v := .agg #[.int .i64 0, .int .i64 (-1), .slice a8 0 k8]) (by simp [results, Try.results33, go_sem, *]) rfl ?_
    rw [Hs.out]
    have hbw := Hx8.out.below
    have hlt9 := Hx6.out.lt
    refine ⟨_, rfl, ?_, by (repeat (with_reducible first | exact Below.refl _ _ | assumption | refine ba ?_ _ | refine bd ?_ | refine bdN ?_ _ | refine bs ?_ (by first | exact Nat.le_refl _ | (dsimp only; omega) | (simp; done)) _ | refine bt ?_ (by assumption)))⟩
    refine owns_mono (B := w.heap.size + 2) ?_ (by omega)
    (repeat (with_reducible first | refine World.ownsRow.alloc ?_ _ | refine owns_set_low ?_ (by first | (dsimp only; omega) | (simp; done) | (simp; omega)) _))
    exact owns_mono Hown8.out (by first | omega | (simp; omega))
  have h3l := okPath_len h2
  cases h3 : vn s
  · have H1 := Lib.hid h1
    have H2 := Lib.hid h2
    have H3 := Lib.hid h3
    have Hs := Lib.hid (show findSpec fs path s = noSpc by unfold findSpec byParts; rw [h3]; simp)
    clear h1 h2 h3
    go_enter Try.func33, Try.ntmps33
    go_wp2_with (first
      | (go_at_call 60; refine (spec_validTree _ fs D _ (Hr.out.below (by have := Hb0.out.below; (repeat (with_reducible first | exact Below.refl _ _ | assumption | refine ba ?_ _ | refine bd ?_ | refine bdN ?_ _ | refine bs ?_ (by first | exact Nat.le_refl _ | (dsimp only; omega) | (simp; done)) _ | refine bt ?_ (by assumption))))) Hz3.out).mono ?_; rintro _ w5 ⟨rfl, hb5⟩; rw [H1.out]; have Hx5 := Lib.hid (Hb0.out.step hb5); clear hb5; obtain ⟨a0, c0, c1, c2, g0, g1, g2, s0⟩ := kept2 Hx5.out)
      | (go_at_call 61; refine (spec_validPath _ path _ (Hp.out.below (by have := Hx5.out.below; (repeat (with_reducible first | exact Below.refl _ _ | assumption | refine ba ?_ _ | refine bd ?_ | refine bdN ?_ _ | refine bs ?_ (by first | exact Nat.le_refl _ | (dsimp only; omega) | (simp; done)) _ | refine bt ?_ (by assumption)))))).mono ?_; rintro _ w6 ⟨rfl, hb6⟩; rw [H2.out]; have Hx6 := Lib.hid (Hx5.out.step hb6); clear hb6; clear a0 c0 c1 c2 g0 g1 g2 s0; obtain ⟨a0, c0, c1, c2, g0, g1, g2, s0⟩ := kept2 Hx6.out)
      | (go_at_call 86; refine (spec_validName s _ hsl).mono ?_; rintro _ w7 ⟨rfl, hb7⟩; rw [H3.out]; have Hx7 := Lib.hid (Hx6.out.step hb7); clear hb7; clear a0 c0 c1 c2 g0 g1 g2 s0; obtain ⟨a0, c0, c1, c2, g0, g1, g2, s0⟩ := kept2 Hx7.out)
      | (go_at_call 88; refine (spec_noSpec _).mono ?_; rintro _ w8 ⟨v8, rfl, hown8, hb8⟩; dsimp only [noSpc] at hown8 ⊢; obtain ⟨a8, k8, hv8⟩ := owns_shape (n := 0) hown8; subst hv8; have Hown8 := Lib.hid hown8; have Hx8 := Lib.hid (Hx7.out.step hb8); clear hown8 hb8; clear a0 c0 c1 c2 g0 g1 g2 s0; obtain ⟨a0, c0, c1, c2, g0, g1, g2, s0⟩ := kept2 Hx8.out))
    refine bodyPost_ret (v := .agg #[.int .i64 0, .int .i64 (-1), .slice a8 0 k8]) (by simp [results, Try.results33, go_sem, *]) rfl ?_
    rw [Hs.out]
    have hbw := Hx8.out.below
    have hlt9 := Hx7.out.lt
    refine ⟨_, rfl, ?_, by (repeat (with_reducible first | exact Below.refl _ _ | assumption | refine ba ?_ _ | refine bd ?_ | refine bdN ?_ _ | refine bs ?_ (by first | exact Nat.le_refl _ | (dsimp only; omega) | (simp; done)) _ | refine bt ?_ (by assumption)))⟩
    refine owns_mono (B := w.heap.size + 2) ?_ (by omega)
    (repeat (with_reducible first | refine World.ownsRow.alloc ?_ _ | refine owns_set_low ?_ (by first | (dsimp only; omega) | (simp; done) | (simp; omega)) _))
    exact owns_mono Hown8.out (by first | omega | (simp; omega))
  · have H1 := Lib.hid h1
    have H2 := Lib.hid h2
    have H3 := Lib.hid h3
    have Hs := Lib.hid (show findSpec fs path s = byParts fs path s by unfold findSpec; rw [okLook_of h1 h2]; rfl)
    clear h1 h2 h3
    go_enter Try.func33, Try.ntmps33
    go_wp2_with (first
      | (go_at_call 60; refine (spec_validTree _ fs D _ (Hr.out.below (by have := Hb0.out.below; (repeat (with_reducible first | exact Below.refl _ _ | assumption | refine ba ?_ _ | refine bd ?_ | refine bdN ?_ _ | refine bs ?_ (by first | exact Nat.le_refl _ | (dsimp only; omega) | (simp; done)) _ | refine bt ?_ (by assumption))))) Hz3.out).mono ?_; rintro _ w5 ⟨rfl, hb5⟩; rw [H1.out]; have Hx5 := Lib.hid (Hb0.out.step hb5); clear hb5; obtain ⟨a0, c0, c1, c2, g0, g1, g2, s0⟩ := kept2 Hx5.out)
      | (go_at_call 61; refine (spec_validPath _ path _ (Hp.out.below (by have := Hx5.out.below; (repeat (with_reducible first | exact Below.refl _ _ | assumption | refine ba ?_ _ | refine bd ?_ | refine bdN ?_ _ | refine bs ?_ (by first | exact Nat.le_refl _ | (dsimp only; omega) | (simp; done)) _ | refine bt ?_ (by assumption)))))).mono ?_; rintro _ w6 ⟨rfl, hb6⟩; rw [H2.out]; have Hx6 := Lib.hid (Hx5.out.step hb6); clear hb6; clear a0 c0 c1 c2 g0 g1 g2 s0; obtain ⟨a0, c0, c1, c2, g0, g1, g2, s0⟩ := kept2 Hx6.out)
      | (go_at_call 86; refine (spec_validName s _ hsl).mono ?_; rintro _ w7 ⟨rfl, hb7⟩; rw [H3.out]; have Hx7 := Lib.hid (Hx6.out.step hb7); clear hb7; clear a0 c0 c1 c2 g0 g1 g2 s0; obtain ⟨a0, c0, c1, c2, g0, g1, g2, s0⟩ := kept2 Hx7.out)
      | (go_at_call 63; refine (spec_find _ fs D _ path s _ (Hr.out.below (by have := Hx7.out.below; (repeat (with_reducible first | exact Below.refl _ _ | assumption | refine ba ?_ _ | refine bd ?_ | refine bdN ?_ _ | refine bs ?_ (by first | exact Nat.le_refl _ | (dsimp only; omega) | (simp; done)) _ | refine bt ?_ (by assumption))))) Hz.out H1.out H3.out (Hp.out.below (by have := Hx7.out.below; (repeat (with_reducible first | exact Below.refl _ _ | assumption | refine ba ?_ _ | refine bd ?_ | refine bdN ?_ _ | refine bs ?_ (by first | exact Nat.le_refl _ | (dsimp only; omega) | (simp; done)) _ | refine bt ?_ (by assumption))))) (by omega)).mono ?_; rintro _ w8 ⟨v8, rfl, hown8, hb8⟩; rw [← Hs.out]; rw [← Hs.out] at hown8; obtain ⟨a8, k8, hv8⟩ := owns_shape hown8; subst hv8; have Hown8 := Lib.hid hown8; have Hx8 := Lib.hid (Hx7.out.step hb8); clear hown8 hb8; clear a0 c0 c1 c2 g0 g1 g2 s0; obtain ⟨a0, c0, c1, c2, g0, g1, g2, s0⟩ := kept2 Hx8.out))
    refine bodyPost_ret (v := .agg #[.int .i64 (findSpec fs path s).kind, .int .i64 (findSpec fs path s).file, .slice a8 (findSpec fs path s).roots.length k8]) (by simp [results, Try.results33, go_sem, *]) rfl ?_
    have hbw := Hx8.out.below
    have hlt9 := Hx7.out.lt
    refine ⟨_, rfl, ?_, by (repeat (with_reducible first | exact Below.refl _ _ | assumption | refine ba ?_ _ | refine bd ?_ | refine bdN ?_ _ | refine bs ?_ (by first | exact Nat.le_refl _ | (dsimp only; omega) | (simp; done)) _ | refine bt ?_ (by assumption)))⟩
    refine owns_mono (B := w.heap.size + 2) ?_ (by omega)
    (repeat (with_reducible first | refine World.ownsRow.alloc ?_ _ | refine owns_set_low ?_ (by first | (dsimp only; omega) | (simp; done) | (simp; omega)) _))
    exact owns_mono Hown8.out (by first | omega | (simp; omega))
set_option maxRecDepth 100000 in
set_option maxHeartbeats 4000000 in
theorem spec_FindIn (v : Value) (fs : List Fil) (D : Nat → Prop) (pv : Value) (path : List Int) (p s : Bs) (w : World) (hr : FilsIn w D v fs) (hz : ShortT 2000000 fs) (hp : IntsIn w pv path) (hpl : p.length ≤ 2000000) (hsl : s.length ≤ 2000000) :
    Calls Try.prog 27 #[.agg #[v], pv, .string (mk p), .string (mk s)] w (NewSpc 3 (findIn fs path p s) w) := by
  have Hr := Lib.hid hr
  have Hz := Lib.hid hz
  have Hz3 := Lib.hid (short2 (B := 3000000) (by omega) hz)
  have Hp := Lib.hid hp
  obtain ⟨aa, ca, rfl, hl, hm⟩ := hr.len
  obtain ⟨pa, pc, rfl, hl1, hm1⟩ := hp.len
  clear hr hz hp hl hm hl1 hm1
  have Hb0 := Lib.hid (Boxed2.start w #[.slice aa fs.length ca] 25 #[.int .i64 0, .int .i64 0, .slice none 0 0] 51)
  have hcl := child_len p s
  obtain ⟨n, hn⟩ : ∃ n, n = child p s := ⟨_, rfl⟩
  have Hn := Lib.hid hn
  rw [← hn] at hcl
  have Hc := Lib.hid (show childOf p s = if vpk p && vp s && vn n then n else [] by rw [hn]; rfl)
  clear hn
  cases h1 : okTree fs
  · have H1 := Lib.hid h1
    have Hs := Lib.hid (show findIn fs path p s = noSpc by unfold findIn okLook; rw [h1]; simp)
    clear h1
    go_enter Try.func27, Try.ntmps27
    go_wp2_with (first
      | (go_at_call 60; refine (spec_validTree _ fs D _ (Hr.out.below (by have := Hb0.out.below; (repeat (with_reducible first | exact Below.refl _ _ | assumption | refine ba ?_ _ | refine bd ?_ | refine bdN ?_ _ | refine bs ?_ (by first | exact Nat.le_refl _ | (dsimp only; omega) | (simp; done)) _ | refine bt ?_ (by assumption))))) Hz3.out).mono ?_; rintro _ w5 ⟨rfl, hb5⟩; rw [H1.out]; have Hx5 := Lib.hid (Hb0.out.step hb5); clear hb5; obtain ⟨a0, c0, c1, c2, g0, g1, g2, s0⟩ := kept2 Hx5.out)
      | (go_at_call 88; refine (spec_noSpec _).mono ?_; rintro _ w8 ⟨v8, rfl, hown8, hb8⟩; dsimp only [noSpc] at hown8 ⊢; obtain ⟨a8, k8, hv8⟩ := owns_shape (n := 0) hown8; subst hv8; have Hown8 := Lib.hid hown8; have Hx8 := Lib.hid (Hx5.out.step hb8); clear hown8 hb8; clear a0 c0 c1 c2 g0 g1 g2 s0; obtain ⟨a0, c0, c1, c2, g0, g1, g2, s0⟩ := kept2 Hx8.out))
    refine bodyPost_ret (v := .agg #[.int .i64 0, .int .i64 (-1), .slice a8 0 k8]) (by simp [results, Try.results27, go_sem, *]) rfl ?_
    rw [Hs.out]
    have hbw := Hx8.out.below
    have hlt9 := Hx5.out.lt
    refine ⟨_, rfl, ?_, by (repeat (with_reducible first | exact Below.refl _ _ | assumption | refine ba ?_ _ | refine bd ?_ | refine bdN ?_ _ | refine bs ?_ (by first | exact Nat.le_refl _ | (dsimp only; omega) | (simp; done)) _ | refine bt ?_ (by assumption)))⟩
    refine owns_mono (B := w.heap.size + 2) ?_ (by omega)
    (repeat (with_reducible first | refine World.ownsRow.alloc ?_ _ | refine owns_set_low ?_ (by first | (dsimp only; omega) | (simp; done) | (simp; omega)) _))
    exact owns_mono Hown8.out (by first | omega | (simp; omega))
  cases h2 : okPath path
  · have H1 := Lib.hid h1
    have H2 := Lib.hid h2
    have Hs := Lib.hid (show findIn fs path p s = noSpc by unfold findIn okLook; rw [h2]; simp)
    clear h1 h2
    go_enter Try.func27, Try.ntmps27
    go_wp2_with (first
      | (go_at_call 60; refine (spec_validTree _ fs D _ (Hr.out.below (by have := Hb0.out.below; (repeat (with_reducible first | exact Below.refl _ _ | assumption | refine ba ?_ _ | refine bd ?_ | refine bdN ?_ _ | refine bs ?_ (by first | exact Nat.le_refl _ | (dsimp only; omega) | (simp; done)) _ | refine bt ?_ (by assumption))))) Hz3.out).mono ?_; rintro _ w5 ⟨rfl, hb5⟩; rw [H1.out]; have Hx5 := Lib.hid (Hb0.out.step hb5); clear hb5; obtain ⟨a0, c0, c1, c2, g0, g1, g2, s0⟩ := kept2 Hx5.out)
      | (go_at_call 61; refine (spec_validPath _ path _ (Hp.out.below (by have := Hx5.out.below; (repeat (with_reducible first | exact Below.refl _ _ | assumption | refine ba ?_ _ | refine bd ?_ | refine bdN ?_ _ | refine bs ?_ (by first | exact Nat.le_refl _ | (dsimp only; omega) | (simp; done)) _ | refine bt ?_ (by assumption)))))).mono ?_; rintro _ w6 ⟨rfl, hb6⟩; rw [H2.out]; have Hx6 := Lib.hid (Hx5.out.step hb6); clear hb6; clear a0 c0 c1 c2 g0 g1 g2 s0; obtain ⟨a0, c0, c1, c2, g0, g1, g2, s0⟩ := kept2 Hx6.out)
      | (go_at_call 88; refine (spec_noSpec _).mono ?_; rintro _ w8 ⟨v8, rfl, hown8, hb8⟩; dsimp only [noSpc] at hown8 ⊢; obtain ⟨a8, k8, hv8⟩ := owns_shape (n := 0) hown8; subst hv8; have Hown8 := Lib.hid hown8; have Hx8 := Lib.hid (Hx6.out.step hb8); clear hown8 hb8; clear a0 c0 c1 c2 g0 g1 g2 s0; obtain ⟨a0, c0, c1, c2, g0, g1, g2, s0⟩ := kept2 Hx8.out))
    refine bodyPost_ret (v := .agg #[.int .i64 0, .int .i64 (-1), .slice a8 0 k8]) (by simp [results, Try.results27, go_sem, *]) rfl ?_
    rw [Hs.out]
    have hbw := Hx8.out.below
    have hlt9 := Hx6.out.lt
    refine ⟨_, rfl, ?_, by (repeat (with_reducible first | exact Below.refl _ _ | assumption | refine ba ?_ _ | refine bd ?_ | refine bdN ?_ _ | refine bs ?_ (by first | exact Nat.le_refl _ | (dsimp only; omega) | (simp; done)) _ | refine bt ?_ (by assumption)))⟩
    refine owns_mono (B := w.heap.size + 2) ?_ (by omega)
    (repeat (with_reducible first | refine World.ownsRow.alloc ?_ _ | refine owns_set_low ?_ (by first | (dsimp only; omega) | (simp; done) | (simp; omega)) _))
    exact owns_mono Hown8.out (by first | omega | (simp; omega))
  cases h3 : vpk p
  · have H1 := Lib.hid h1
    have H2 := Lib.hid h2
    have H3 := Lib.hid h3
    have Hs := Lib.hid (show findIn fs path p s = noSpc by unfold findIn; rw [Hc.out, h3]; simp)
    clear h1 h2 h3
    go_enter Try.func27, Try.ntmps27
    go_wp2_with (first
      | (go_at_call 60; refine (spec_validTree _ fs D _ (Hr.out.below (by have := Hb0.out.below; (repeat (with_reducible first | exact Below.refl _ _ | assumption | refine ba ?_ _ | refine bd ?_ | refine bdN ?_ _ | refine bs ?_ (by first | exact Nat.le_refl _ | (dsimp only; omega) | (simp; done)) _ | refine bt ?_ (by assumption))))) Hz3.out).mono ?_; rintro _ w5 ⟨rfl, hb5⟩; rw [H1.out]; have Hx5 := Lib.hid (Hb0.out.step hb5); clear hb5; obtain ⟨a0, c0, c1, c2, g0, g1, g2, s0⟩ := kept2 Hx5.out)
      | (go_at_call 61; refine (spec_validPath _ path _ (Hp.out.below (by have := Hx5.out.below; (repeat (with_reducible first | exact Below.refl _ _ | assumption | refine ba ?_ _ | refine bd ?_ | refine bdN ?_ _ | refine bs ?_ (by first | exact Nat.le_refl _ | (dsimp only; omega) | (simp; done)) _ | refine bt ?_ (by assumption)))))).mono ?_; rintro _ w6 ⟨rfl, hb6⟩; rw [H2.out]; have Hx6 := Lib.hid (Hx5.out.step hb6); clear hb6; clear a0 c0 c1 c2 g0 g1 g2 s0; obtain ⟨a0, c0, c1, c2, g0, g1, g2, s0⟩ := kept2 Hx6.out)
      | (go_at_call 84; refine (spec_validPackage p _ (by omega)).mono ?_; rintro _ w7 ⟨rfl, hb7⟩; rw [H3.out]; have Hx7 := Lib.hid (Hx6.out.step hb7); clear hb7; clear a0 c0 c1 c2 g0 g1 g2 s0; obtain ⟨a0, c0, c1, c2, g0, g1, g2, s0⟩ := kept2 Hx7.out)
      | (go_at_call 88; refine (spec_noSpec _).mono ?_; rintro _ w8 ⟨v8, rfl, hown8, hb8⟩; dsimp only [noSpc] at hown8 ⊢; obtain ⟨a8, k8, hv8⟩ := owns_shape (n := 0) hown8; subst hv8; have Hown8 := Lib.hid hown8; have Hx8 := Lib.hid (Hx7.out.step hb8); clear hown8 hb8; clear a0 c0 c1 c2 g0 g1 g2 s0; obtain ⟨a0, c0, c1, c2, g0, g1, g2, s0⟩ := kept2 Hx8.out))
    refine bodyPost_ret (v := .agg #[.int .i64 0, .int .i64 (-1), .slice a8 0 k8]) (by simp [results, Try.results27, go_sem, *]) rfl ?_
    rw [Hs.out]
    have hbw := Hx8.out.below
    have hlt9 := Hx7.out.lt
    refine ⟨_, rfl, ?_, by (repeat (with_reducible first | exact Below.refl _ _ | assumption | refine ba ?_ _ | refine bd ?_ | refine bdN ?_ _ | refine bs ?_ (by first | exact Nat.le_refl _ | (dsimp only; omega) | (simp; done)) _ | refine bt ?_ (by assumption)))⟩
    refine owns_mono (B := w.heap.size + 2) ?_ (by omega)
    (repeat (with_reducible first | refine World.ownsRow.alloc ?_ _ | refine owns_set_low ?_ (by first | (dsimp only; omega) | (simp; done) | (simp; omega)) _))
    exact owns_mono Hown8.out (by first | omega | (simp; omega))
  cases h4 : vp s
  · have H1 := Lib.hid h1
    have H2 := Lib.hid h2
    have H3 := Lib.hid h3
    have H4 := Lib.hid h4
    have Hs := Lib.hid (show findIn fs path p s = noSpc by unfold findIn; rw [Hc.out, h4]; simp)
    clear h1 h2 h3 h4
    go_enter Try.func27, Try.ntmps27
    go_wp2_with (first
      | (go_at_call 60; refine (spec_validTree _ fs D _ (Hr.out.below (by have := Hb0.out.below; (repeat (with_reducible first | exact Below.refl _ _ | assumption | refine ba ?_ _ | refine bd ?_ | refine bdN ?_ _ | refine bs ?_ (by first | exact Nat.le_refl _ | (dsimp only; omega) | (simp; done)) _ | refine bt ?_ (by assumption))))) Hz3.out).mono ?_; rintro _ w5 ⟨rfl, hb5⟩; rw [H1.out]; have Hx5 := Lib.hid (Hb0.out.step hb5); clear hb5; obtain ⟨a0, c0, c1, c2, g0, g1, g2, s0⟩ := kept2 Hx5.out)
      | (go_at_call 61; refine (spec_validPath _ path _ (Hp.out.below (by have := Hx5.out.below; (repeat (with_reducible first | exact Below.refl _ _ | assumption | refine ba ?_ _ | refine bd ?_ | refine bdN ?_ _ | refine bs ?_ (by first | exact Nat.le_refl _ | (dsimp only; omega) | (simp; done)) _ | refine bt ?_ (by assumption)))))).mono ?_; rintro _ w6 ⟨rfl, hb6⟩; rw [H2.out]; have Hx6 := Lib.hid (Hx5.out.step hb6); clear hb6; clear a0 c0 c1 c2 g0 g1 g2 s0; obtain ⟨a0, c0, c1, c2, g0, g1, g2, s0⟩ := kept2 Hx6.out)
      | (go_at_call 84; refine (spec_validPackage p _ (by omega)).mono ?_; rintro _ w7 ⟨rfl, hb7⟩; rw [H3.out]; have Hx7 := Lib.hid (Hx6.out.step hb7); clear hb7; clear a0 c0 c1 c2 g0 g1 g2 s0; obtain ⟨a0, c0, c1, c2, g0, g1, g2, s0⟩ := kept2 Hx7.out)
      | (go_at_call 85; refine (spec_validPart s _ (by omega)).mono ?_; rintro _ _ ⟨rfl, rfl⟩; rw [H4.out])
      | (go_at_call 88; refine (spec_noSpec _).mono ?_; rintro _ w8 ⟨v8, rfl, hown8, hb8⟩; dsimp only [noSpc] at hown8 ⊢; obtain ⟨a8, k8, hv8⟩ := owns_shape (n := 0) hown8; subst hv8; have Hown8 := Lib.hid hown8; have Hx8 := Lib.hid (Hx7.out.step hb8); clear hown8 hb8; clear a0 c0 c1 c2 g0 g1 g2 s0; obtain ⟨a0, c0, c1, c2, g0, g1, g2, s0⟩ := kept2 Hx8.out))
    refine bodyPost_ret (v := .agg #[.int .i64 0, .int .i64 (-1), .slice a8 0 k8]) (by simp [results, Try.results27, go_sem, *]) rfl ?_
    rw [Hs.out]
    have hbw := Hx8.out.below
    have hlt9 := Hx7.out.lt
    refine ⟨_, rfl, ?_, by (repeat (with_reducible first | exact Below.refl _ _ | assumption | refine ba ?_ _ | refine bd ?_ | refine bdN ?_ _ | refine bs ?_ (by first | exact Nat.le_refl _ | (dsimp only; omega) | (simp; done)) _ | refine bt ?_ (by assumption)))⟩
    refine owns_mono (B := w.heap.size + 2) ?_ (by omega)
    (repeat (with_reducible first | refine World.ownsRow.alloc ?_ _ | refine owns_set_low ?_ (by first | (dsimp only; omega) | (simp; done) | (simp; omega)) _))
    exact owns_mono Hown8.out (by first | omega | (simp; omega))
  cases h5 : vn n
  · have H1 := Lib.hid h1
    have H2 := Lib.hid h2
    have H3 := Lib.hid h3
    have H4 := Lib.hid h4
    have H5 := Lib.hid h5
    have Hs := Lib.hid (show findIn fs path p s = noSpc by unfold findIn; rw [Hc.out, h5]; simp)
    clear h1 h2 h3 h4 h5
    go_enter Try.func27, Try.ntmps27
    go_wp2_with (first
      | (go_at_call 60; refine (spec_validTree _ fs D _ (Hr.out.below (by have := Hb0.out.below; (repeat (with_reducible first | exact Below.refl _ _ | assumption | refine ba ?_ _ | refine bd ?_ | refine bdN ?_ _ | refine bs ?_ (by first | exact Nat.le_refl _ | (dsimp only; omega) | (simp; done)) _ | refine bt ?_ (by assumption))))) Hz3.out).mono ?_; rintro _ w5 ⟨rfl, hb5⟩; rw [H1.out]; have Hx5 := Lib.hid (Hb0.out.step hb5); clear hb5; obtain ⟨a0, c0, c1, c2, g0, g1, g2, s0⟩ := kept2 Hx5.out)
      | (go_at_call 61; refine (spec_validPath _ path _ (Hp.out.below (by have := Hx5.out.below; (repeat (with_reducible first | exact Below.refl _ _ | assumption | refine ba ?_ _ | refine bd ?_ | refine bdN ?_ _ | refine bs ?_ (by first | exact Nat.le_refl _ | (dsimp only; omega) | (simp; done)) _ | refine bt ?_ (by assumption)))))).mono ?_; rintro _ w6 ⟨rfl, hb6⟩; rw [H2.out]; have Hx6 := Lib.hid (Hx5.out.step hb6); clear hb6; clear a0 c0 c1 c2 g0 g1 g2 s0; obtain ⟨a0, c0, c1, c2, g0, g1, g2, s0⟩ := kept2 Hx6.out)
      | (go_at_call 84; refine (spec_validPackage p _ (by omega)).mono ?_; rintro _ w7 ⟨rfl, hb7⟩; rw [H3.out]; have Hx7 := Lib.hid (Hx6.out.step hb7); clear hb7; clear a0 c0 c1 c2 g0 g1 g2 s0; obtain ⟨a0, c0, c1, c2, g0, g1, g2, s0⟩ := kept2 Hx7.out)
      | (go_at_call 85; refine (spec_validPart s _ (by omega)).mono ?_; rintro _ _ ⟨rfl, rfl⟩; rw [H4.out])
      | (go_at_call 87; refine (spec_child p s _ (by omega) (by omega)).mono ?_; rintro _ _ ⟨rfl, rfl⟩; rw [← Hn.out])
      | (go_at_call 86; refine (spec_validName n _ (by omega)).mono ?_; rintro _ w9 ⟨rfl, hb9⟩; rw [H5.out]; have Hx9 := Lib.hid (Hx7.out.step hb9); clear hb9; clear a0 c0 c1 c2 g0 g1 g2 s0; obtain ⟨a0, c0, c1, c2, g0, g1, g2, s0⟩ := kept2 Hx9.out)
      | (go_at_call 88; refine (spec_noSpec _).mono ?_; rintro _ w8 ⟨v8, rfl, hown8, hb8⟩; dsimp only [noSpc] at hown8 ⊢; obtain ⟨a8, k8, hv8⟩ := owns_shape (n := 0) hown8; subst hv8; have Hown8 := Lib.hid hown8; have Hx8 := Lib.hid (Hx9.out.step hb8); clear hown8 hb8; clear a0 c0 c1 c2 g0 g1 g2 s0; obtain ⟨a0, c0, c1, c2, g0, g1, g2, s0⟩ := kept2 Hx8.out))
    refine bodyPost_ret (v := .agg #[.int .i64 0, .int .i64 (-1), .slice a8 0 k8]) (by simp [results, Try.results27, go_sem, *]) rfl ?_
    rw [Hs.out]
    have hbw := Hx8.out.below
    have hlt9 := Hx9.out.lt
    refine ⟨_, rfl, ?_, by (repeat (with_reducible first | exact Below.refl _ _ | assumption | refine ba ?_ _ | refine bd ?_ | refine bdN ?_ _ | refine bs ?_ (by first | exact Nat.le_refl _ | (dsimp only; omega) | (simp; done)) _ | refine bt ?_ (by assumption)))⟩
    refine owns_mono (B := w.heap.size + 2) ?_ (by omega)
    (repeat (with_reducible first | refine World.ownsRow.alloc ?_ _ | refine owns_set_low ?_ (by first | (dsimp only; omega) | (simp; done) | (simp; omega)) _))
    exact owns_mono Hown8.out (by first | omega | (simp; omega))
  have h3l := okPath_len h2
  have H1 := Lib.hid h1
  have H2 := Lib.hid h2
  have H3 := Lib.hid h3
  have H4 := Lib.hid h4
  have H5 := Lib.hid h5
  have Hs := Lib.hid (show findIn fs path p s = overSpc fs path n by
    have hne : n.isEmpty = false := by simpa using vn_ne h5
    unfold findIn; rw [okLook_of h1 h2, Hc.out, h3, h4, h5]; simp [hne])
  clear h1 h2 h3 h4 h5
  go_enter Try.func27, Try.ntmps27
  go_wp2_with (first
    | (go_at_call 60; refine (spec_validTree _ fs D _ (Hr.out.below (by have := Hb0.out.below; (repeat (with_reducible first | exact Below.refl _ _ | assumption | refine ba ?_ _ | refine bd ?_ | refine bdN ?_ _ | refine bs ?_ (by first | exact Nat.le_refl _ | (dsimp only; omega) | (simp; done)) _ | refine bt ?_ (by assumption))))) Hz3.out).mono ?_; rintro _ w5 ⟨rfl, hb5⟩; rw [H1.out]; have Hx5 := Lib.hid (Hb0.out.step hb5); clear hb5; obtain ⟨a0, c0, c1, c2, g0, g1, g2, s0⟩ := kept2 Hx5.out)
    | (go_at_call 61; refine (spec_validPath _ path _ (Hp.out.below (by have := Hx5.out.below; (repeat (with_reducible first | exact Below.refl _ _ | assumption | refine ba ?_ _ | refine bd ?_ | refine bdN ?_ _ | refine bs ?_ (by first | exact Nat.le_refl _ | (dsimp only; omega) | (simp; done)) _ | refine bt ?_ (by assumption)))))).mono ?_; rintro _ w6 ⟨rfl, hb6⟩; rw [H2.out]; have Hx6 := Lib.hid (Hx5.out.step hb6); clear hb6; clear a0 c0 c1 c2 g0 g1 g2 s0; obtain ⟨a0, c0, c1, c2, g0, g1, g2, s0⟩ := kept2 Hx6.out)
    | (go_at_call 84; refine (spec_validPackage p _ (by omega)).mono ?_; rintro _ w7 ⟨rfl, hb7⟩; rw [H3.out]; have Hx7 := Lib.hid (Hx6.out.step hb7); clear hb7; clear a0 c0 c1 c2 g0 g1 g2 s0; obtain ⟨a0, c0, c1, c2, g0, g1, g2, s0⟩ := kept2 Hx7.out)
    | (go_at_call 85; refine (spec_validPart s _ (by omega)).mono ?_; rintro _ _ ⟨rfl, rfl⟩; rw [H4.out])
    | (go_at_call 87; refine (spec_child p s _ (by omega) (by omega)).mono ?_; rintro _ _ ⟨rfl, rfl⟩; rw [← Hn.out])
    | (go_at_call 86; refine (spec_validName n _ (by omega)).mono ?_; rintro _ w9 ⟨rfl, hb9⟩; rw [H5.out]; have Hx9 := Lib.hid (Hx7.out.step hb9); clear hb9; clear a0 c0 c1 c2 g0 g1 g2 s0; obtain ⟨a0, c0, c1, c2, g0, g1, g2, s0⟩ := kept2 Hx9.out)
    | (go_at_call 89; refine (spec_findIn _ fs D _ path p s _ (Hr.out.below (by have := Hx9.out.below; (repeat (with_reducible first | exact Below.refl _ _ | assumption | refine ba ?_ _ | refine bd ?_ | refine bdN ?_ _ | refine bs ?_ (by first | exact Nat.le_refl _ | (dsimp only; omega) | (simp; done)) _ | refine bt ?_ (by assumption))))) Hz.out H1.out H3.out H4.out (by rw [← Hn.out]; exact H5.out) (Hp.out.below (by have := Hx9.out.below; (repeat (with_reducible first | exact Below.refl _ _ | assumption | refine ba ?_ _ | refine bd ?_ | refine bdN ?_ _ | refine bs ?_ (by first | exact Nat.le_refl _ | (dsimp only; omega) | (simp; done)) _ | refine bt ?_ (by assumption))))) (by omega)).mono ?_; rintro _ w8 ⟨v8, rfl, hown8, hb8⟩; rw [← Hn.out, ← Hs.out]; rw [← Hn.out, ← Hs.out] at hown8; obtain ⟨a8, k8, hv8⟩ := owns_shape hown8; subst hv8; have Hown8 := Lib.hid hown8; have Hx8 := Lib.hid (Hx9.out.step hb8); clear hown8 hb8; clear a0 c0 c1 c2 g0 g1 g2 s0; obtain ⟨a0, c0, c1, c2, g0, g1, g2, s0⟩ := kept2 Hx8.out))
  refine bodyPost_ret (v := .agg #[.int .i64 (findIn fs path p s).kind, .int .i64 (findIn fs path p s).file, .slice a8 (findIn fs path p s).roots.length k8]) (by simp [results, Try.results27, go_sem, *]) rfl ?_
  have hbw := Hx8.out.below
  have hlt9 := Hx9.out.lt
  refine ⟨_, rfl, ?_, by (repeat (with_reducible first | exact Below.refl _ _ | assumption | refine ba ?_ _ | refine bd ?_ | refine bdN ?_ _ | refine bs ?_ (by first | exact Nat.le_refl _ | (dsimp only; omega) | (simp; done)) _ | refine bt ?_ (by assumption)))⟩
  refine owns_mono (B := w.heap.size + 2) ?_ (by omega)
  (repeat (with_reducible first | refine World.ownsRow.alloc ?_ _ | refine owns_set_low ?_ (by first | (dsimp only; omega) | (simp; done) | (simp; omega)) _))
  exact owns_mono Hown8.out (by first | omega | (simp; omega))


end Go.Proofs.Ytfelbhpgifgkcaa
