/- Contracts of the model's functions of chapter 3 over a path. -/
import Derived.Test.YtggkkehmhapomaaSFind
import Derived.Test.YtggkkehmhapomaaLooks
set_option linter.unusedVariables false
set_option linter.unusedSimpArgs false
namespace Go.Proofs.Ytggkkehmhapomaa
open Go.RowKit Go.Proofs.Ytggkkehmhapomaa.Nm

/-- The cells of the tree's box and of the result's. -/
theorem kept2 {w w' : World} {a : Option Addr} {n c : Nat} {T U : TypeId} (hB : Boxed2 w #[.slice a n c] T #[.int .i64 0, .int .i64 0, .slice none 0 0] U w') :
    w'.cell? ⟨w.heap.size, 0, none⟩ = some (.slice a n c) ∧ w'.cell? ⟨w.heap.size + 1, 0, none⟩ = some (.int .i64 0) ∧ w'.cell? ⟨w.heap.size + 1, 1, none⟩ = some (.int .i64 0) ∧ w'.cell? ⟨w.heap.size + 1, 2, none⟩ = some (.slice none 0 0) ∧
    w'.frozen? ⟨w.heap.size + 1, 0, none⟩ = false ∧ w'.frozen? ⟨w.heap.size + 1, 1, none⟩ = false ∧ w'.frozen? ⟨w.heap.size + 1, 2, none⟩ = false ∧ w.heap.size + 1 < w'.heap.size :=
  ⟨hB.one.cell 0, hB.cell 0, hB.cell 1, hB.cell 2, hB.two.free2 0, hB.two.free2 1, hB.two.free2 2, hB.lt⟩



set_option maxRecDepth 100000 in
set_option maxHeartbeats 2000000 in
theorem spec_IsPackage (v : Value) (fs : List Fil) (D : Nat → Prop) (pv : Value) (path : List Int) (s : Bs) (w : World) (hr : FilsIn w D v fs) (hz : ShortT 2000000 fs) (hp : IntsIn w pv path) (hsl : s.length ≤ 8000000) :
    Calls Try.prog 24 #[.agg #[v], pv, .string (mk s)] w fun e w' => e = .returned (.bool (isPack fs path s)) ∧ Below w.heap.size w w' := by
  have Hr := Lib.hid hr
  have Hz := Lib.hid hz
  have Hz3 := Lib.hid (short2 (B := 3000000) (by omega) hz)
  have Hp := Lib.hid hp
  obtain ⟨aa, ca, rfl, hl, hm⟩ := hr.len
  obtain ⟨pa, pc, rfl, hl1, hm1⟩ := hp.len
  clear hr hz hp hl hm hl1 hm1
  have Hb0 := Lib.hid (Boxed.start w #[.slice aa fs.length ca] 25)
  have hf0 := fld0
  cases h1 : okTree fs
  · have H1 := Lib.hid h1
    have Hs := Lib.hid (show isPack fs path s = false by unfold isPack; rw [show findSpec fs path s = noSpc by unfold findSpec okLook; rw [h1]; simp]; rfl)
    clear h1
    go_enter Try.func24, Try.ntmps24
    go_wp2_with (first
      | (go_at_call 35; refine (spec_validTree _ fs D _ (Hr.out.below (by have := Hb0.out.below; (repeat (with_reducible first | exact Below.refl _ _ | assumption | refine ba ?_ _ | refine bd ?_ | refine bdN ?_ _ | refine bs ?_ (by first | exact Nat.le_refl _ | (dsimp only; omega) | (simp; done)) _ | refine bt ?_ (by assumption))))) Hz3.out).mono ?_; rintro _ w5 ⟨rfl, hb5⟩; rw [H1.out]; have Hx5 := Lib.hid (Hb0.out.step hb5); clear hb5; have a0 : w5.cell? ⟨w.heap.size, 0, none⟩ = some (.slice aa fs.length ca) := Hx5.out.cell 0))
    go_ret
    have hbw := Hx5.out.below
    exact ⟨ret_bool (by rw [Hs.out]), by (repeat (with_reducible first | exact Below.refl _ _ | assumption | refine ba ?_ _ | refine bd ?_ | refine bdN ?_ _ | refine bs ?_ (by first | exact Nat.le_refl _ | (dsimp only; omega) | (simp; done)) _ | refine bt ?_ (by assumption)))⟩
  cases h2 : okPath path
  · have H1 := Lib.hid h1
    have H2 := Lib.hid h2
    have Hs := Lib.hid (show isPack fs path s = false by unfold isPack; rw [show findSpec fs path s = noSpc by unfold findSpec okLook; rw [h2]; simp]; rfl)
    clear h1 h2
    go_enter Try.func24, Try.ntmps24
    go_wp2_with (first
      | (go_at_call 35; refine (spec_validTree _ fs D _ (Hr.out.below (by have := Hb0.out.below; (repeat (with_reducible first | exact Below.refl _ _ | assumption | refine ba ?_ _ | refine bd ?_ | refine bdN ?_ _ | refine bs ?_ (by first | exact Nat.le_refl _ | (dsimp only; omega) | (simp; done)) _ | refine bt ?_ (by assumption))))) Hz3.out).mono ?_; rintro _ w5 ⟨rfl, hb5⟩; rw [H1.out]; have Hx5 := Lib.hid (Hb0.out.step hb5); clear hb5; have a0 : w5.cell? ⟨w.heap.size, 0, none⟩ = some (.slice aa fs.length ca) := Hx5.out.cell 0)
      | (go_at_call 36; refine (spec_validPath _ path _ (Hp.out.below (by have := Hx5.out.below; (repeat (with_reducible first | exact Below.refl _ _ | assumption | refine ba ?_ _ | refine bd ?_ | refine bdN ?_ _ | refine bs ?_ (by first | exact Nat.le_refl _ | (dsimp only; omega) | (simp; done)) _ | refine bt ?_ (by assumption)))))).mono ?_; rintro _ w6 ⟨rfl, hb6⟩; rw [H2.out]; have Hx6 := Lib.hid (Hx5.out.step hb6); clear hb6; clear a0; have a0 : w6.cell? ⟨w.heap.size, 0, none⟩ = some (.slice aa fs.length ca) := Hx6.out.cell 0))
    go_ret
    have hbw := Hx6.out.below
    exact ⟨ret_bool (by rw [Hs.out]), by (repeat (with_reducible first | exact Below.refl _ _ | assumption | refine ba ?_ _ | refine bd ?_ | refine bdN ?_ _ | refine bs ?_ (by first | exact Nat.le_refl _ | (dsimp only; omega) | (simp; done)) _ | refine bt ?_ (by assumption)))⟩
  cases h3 : vn s
  · have H1 := Lib.hid h1
    have H2 := Lib.hid h2
    have H3 := Lib.hid h3
    have Hs := Lib.hid (show isPack fs path s = false by unfold isPack; rw [show findSpec fs path s = noSpc by unfold findSpec byParts; rw [h3]; simp]; rfl)
    clear h1 h2 h3
    go_enter Try.func24, Try.ntmps24
    go_wp2_with (first
      | (go_at_call 35; refine (spec_validTree _ fs D _ (Hr.out.below (by have := Hb0.out.below; (repeat (with_reducible first | exact Below.refl _ _ | assumption | refine ba ?_ _ | refine bd ?_ | refine bdN ?_ _ | refine bs ?_ (by first | exact Nat.le_refl _ | (dsimp only; omega) | (simp; done)) _ | refine bt ?_ (by assumption))))) Hz3.out).mono ?_; rintro _ w5 ⟨rfl, hb5⟩; rw [H1.out]; have Hx5 := Lib.hid (Hb0.out.step hb5); clear hb5; have a0 : w5.cell? ⟨w.heap.size, 0, none⟩ = some (.slice aa fs.length ca) := Hx5.out.cell 0)
      | (go_at_call 36; refine (spec_validPath _ path _ (Hp.out.below (by have := Hx5.out.below; (repeat (with_reducible first | exact Below.refl _ _ | assumption | refine ba ?_ _ | refine bd ?_ | refine bdN ?_ _ | refine bs ?_ (by first | exact Nat.le_refl _ | (dsimp only; omega) | (simp; done)) _ | refine bt ?_ (by assumption)))))).mono ?_; rintro _ w6 ⟨rfl, hb6⟩; rw [H2.out]; have Hx6 := Lib.hid (Hx5.out.step hb6); clear hb6; clear a0; have a0 : w6.cell? ⟨w.heap.size, 0, none⟩ = some (.slice aa fs.length ca) := Hx6.out.cell 0)
      | (go_at_call 56; refine (spec_validName s _ hsl).mono ?_; rintro _ w7 ⟨rfl, hb7⟩; rw [H3.out]; have Hx7 := Lib.hid (Hx6.out.step hb7); clear hb7; clear a0; have a0 : w7.cell? ⟨w.heap.size, 0, none⟩ = some (.slice aa fs.length ca) := Hx7.out.cell 0))
    go_ret
    have hbw := Hx7.out.below
    exact ⟨ret_bool (by rw [Hs.out]), by (repeat (with_reducible first | exact Below.refl _ _ | assumption | refine ba ?_ _ | refine bd ?_ | refine bdN ?_ _ | refine bs ?_ (by first | exact Nat.le_refl _ | (dsimp only; omega) | (simp; done)) _ | refine bt ?_ (by assumption)))⟩
  have h3l := okPath_len h2
  have H1 := Lib.hid h1
  have H2 := Lib.hid h2
  have H3 := Lib.hid h3
  have Hs := Lib.hid (show findSpec fs path s = byParts fs path s by unfold findSpec; rw [okLook_of h1 h2]; rfl)
  have He := Lib.hid (show isPack fs path s = (decide ((findSpec fs path s).kind = 2) || decide ((findSpec fs path s).kind = 3)) from rfl)
  generalize isPack fs path s = cf at *
  clear h1 h2 h3
  go_enter Try.func24, Try.ntmps24
  go_wp2_with (first
    | (go_at_call 35; refine (spec_validTree _ fs D _ (Hr.out.below (by have := Hb0.out.below; (repeat (with_reducible first | exact Below.refl _ _ | assumption | refine ba ?_ _ | refine bd ?_ | refine bdN ?_ _ | refine bs ?_ (by first | exact Nat.le_refl _ | (dsimp only; omega) | (simp; done)) _ | refine bt ?_ (by assumption))))) Hz3.out).mono ?_; rintro _ w5 ⟨rfl, hb5⟩; rw [H1.out]; have Hx5 := Lib.hid (Hb0.out.step hb5); clear hb5; have a0 : w5.cell? ⟨w.heap.size, 0, none⟩ = some (.slice aa fs.length ca) := Hx5.out.cell 0)
    | (go_at_call 36; refine (spec_validPath _ path _ (Hp.out.below (by have := Hx5.out.below; (repeat (with_reducible first | exact Below.refl _ _ | assumption | refine ba ?_ _ | refine bd ?_ | refine bdN ?_ _ | refine bs ?_ (by first | exact Nat.le_refl _ | (dsimp only; omega) | (simp; done)) _ | refine bt ?_ (by assumption)))))).mono ?_; rintro _ w6 ⟨rfl, hb6⟩; rw [H2.out]; have Hx6 := Lib.hid (Hx5.out.step hb6); clear hb6; clear a0; have a0 : w6.cell? ⟨w.heap.size, 0, none⟩ = some (.slice aa fs.length ca) := Hx6.out.cell 0)
    | (go_at_call 56; refine (spec_validName s _ hsl).mono ?_; rintro _ w7 ⟨rfl, hb7⟩; rw [H3.out]; have Hx7 := Lib.hid (Hx6.out.step hb7); clear hb7; clear a0; have a0 : w7.cell? ⟨w.heap.size, 0, none⟩ = some (.slice aa fs.length ca) := Hx7.out.cell 0)
    | (go_at_call 37; refine (spec_find _ fs D _ path s _ (Hr.out.below (by have := Hx7.out.below; (repeat (with_reducible first | exact Below.refl _ _ | assumption | refine ba ?_ _ | refine bd ?_ | refine bdN ?_ _ | refine bs ?_ (by first | exact Nat.le_refl _ | (dsimp only; omega) | (simp; done)) _ | refine bt ?_ (by assumption))))) Hz.out H1.out H3.out (Hp.out.below (by have := Hx7.out.below; (repeat (with_reducible first | exact Below.refl _ _ | assumption | refine ba ?_ _ | refine bd ?_ | refine bdN ?_ _ | refine bs ?_ (by first | exact Nat.le_refl _ | (dsimp only; omega) | (simp; done)) _ | refine bt ?_ (by assumption))))) (by omega)).mono ?_; rintro _ w8 ⟨v8, rfl, hown8, hb8⟩; rw [← Hs.out]; rw [← Hs.out] at hown8; obtain ⟨a8, k8, hv8⟩ := owns_shape hown8; subst hv8; have Hx8 := Lib.hid (Hx7.out.step hb8); clear hown8 hb8 a0))
  all_goals (go_ret; have hbw := Hx8.out.below; refine ⟨ret_bool ?_, by (repeat (with_reducible first | exact Below.refl _ _ | assumption | refine ba ?_ _ | refine bd ?_ | refine bdN ?_ _ | refine bs ?_ (by first | exact Nat.le_refl _ | (dsimp only; omega) | (simp; done)) _ | refine bt ?_ (by assumption)))⟩; rw [He.out]; first | rfl | (rw [Bool.eq_iff_iff]; simp; done) | (rw [Bool.eq_iff_iff]; simp_all; done))
end Go.Proofs.Ytggkkehmhapomaa
