/- Contracts of the program's functions of chapter 3 over a path. -/
import Derived.Test.YtolhgklbkjdpiaaByParts
import Derived.Test.YtolhgklbkjdpiaaTrees2
set_option linter.unusedVariables false
set_option linter.unusedSimpArgs false
namespace Go.Proofs.Ytolhgklbkjdpiaa
open Go.RowKit Go.Proofs.Ytolhgklbkjdpiaa.Nm

theorem okLook_eq (t : List Fil) (path : List Int) : okLook t path = (okPath path && okTree t) := rfl
theorem fld0 (a b : Int) (c : Option Addr) (n m : Nat) (w : World) : (Instr.field 58 (.agg #[.int .i64 a, .int .i64 b, .slice c n m]) 0).run Try.prog w = .ok (.int .i64 a) w := by kernel_rfl
theorem fld1 (a b : Int) (c : Option Addr) (n m : Nat) (w : World) : (Instr.field 58 (.agg #[.int .i64 a, .int .i64 b, .slice c n m]) 1).run Try.prog w = .ok (.int .i64 b) w := by kernel_rfl
theorem fld2 (a b : Int) (c : Option Addr) (n m : Nat) (w : World) : (Instr.field 58 (.agg #[.int .i64 a, .int .i64 b, .slice c n m]) 2).run Try.prog w = .ok (.slice c n m) w := by kernel_rfl
set_option maxRecDepth 100000 in
set_option maxHeartbeats 400000 in
theorem impl_validLook (v : Value) (fs : List Fil) (D : Nat → Prop) (pv : Value) (path : List Int) (w : World) (hr : FilsIn w D v fs) (hz : ShortT 2000000 fs) (hp : IntsIn w pv path) :
    Calls Try.prog 84 #[.agg #[v], pv] w fun e w' => e = .returned (.bool (okLook fs path)) ∧ Below w.heap.size w w' := by
  have Hr := Lib.hid hr
  have Hz := Lib.hid (short2 (B := 8000000) (by omega) hz)
  have Hp := Lib.hid hp
  obtain ⟨aa, ca, rfl, hl, hm⟩ := hr.len
  have He := Lib.hid (okLook_eq fs path)
  clear hr hz hp hl hm
  cases h1 : okPath path
  · have H1 := Lib.hid h1
    clear h1
    go_enter Try.func84, Try.ntmps84
    go_wp2_with (go_at_call 34; refine (impl_ValidPath _ path _ (Hp.out.below (by (repeat (with_reducible first | exact Below.refl _ _ | assumption | refine ba ?_ _ | refine bd ?_ | refine bdN ?_ _ | refine bs ?_ (by first | exact Nat.le_refl _ | (dsimp only; omega) | (simp; done)) _ | refine bt ?_ (by assumption)))))).mono ?_; rintro _ _ ⟨rfl, rfl⟩; rw [H1.out])
    go_ret
    exact ⟨ret_bool (by rw [He.out, H1.out]; rfl), by (repeat (with_reducible first | exact Below.refl _ _ | assumption | refine ba ?_ _ | refine bd ?_ | refine bdN ?_ _ | refine bs ?_ (by first | exact Nat.le_refl _ | (dsimp only; omega) | (simp; done)) _ | refine bt ?_ (by assumption)))⟩
  · have H1 := Lib.hid h1
    clear h1
    go_enter Try.func84, Try.ntmps84
    go_wp2_with (first
      | (go_at_call 34; refine (impl_ValidPath _ path _ (Hp.out.below (by (repeat (with_reducible first | exact Below.refl _ _ | assumption | refine ba ?_ _ | refine bd ?_ | refine bdN ?_ _ | refine bs ?_ (by first | exact Nat.le_refl _ | (dsimp only; omega) | (simp; done)) _ | refine bt ?_ (by assumption)))))).mono ?_; rintro _ _ ⟨rfl, rfl⟩; rw [H1.out])
      | (go_at_call 58; refine (impl_ValidTree _ fs D _ (Hr.out.below (by (repeat (with_reducible first | exact Below.refl _ _ | assumption | refine ba ?_ _ | refine bd ?_ | refine bdN ?_ _ | refine bs ?_ (by first | exact Nat.le_refl _ | (dsimp only; omega) | (simp; done)) _ | refine bt ?_ (by assumption))))) Hz.out).mono ?_; (rintro _ _ ⟨rfl, hb⟩; obtain ⟨hc, hf, hs⟩ := bcell hb)))
    go_ret
    exact ⟨ret_bool (by rw [He.out, H1.out]; rfl), by (repeat (with_reducible first | exact Below.refl _ _ | assumption | refine ba ?_ _ | refine bd ?_ | refine bdN ?_ _ | refine bs ?_ (by first | exact Nat.le_refl _ | (dsimp only; omega) | (simp; done)) _ | refine bt ?_ (by assumption)))⟩

set_option maxRecDepth 100000 in
set_option maxHeartbeats 1000000 in
theorem impl_FindSpec (v : Value) (fs : List Fil) (D : Nat → Prop) (pv : Value) (path : List Int) (s : Bs) (w : World) (hr : FilsIn w D v fs) (hz : ShortT 2000000 fs) (hp : IntsIn w pv path) (hsl : s.length ≤ 8000000) :
    Calls Try.prog 43 #[.agg #[v], pv, .string (mk s)] w (NewSpc 3 (findSpec fs path s) w) := by
  have Hr := Lib.hid hr
  have Hz := Lib.hid hz
  have Hp := Lib.hid hp
  obtain ⟨aa, ca, rfl, hl, hm⟩ := hr.len
  obtain ⟨pa, pc, rfl, hl1, hm1⟩ := hp.len
  clear hr hz hp hl hm hl1 hm1
  have hb0 := Boxed2.start w #[.slice aa fs.length ca] 32 #[.int .i64 0, .int .i64 0, .slice none 0 0] 58
  have Hk := Lib.hid (fun (w' : World) (hB : Boxed2 w #[.slice aa fs.length ca] 32 #[.int .i64 0, .int .i64 0, .slice none 0 0] 58 w') => (⟨hB.one.cell 0, hB.cell 0, hB.cell 1, hB.cell 2, hB.two.free2 0, hB.two.free2 1, hB.two.free2 2, hB.lt⟩ :
    w'.cell? ⟨w.heap.size, 0, none⟩ = some (.slice aa fs.length ca) ∧ w'.cell? ⟨w.heap.size + 1, 0, none⟩ = some (.int .i64 0) ∧ w'.cell? ⟨w.heap.size + 1, 1, none⟩ = some (.int .i64 0) ∧ w'.cell? ⟨w.heap.size + 1, 2, none⟩ = some (.slice none 0 0) ∧
    w'.frozen? ⟨w.heap.size + 1, 0, none⟩ = false ∧ w'.frozen? ⟨w.heap.size + 1, 1, none⟩ = false ∧ w'.frozen? ⟨w.heap.size + 1, 2, none⟩ = false ∧ w.heap.size + 1 < w'.heap.size))
  have Hb0 := Lib.hid hb0
  clear hb0
  cases h1 : okLook fs path
  · have H1 := Lib.hid h1
    have Hs := Lib.hid (show findSpec fs path s = noSpc by unfold findSpec; rw [h1]; rfl)
    clear h1
    go_enter Try.func43, Try.ntmps43
    go_wp2_with (first
      | (go_at_call 84; refine (impl_validLook _ fs D _ path _ (Hr.out.below (by (repeat (with_reducible first | exact Below.refl _ _ | assumption | refine ba ?_ _ | refine bd ?_ | refine bdN ?_ _ | refine bs ?_ (by first | exact Nat.le_refl _ | (dsimp only; omega) | (simp; done)) _ | refine bt ?_ (by assumption))))) Hz.out (Hp.out.below (by (repeat (with_reducible first | exact Below.refl _ _ | assumption | refine ba ?_ _ | refine bd ?_ | refine bdN ?_ _ | refine bs ?_ (by first | exact Nat.le_refl _ | (dsimp only; omega) | (simp; done)) _ | refine bt ?_ (by assumption)))))).mono ?_; rintro _ w5 ⟨rfl, hb5⟩; rw [H1.out]; have Hx5 := Lib.hid (Hb0.out.step hb5); obtain ⟨a0, c0, c1, c2, g0, g1, g2, s0⟩ := Hk.out w5 Hx5.out; clear hb5)
      | (go_at_call 85; refine (impl_nothing _).mono ?_; rintro _ w6 ⟨rfl, hb6⟩; have Hx6 := Lib.hid (Hx5.out.step hb6); clear a0 c0 c1 c2 g0 g1 g2 s0 hb6; obtain ⟨a0, c0, c1, c2, g0, g1, g2, s0⟩ := Hk.out w6 Hx6.out))
    have hbw := Hx6.out.below
    exact bodyPost_ret (v := .agg #[.int .i64 0, .int .i64 (-1), .slice none 0 0]) (by simp [results, Try.results43, go_sem, *]) rfl (noSpc_new Hs.out (by (repeat (with_reducible first | exact Below.refl _ _ | assumption | refine ba ?_ _ | refine bd ?_ | refine bdN ?_ _ | refine bs ?_ (by first | exact Nat.le_refl _ | (dsimp only; omega) | (simp; done)) _ | refine bt ?_ (by assumption)))))
  · have H1 := Lib.hid h1
    have Ht := Lib.hid (okLook_tree h1)
    have h3 := okPath_len (okLook_path h1)
    have Hs := Lib.hid (show findSpec fs path s = byParts fs path s by unfold findSpec; rw [h1]; rfl)
    clear h1
    go_enter Try.func43, Try.ntmps43
    go_wp2_with (first
      | (go_at_call 84; refine (impl_validLook _ fs D _ path _ (Hr.out.below (by (repeat (with_reducible first | exact Below.refl _ _ | assumption | refine ba ?_ _ | refine bd ?_ | refine bdN ?_ _ | refine bs ?_ (by first | exact Nat.le_refl _ | (dsimp only; omega) | (simp; done)) _ | refine bt ?_ (by assumption))))) Hz.out (Hp.out.below (by (repeat (with_reducible first | exact Below.refl _ _ | assumption | refine ba ?_ _ | refine bd ?_ | refine bdN ?_ _ | refine bs ?_ (by first | exact Nat.le_refl _ | (dsimp only; omega) | (simp; done)) _ | refine bt ?_ (by assumption)))))).mono ?_; rintro _ w5 ⟨rfl, hb5⟩; rw [H1.out]; have Hx5 := Lib.hid (Hb0.out.step hb5); obtain ⟨a0, c0, c1, c2, g0, g1, g2, s0⟩ := Hk.out w5 Hx5.out; clear hb5)
      | (go_at_call 88; refine (impl_findByParts _ fs D _ path s _ (Hr.out.below (by have := Hx5.out.below; (repeat (with_reducible first | exact Below.refl _ _ | assumption | refine ba ?_ _ | refine bd ?_ | refine bdN ?_ _ | refine bs ?_ (by first | exact Nat.le_refl _ | (dsimp only; omega) | (simp; done)) _ | refine bt ?_ (by assumption))))) Hz.out Ht.out (Hp.out.below (by have := Hx5.out.below; (repeat (with_reducible first | exact Below.refl _ _ | assumption | refine ba ?_ _ | refine bd ?_ | refine bdN ?_ _ | refine bs ?_ (by first | exact Nat.le_refl _ | (dsimp only; omega) | (simp; done)) _ | refine bt ?_ (by assumption))))) (by omega) hsl).mono ?_; rintro _ w6 ⟨v6, rfl, hown6, hb6⟩; rw [← Hs.out]; rw [← Hs.out] at hown6; obtain ⟨a6, c6, hv6⟩ := owns_shape hown6; subst hv6; have Hown6 := Lib.hid hown6; have Hx6 := Lib.hid (Hx5.out.step hb6); clear a0 c0 c1 c2 g0 g1 g2 s0 hown6 hb6; obtain ⟨a0, c0, c1, c2, g0, g1, g2, s0⟩ := Hk.out w6 Hx6.out))
    refine bodyPost_ret (v := .agg #[.int .i64 (findSpec fs path s).kind, .int .i64 (findSpec fs path s).file, .slice a6 (findSpec fs path s).roots.length c6]) (by simp [results, Try.results43, go_sem, *]) rfl ?_
    have hbw := Hx6.out.below
    have h5 := Hx5.out.lt
    refine ⟨_, rfl, ?_, by (repeat (with_reducible first | exact Below.refl _ _ | assumption | refine ba ?_ _ | refine bd ?_ | refine bdN ?_ _ | refine bs ?_ (by first | exact Nat.le_refl _ | (dsimp only; omega) | (simp; done)) _ | refine bt ?_ (by assumption)))⟩
    refine owns_mono (B := w.heap.size + 2) ?_ (by omega)
    (repeat (with_reducible first | refine World.ownsRow.alloc ?_ _ | refine owns_set_low ?_ (by first | (dsimp only; omega) | (simp; done) | (simp; omega)) _))
    exact owns_mono Hown6.out (by omega)

set_option maxRecDepth 100000 in
set_option maxHeartbeats 1000000 in
theorem impl_FindIn (v : Value) (fs : List Fil) (D : Nat → Prop) (pv : Value) (path : List Int) (p s : Bs) (w : World) (hr : FilsIn w D v fs) (hz : ShortT 2000000 fs) (hp : IntsIn w pv path) (hpl : p.length ≤ 8000000) (hsl : s.length ≤ 8000000) :
    Calls Try.prog 37 #[.agg #[v], pv, .string (mk p), .string (mk s)] w (NewSpc 3 (findIn fs path p s) w) := by
  have Hr := Lib.hid hr
  have Hz := Lib.hid hz
  have Hp := Lib.hid hp
  obtain ⟨aa, ca, rfl, hl, hm⟩ := hr.len
  obtain ⟨pa, pc, rfl, hl1, hm1⟩ := hp.len
  clear hr hz hp hl hm hl1 hm1
  have hb0 := Boxed2.start w #[.slice aa fs.length ca] 32 #[.int .i64 0, .int .i64 0, .slice none 0 0] 58
  have Hk := Lib.hid (fun (w' : World) (hB : Boxed2 w #[.slice aa fs.length ca] 32 #[.int .i64 0, .int .i64 0, .slice none 0 0] 58 w') => (⟨hB.one.cell 0, hB.cell 0, hB.cell 1, hB.cell 2, hB.two.free2 0, hB.two.free2 1, hB.two.free2 2, hB.lt⟩ :
    w'.cell? ⟨w.heap.size, 0, none⟩ = some (.slice aa fs.length ca) ∧ w'.cell? ⟨w.heap.size + 1, 0, none⟩ = some (.int .i64 0) ∧ w'.cell? ⟨w.heap.size + 1, 1, none⟩ = some (.int .i64 0) ∧ w'.cell? ⟨w.heap.size + 1, 2, none⟩ = some (.slice none 0 0) ∧
    w'.frozen? ⟨w.heap.size + 1, 0, none⟩ = false ∧ w'.frozen? ⟨w.heap.size + 1, 1, none⟩ = false ∧ w'.frozen? ⟨w.heap.size + 1, 2, none⟩ = false ∧ w.heap.size + 1 < w'.heap.size))
  have Hb0 := Lib.hid hb0
  clear hb0
  obtain ⟨n, hn⟩ : ∃ n, n = childOf p s := ⟨_, rfl⟩
  have Hn := Lib.hid hn
  have Hfi := Lib.hid (show findIn fs path p s = if okLook fs path && !n.isEmpty then overSpc fs path n else noSpc by rw [hn]; rfl)
  have Hvn := Lib.hid (fun (h : n ≠ []) => (show vn n = true by rw [hn] at h ⊢; exact (parent_childOf h).2.2))
  clear hn
  by_cases h0 : n = []
  · subst h0
    have Hs := Lib.hid (show findIn fs path p s = noSpc by rw [Hfi.out]; simp)
    go_enter Try.func37, Try.ntmps37
    go_wp2_with (first
      | (go_at_call 83; refine (impl_ChildOf p s _ hpl hsl).mono ?_; rintro _ w5 ⟨rfl, hb5⟩; rw [← Hn.out]; have Hx5 := Lib.hid (Hb0.out.step hb5); obtain ⟨a0, c0, c1, c2, g0, g1, g2, s0⟩ := Hk.out w5 Hx5.out; clear hb5)
      | (go_at_call 85; refine (impl_nothing _).mono ?_; rintro _ w6 ⟨rfl, hb6⟩; have Hx6 := Lib.hid (Hx5.out.step hb6); clear a0 c0 c1 c2 g0 g1 g2 s0 hb6; obtain ⟨a0, c0, c1, c2, g0, g1, g2, s0⟩ := Hk.out w6 Hx6.out))
    have hbw := Hx6.out.below
    exact bodyPost_ret (v := .agg #[.int .i64 0, .int .i64 (-1), .slice none 0 0]) (by simp [results, Try.results37, go_sem, *]) rfl (noSpc_new Hs.out (by (repeat (with_reducible first | exact Below.refl _ _ | assumption | refine ba ?_ _ | refine bd ?_ | refine bdN ?_ _ | refine bs ?_ (by first | exact Nat.le_refl _ | (dsimp only; omega) | (simp; done)) _ | refine bt ?_ (by assumption)))))
  · have Hv := Lib.hid (Hvn.out h0)
    have he1 : n.isEmpty = false := by simpa using h0
    have H0 := Lib.hid h0
    clear h0
    cases h1 : okLook fs path
    · have H1 := Lib.hid h1
      have Hs := Lib.hid (show findIn fs path p s = noSpc by rw [Hfi.out, h1]; rfl)
      clear h1
      go_enter Try.func37, Try.ntmps37
      go_wp2_with (first
        | (go_at_call 83; refine (impl_ChildOf p s _ hpl hsl).mono ?_; rintro _ w5 ⟨rfl, hb5⟩; rw [← Hn.out]; have Hx5 := Lib.hid (Hb0.out.step hb5); obtain ⟨a0, c0, c1, c2, g0, g1, g2, s0⟩ := Hk.out w5 Hx5.out; clear hb5)
        | (go_at_call 84; refine (impl_validLook _ fs D _ path _ (Hr.out.below (by have := Hx5.out.below; (repeat (with_reducible first | exact Below.refl _ _ | assumption | refine ba ?_ _ | refine bd ?_ | refine bdN ?_ _ | refine bs ?_ (by first | exact Nat.le_refl _ | (dsimp only; omega) | (simp; done)) _ | refine bt ?_ (by assumption))))) Hz.out (Hp.out.below (by have := Hx5.out.below; (repeat (with_reducible first | exact Below.refl _ _ | assumption | refine ba ?_ _ | refine bd ?_ | refine bdN ?_ _ | refine bs ?_ (by first | exact Nat.le_refl _ | (dsimp only; omega) | (simp; done)) _ | refine bt ?_ (by assumption)))))).mono ?_; rintro _ w7 ⟨rfl, hb7⟩; rw [H1.out]; have Hx7 := Lib.hid (Hx5.out.step hb7); clear a0 c0 c1 c2 g0 g1 g2 s0 hb7; obtain ⟨a0, c0, c1, c2, g0, g1, g2, s0⟩ := Hk.out w7 Hx7.out)
        | (go_at_call 85; refine (impl_nothing _).mono ?_; rintro _ w6 ⟨rfl, hb6⟩; have Hx6 := Lib.hid (Hx7.out.step hb6); clear a0 c0 c1 c2 g0 g1 g2 s0 hb6; obtain ⟨a0, c0, c1, c2, g0, g1, g2, s0⟩ := Hk.out w6 Hx6.out))
      have hbw := Hx6.out.below
      exact bodyPost_ret (v := .agg #[.int .i64 0, .int .i64 (-1), .slice none 0 0]) (by simp [results, Try.results37, go_sem, *]) rfl (noSpc_new Hs.out (by (repeat (with_reducible first | exact Below.refl _ _ | assumption | refine ba ?_ _ | refine bd ?_ | refine bdN ?_ _ | refine bs ?_ (by first | exact Nat.le_refl _ | (dsimp only; omega) | (simp; done)) _ | refine bt ?_ (by assumption)))))
    · have H1 := Lib.hid h1
      have Ht := Lib.hid (okLook_tree h1)
      have h3 := okPath_len (okLook_path h1)
      have Hs := Lib.hid (show findIn fs path p s = overSpc fs path n by rw [Hfi.out, h1, he1]; rfl)
      clear h1
      go_enter Try.func37, Try.ntmps37
      go_wp2_with (first
        | (go_at_call 83; refine (impl_ChildOf p s _ hpl hsl).mono ?_; rintro _ w5 ⟨rfl, hb5⟩; rw [← Hn.out]; have Hx5 := Lib.hid (Hb0.out.step hb5); obtain ⟨a0, c0, c1, c2, g0, g1, g2, s0⟩ := Hk.out w5 Hx5.out; clear hb5)
        | (go_at_call 84; refine (impl_validLook _ fs D _ path _ (Hr.out.below (by have := Hx5.out.below; (repeat (with_reducible first | exact Below.refl _ _ | assumption | refine ba ?_ _ | refine bd ?_ | refine bdN ?_ _ | refine bs ?_ (by first | exact Nat.le_refl _ | (dsimp only; omega) | (simp; done)) _ | refine bt ?_ (by assumption))))) Hz.out (Hp.out.below (by have := Hx5.out.below; (repeat (with_reducible first | exact Below.refl _ _ | assumption | refine ba ?_ _ | refine bd ?_ | refine bdN ?_ _ | refine bs ?_ (by first | exact Nat.le_refl _ | (dsimp only; omega) | (simp; done)) _ | refine bt ?_ (by assumption)))))).mono ?_; rintro _ w7 ⟨rfl, hb7⟩; rw [H1.out]; have Hx7 := Lib.hid (Hx5.out.step hb7); clear a0 c0 c1 c2 g0 g1 g2 s0 hb7; obtain ⟨a0, c0, c1, c2, g0, g1, g2, s0⟩ := Hk.out w7 Hx7.out)
        | (go_at_call 86; refine (impl_findOver _ fs D _ path n _ (Hr.out.below (by have := Hx7.out.below; (repeat (with_reducible first | exact Below.refl _ _ | assumption | refine ba ?_ _ | refine bd ?_ | refine bdN ?_ _ | refine bs ?_ (by first | exact Nat.le_refl _ | (dsimp only; omega) | (simp; done)) _ | refine bt ?_ (by assumption))))) Hz.out Ht.out Hv.out (Hp.out.below (by have := Hx7.out.below; (repeat (with_reducible first | exact Below.refl _ _ | assumption | refine ba ?_ _ | refine bd ?_ | refine bdN ?_ _ | refine bs ?_ (by first | exact Nat.le_refl _ | (dsimp only; omega) | (simp; done)) _ | refine bt ?_ (by assumption))))) (by omega)).mono ?_; rintro _ w6 ⟨v6, rfl, hown6, hb6⟩; rw [← Hs.out]; rw [← Hs.out] at hown6; obtain ⟨a6, c6, hv6⟩ := owns_shape hown6; subst hv6; have Hown6 := Lib.hid hown6; have Hx6 := Lib.hid (Hx7.out.step hb6); clear a0 c0 c1 c2 g0 g1 g2 s0 hown6 hb6; obtain ⟨a0, c0, c1, c2, g0, g1, g2, s0⟩ := Hk.out w6 Hx6.out))
      refine bodyPost_ret (v := .agg #[.int .i64 (findIn fs path p s).kind, .int .i64 (findIn fs path p s).file, .slice a6 (findIn fs path p s).roots.length c6]) (by simp [results, Try.results37, go_sem, *]) rfl ?_
      have hbw := Hx6.out.below
      have h5 := Hx7.out.lt
      refine ⟨_, rfl, ?_, by (repeat (with_reducible first | exact Below.refl _ _ | assumption | refine ba ?_ _ | refine bd ?_ | refine bdN ?_ _ | refine bs ?_ (by first | exact Nat.le_refl _ | (dsimp only; omega) | (simp; done)) _ | refine bt ?_ (by assumption)))⟩
      refine owns_mono (B := w.heap.size + 2) ?_ (by omega)
      (repeat (with_reducible first | refine World.ownsRow.alloc ?_ _ | refine owns_set_low ?_ (by first | (dsimp only; omega) | (simp; done) | (simp; omega)) _))
      exact owns_mono Hown6.out (by omega)

set_option maxRecDepth 100000 in
set_option maxHeartbeats 400000 in
theorem impl_CanFind (v : Value) (fs : List Fil) (D : Nat → Prop) (pv : Value) (path : List Int) (s : Bs) (w : World) (hr : FilsIn w D v fs) (hz : ShortT 2000000 fs) (hp : IntsIn w pv path) (hsl : s.length ≤ 8000000) :
    Calls Try.prog 45 #[.agg #[v], pv, .string (mk s)] w fun e w' => e = .returned (.bool (canFind fs path s)) ∧ Below w.heap.size w w' := by
  have Hr := Lib.hid hr
  have Hz := Lib.hid hz
  have Hp := Lib.hid hp
  obtain ⟨aa, ca, rfl, hl, hm⟩ := hr.len
  obtain ⟨pa, pc, rfl, hl1, hm1⟩ := hp.len
  have He := Lib.hid (show canFind fs path s = decide ((findSpec fs path s).kind ≠ 0) from rfl)
  generalize canFind fs path s = cf at *
  clear hr hz hp hl hm hl1 hm1
  have hf0 := fld0
  go_enter Try.func45, Try.ntmps45
  go_wp2_with (go_at_call 43; refine (impl_FindSpec _ fs D _ path s _ (Hr.out.below (by (repeat (with_reducible first | exact Below.refl _ _ | assumption | refine ba ?_ _ | refine bd ?_ | refine bdN ?_ _ | refine bs ?_ (by first | exact Nat.le_refl _ | (dsimp only; omega) | (simp; done)) _ | refine bt ?_ (by assumption))))) Hz.out (Hp.out.below (by (repeat (with_reducible first | exact Below.refl _ _ | assumption | refine ba ?_ _ | refine bd ?_ | refine bdN ?_ _ | refine bs ?_ (by first | exact Nat.le_refl _ | (dsimp only; omega) | (simp; done)) _ | refine bt ?_ (by assumption))))) hsl).mono ?_; rintro _ w5 ⟨v5, rfl, hown5, hb5⟩; obtain ⟨a5, c5, hv5⟩ := owns_shape hown5; subst hv5; clear hown5)
  all_goals (go_ret; refine ⟨ret_bool ?_, by (repeat (with_reducible first | exact Below.refl _ _ | assumption | refine ba ?_ _ | refine bd ?_ | refine bdN ?_ _ | refine bs ?_ (by first | exact Nat.le_refl _ | (dsimp only; omega) | (simp; done)) _ | refine bt ?_ (by assumption)))⟩; rw [He.out]; first | rfl | (rw [Bool.eq_iff_iff]; simp; done) | (rw [Bool.eq_iff_iff]; simp_all; done))

set_option maxRecDepth 100000 in
set_option maxHeartbeats 400000 in
theorem impl_IsPackage (v : Value) (fs : List Fil) (D : Nat → Prop) (pv : Value) (path : List Int) (s : Bs) (w : World) (hr : FilsIn w D v fs) (hz : ShortT 2000000 fs) (hp : IntsIn w pv path) (hsl : s.length ≤ 8000000) :
    Calls Try.prog 52 #[.agg #[v], pv, .string (mk s)] w fun e w' => e = .returned (.bool (isPack fs path s)) ∧ Below w.heap.size w w' := by
  have Hr := Lib.hid hr
  have Hz := Lib.hid hz
  have Hp := Lib.hid hp
  obtain ⟨aa, ca, rfl, hl, hm⟩ := hr.len
  obtain ⟨pa, pc, rfl, hl1, hm1⟩ := hp.len
  have He := Lib.hid (show isPack fs path s = (decide ((findSpec fs path s).kind = 2) || decide ((findSpec fs path s).kind = 3)) from rfl)
  generalize isPack fs path s = cf at *
  clear hr hz hp hl hm hl1 hm1
  have hf0 := fld0
  go_enter Try.func52, Try.ntmps52
  go_wp2_with (go_at_call 43; refine (impl_FindSpec _ fs D _ path s _ (Hr.out.below (by (repeat (with_reducible first | exact Below.refl _ _ | assumption | refine ba ?_ _ | refine bd ?_ | refine bdN ?_ _ | refine bs ?_ (by first | exact Nat.le_refl _ | (dsimp only; omega) | (simp; done)) _ | refine bt ?_ (by assumption))))) Hz.out (Hp.out.below (by (repeat (with_reducible first | exact Below.refl _ _ | assumption | refine ba ?_ _ | refine bd ?_ | refine bdN ?_ _ | refine bs ?_ (by first | exact Nat.le_refl _ | (dsimp only; omega) | (simp; done)) _ | refine bt ?_ (by assumption))))) hsl).mono ?_; rintro _ w5 ⟨v5, rfl, hown5, hb5⟩; obtain ⟨a5, c5, hv5⟩ := owns_shape hown5; subst hv5; clear hown5)
  all_goals (go_ret; refine ⟨ret_bool ?_, by (repeat (with_reducible first | exact Below.refl _ _ | assumption | refine ba ?_ _ | refine bd ?_ | refine bdN ?_ _ | refine bs ?_ (by first | exact Nat.le_refl _ | (dsimp only; omega) | (simp; done)) _ | refine bt ?_ (by assumption)))⟩; rw [He.out]; first | rfl | (rw [Bool.eq_iff_iff]; simp; done) | (rw [Bool.eq_iff_iff]; simp_all; done))
end Go.Proofs.Ytolhgklbkjdpiaa
