/- Contracts of the program's finders, behind the hooks: what one root has; what some roots have. -/
import Derived.Test.YtolhgklbkjdpiaaGreatFinder
import Derived.LoopN
import Derived.Test.YtolhgklbkjdpiaaGreatBoth
set_option linter.unusedVariables false
set_option linter.unusedSimpArgs false
namespace Go.Proofs.YtolhgklbkjdpiaaGreat
open Go.RowKit Go.Proofs.YtolhgklbkjdpiaaGreat.Nm

theorem root_init {t : List Fil} {r : Int} {n : Bs} (h : 0 ≤ firstAt t (r, n, [], true)) : initSpc t r n = ⟨2, firstAt t (r, n, [], true), [r]⟩ ∧ rootSpc t r n = ⟨2, firstAt t (r, n, [], true), [r]⟩ := by
  unfold initSpc rootSpc; simp [h]
theorem root_mod {t : List Fil} {r : Int} {n : Bs} (h1 : ¬ 0 ≤ firstAt t (r, n, [], true)) (h : 0 ≤ firstAt t (r, parent n, last n, false)) : initSpc t r n = noSpc ∧ modSpc t r n = ⟨1, firstAt t (r, parent n, last n, false), []⟩ ∧ rootSpc t r n = ⟨1, firstAt t (r, parent n, last n, false), []⟩ := by
  unfold initSpc modSpc rootSpc; simp [h, h1]
theorem root_dir {t : List Fil} {r : Int} {n : Bs} (h1 : ¬ 0 ≤ firstAt t (r, n, [], true)) (h2 : ¬ 0 ≤ firstAt t (r, parent n, last n, false)) : initSpc t r n = noSpc ∧ modSpc t r n = noSpc ∧ rootSpc t r n = dirSpc t r n := by
  unfold initSpc modSpc rootSpc dirSpc; simp [h1, h2]

set_option maxRecDepth 100000 in
set_option maxHeartbeats 2000000 in
theorem impl_findInRoot (v : Value) (fs : List Fil) (D : Nat → Prop) (r : Int) (n : Bs) (w : World) (hr : FilsIn w D v fs) (hz : ShortT 2000000 fs) (ht : okTree fs = true) (hn : vn n = true) :
    Calls Tryz.prog 141 #[.agg #[v], .int .i64 r, .string (mk n)] w (NewSpc 3 (rootSpc fs r n) w) := by
  have Hr := Lib.hid hr
  have Hz := Lib.hid hz
  have Ht := Lib.hid ht
  have Hn := Lib.hid hn
  obtain ⟨aa, ca, rfl, hl, hm⟩ := hr.len
  clear hr hl hm hz ht hn
  obtain ⟨Wb, hWb⟩ : ∃ Wb, Wb = ((w.alloc (.cells #[.slice aa fs.length ca] 58)).alloc (.cells #[.int .i64 0, .int .i64 0, .slice none 0 0] 50)).alloc (.cells #[.func (.func 142) #[] #[], .func (.func 143) #[] #[], .func (.func 144) #[] #[]] 159) := ⟨_, rfl⟩
  have HWb := Lib.hid hWb
  have hWs : Wb.heap.size = w.heap.size + 3 := by rw [hWb]; simp
  have Hbw := Lib.hid (show Below w.heap.size w Wb by rw [hWb]; (repeat (with_reducible first | exact Below.refl _ _ | assumption | refine ba ?_ _ | refine bd ?_ | refine bdN ?_ _ | refine bs ?_ (by first | exact Nat.le_refl _ | (dsimp only; omega) | (simp; done)) _ | refine bt ?_ (by assumption))))
  have Hk := Lib.hid (fun (w' : World) (hB : Below Wb.heap.size Wb w') => (by
    have hc := fun b o h => hB.cell (p := ⟨b, o, none⟩) h
    have hf := fun b o h => hB.frozen (p := ⟨b, o, none⟩) h
    have hz := hB.size
    refine ⟨?_, ?_, ?_, ?_, ?_, ?_, ?_, ?_, ?_, ?_, by omega, by omega, by omega⟩
    · rw [hc _ _ (by dsimp only; omega), hWb]; simp [go_sem]
    · rw [hc _ _ (by dsimp only; omega), hWb]; simp [go_sem]
    · rw [hc _ _ (by dsimp only; omega), hWb]; simp [go_sem]
    · rw [hc _ _ (by dsimp only; omega), hWb]; simp [go_sem]
    · rw [hc _ _ (by dsimp only; omega), hWb]; simp [go_sem]
    · rw [hc _ _ (by dsimp only; omega), hWb]; simp [go_sem]
    · rw [hc _ _ (by dsimp only; omega), hWb]; simp [go_sem]
    · rw [hf _ _ (by dsimp only; omega), hWb]; simp [go_sem]
    · rw [hf _ _ (by dsimp only; omega), hWb]; simp [go_sem]
    · rw [hf _ _ (by dsimp only; omega), hWb]; simp [go_sem] :
    w'.cell? ⟨w.heap.size, 0, none⟩ = some (.slice aa fs.length ca) ∧ w'.cell? ⟨w.heap.size + 1 + 1, 0, none⟩ = some (.func (.func 142) #[] #[]) ∧ w'.cell? ⟨w.heap.size + 1 + 1, 1, none⟩ = some (.func (.func 143) #[] #[]) ∧ w'.cell? ⟨w.heap.size + 1 + 1, 2, none⟩ = some (.func (.func 144) #[] #[]) ∧
    w'.cell? ⟨w.heap.size + 1, 0, none⟩ = some (.int .i64 0) ∧ w'.cell? ⟨w.heap.size + 1, 1, none⟩ = some (.int .i64 0) ∧ w'.cell? ⟨w.heap.size + 1, 2, none⟩ = some (.slice none 0 0) ∧
    w'.frozen? ⟨w.heap.size + 1, 0, none⟩ = false ∧ w'.frozen? ⟨w.heap.size + 1, 1, none⟩ = false ∧ w'.frozen? ⟨w.heap.size + 1, 2, none⟩ = false ∧ w.heap.size < w'.heap.size ∧ w.heap.size + 1 < w'.heap.size ∧ w.heap.size + 1 + 1 < w'.heap.size))
  obtain ⟨a0, f0, f1, f2, c0, c1, c2, g0, g1, g2, s0, s1, s2⟩ := Hk.out Wb (Below.refl _ _)
  clear hWb
  by_cases h1 : 0 ≤ firstAt fs (r, n, [], true)
  · obtain ⟨e1, e2⟩ := root_init h1
    obtain ⟨j, hj⟩ : ∃ j, j = firstAt fs (r, n, [], true) := ⟨_, rfl⟩
    rw [← hj] at e1 e2
    have E1 := Lib.hid e1
    have E2 := Lib.hid e2
    clear e1 e2 hj h1
    go_enter Tryz.func141, Tryz.ntmps141
    go_wp2_with fail
    rw [← HWb.out]
    refine wp_loop_rounds 4 ?_
    rw [rounds_succ]
    go_wp2_with (go_at_call 142; refine (impl_findInit _ fs D r n _ (Hr.out.below (by have := Hbw.out; (repeat (with_reducible first | exact Below.refl _ _ | assumption | refine ba ?_ _ | refine bd ?_ | refine bdN ?_ _ | refine bs ?_ (by first | exact Nat.le_refl _ | (dsimp only; omega) | (simp; done)) _ | refine bt ?_ (by assumption)))))).mono ?_; rintro _ w5 ⟨v5, rfl, hown5, hb5⟩; rw [E1.out]; rw [E1.out] at hown5; dsimp only [noSpc] at hown5 ⊢; have HbT5 := Lib.hid (show Below Wb.heap.size Wb w5 from hb5); clear a0 f0 f1 f2 c0 c1 c2 g0 g1 g2 s0 s1 s2; obtain ⟨a0, f0, f1, f2, c0, c1, c2, g0, g1, g2, s0, s1, s2⟩ := Hk.out w5 HbT5.out; have Hown5 := Lib.hid hown5; obtain ⟨a5, k5, hv5⟩ := owns_shape (n := 1) hown5; subst hv5; clear hown5 hb5)
    refine bodyPost_ret (v := .agg #[.int .i64 2, .int .i64 j, .slice a5 1 k5]) (by simp [results, Tryz.results141, go_sem, *]) rfl ?_
    rw [E2.out]
    have hbw := bt Hbw.out HbT5.out
    have hz9 := HbT5.out.size
    refine ⟨_, rfl, ?_, by (repeat (with_reducible first | exact Below.refl _ _ | assumption | refine ba ?_ _ | refine bd ?_ | refine bdN ?_ _ | refine bs ?_ (by first | exact Nat.le_refl _ | (dsimp only; omega) | (simp; done)) _ | refine bt ?_ (by assumption)))⟩
    refine owns_mono (B := w.heap.size + 2) ?_ (by omega)
    (repeat (with_reducible first | refine World.ownsRow.alloc ?_ _ | refine owns_set_low ?_ (by first | (dsimp only; omega) | (simp; done) | (simp; omega)) _))
    exact owns_mono Hown5.out (by first | omega | (simp; omega))
  by_cases h2 : 0 ≤ firstAt fs (r, parent n, last n, false)
  · obtain ⟨e1, e3, e2⟩ := root_mod h1 h2
    obtain ⟨j, hj⟩ : ∃ j, j = firstAt fs (r, parent n, last n, false) := ⟨_, rfl⟩
    rw [← hj] at e3 e2
    have E1 := Lib.hid e1
    have E2 := Lib.hid e2
    have E3 := Lib.hid e3
    clear e1 e2 e3 hj h1 h2
    go_enter Tryz.func141, Tryz.ntmps141
    go_wp2_with fail
    rw [← HWb.out]
    refine wp_loop_rounds 4 ?_
    rw [rounds_succ]
    go_wp2_with (go_at_call 142; refine (impl_findInit _ fs D r n _ (Hr.out.below (by have := Hbw.out; (repeat (with_reducible first | exact Below.refl _ _ | assumption | refine ba ?_ _ | refine bd ?_ | refine bdN ?_ _ | refine bs ?_ (by first | exact Nat.le_refl _ | (dsimp only; omega) | (simp; done)) _ | refine bt ?_ (by assumption)))))).mono ?_; rintro _ w4 ⟨v4, rfl, hown4, hb4⟩; rw [E1.out]; rw [E1.out] at hown4; dsimp only [noSpc] at hown4 ⊢; have HbT4 := Lib.hid (show Below Wb.heap.size Wb w4 from hb4); clear a0 f0 f1 f2 c0 c1 c2 g0 g1 g2 s0 s1 s2; obtain ⟨a0, f0, f1, f2, c0, c1, c2, g0, g1, g2, s0, s1, s2⟩ := Hk.out w4 HbT4.out; have Hown4 := Lib.hid hown4; obtain ⟨a4, k4, hv4⟩ := owns_shape (n := 0) hown4; subst hv4; clear hown4 hb4)
    rw [rounds_succ]
    go_wp2_with (go_at_call 143; refine (impl_findModule _ fs D r n _ (Hr.out.below (by have := bt Hbw.out HbT4.out; (repeat (with_reducible first | exact Below.refl _ _ | assumption | refine ba ?_ _ | refine bd ?_ | refine bdN ?_ _ | refine bs ?_ (by first | exact Nat.le_refl _ | (dsimp only; omega) | (simp; done)) _ | refine bt ?_ (by assumption))))) Hn.out).mono ?_; rintro _ w5 ⟨v5, rfl, hown5, hb5⟩; rw [E3.out]; rw [E3.out] at hown5; dsimp only [noSpc] at hown5 ⊢; have HbT5 := Lib.hid (show Below Wb.heap.size Wb w5 from bt HbT4.out (show Below w4.heap.size w4 w5 by (repeat (with_reducible first | exact Below.refl _ _ | assumption | refine ba ?_ _ | refine bd ?_ | refine bdN ?_ _ | refine bs ?_ (by first | exact Nat.le_refl _ | (dsimp only; omega) | (simp; done)) _ | refine bt ?_ (by assumption))))); clear a0 f0 f1 f2 c0 c1 c2 g0 g1 g2 s0 s1 s2; obtain ⟨a0, f0, f1, f2, c0, c1, c2, g0, g1, g2, s0, s1, s2⟩ := Hk.out w5 HbT5.out; have Hown5 := Lib.hid hown5; obtain ⟨a5, k5, hv5⟩ := owns_shape (n := 0) hown5; subst hv5; clear hown5 hb5)
    refine bodyPost_ret (v := .agg #[.int .i64 1, .int .i64 j, .slice a5 0 k5]) (by simp [results, Tryz.results141, go_sem, *]) rfl ?_
    rw [E2.out]
    have hbw := bt Hbw.out HbT5.out
    have hz9 := HbT5.out.size
    have hz4 := HbT4.out.size
    refine ⟨_, rfl, ?_, by (repeat (with_reducible first | exact Below.refl _ _ | assumption | refine ba ?_ _ | refine bd ?_ | refine bdN ?_ _ | refine bs ?_ (by first | exact Nat.le_refl _ | (dsimp only; omega) | (simp; done)) _ | refine bt ?_ (by assumption)))⟩
    refine owns_mono (B := w.heap.size + 2) ?_ (by omega)
    (repeat (with_reducible first | refine World.ownsRow.alloc ?_ _ | refine owns_set_low ?_ (by first | (dsimp only; omega) | (simp; done) | (simp; omega)) _))
    exact owns_mono Hown5.out (by first | omega | (simp; omega))
  · obtain ⟨e1, e2, e3⟩ := root_dir h1 h2
    have E1 := Lib.hid e1
    have E3 := Lib.hid e2
    have E5 := Lib.hid e3
    clear e1 e2 e3 h1 h2
    cases hd : dirIn fs r n
    · have E4 := Lib.hid (show dirSpc fs r n = noSpc by unfold dirSpc; rw [hd]; rfl)
      have E2 := Lib.hid (show rootSpc fs r n = noSpc by rw [E5.out, E4.out])
      clear hd
      go_enter Tryz.func141, Tryz.ntmps141
      go_wp2_with fail
      rw [← HWb.out]
      refine wp_loop_rounds 4 ?_
      rw [rounds_succ]
      go_wp2_with (go_at_call 142; refine (impl_findInit _ fs D r n _ (Hr.out.below (by have := Hbw.out; (repeat (with_reducible first | exact Below.refl _ _ | assumption | refine ba ?_ _ | refine bd ?_ | refine bdN ?_ _ | refine bs ?_ (by first | exact Nat.le_refl _ | (dsimp only; omega) | (simp; done)) _ | refine bt ?_ (by assumption)))))).mono ?_; rintro _ w4 ⟨v4, rfl, hown4, hb4⟩; rw [E1.out]; rw [E1.out] at hown4; dsimp only [noSpc] at hown4 ⊢; have HbT4 := Lib.hid (show Below Wb.heap.size Wb w4 from hb4); clear a0 f0 f1 f2 c0 c1 c2 g0 g1 g2 s0 s1 s2; obtain ⟨a0, f0, f1, f2, c0, c1, c2, g0, g1, g2, s0, s1, s2⟩ := Hk.out w4 HbT4.out; have Hown4 := Lib.hid hown4; obtain ⟨a4, k4, hv4⟩ := owns_shape (n := 0) hown4; subst hv4; clear hown4 hb4)
      rw [rounds_succ]
      go_wp2_with (go_at_call 143; refine (impl_findModule _ fs D r n _ (Hr.out.below (by have := bt Hbw.out HbT4.out; (repeat (with_reducible first | exact Below.refl _ _ | assumption | refine ba ?_ _ | refine bd ?_ | refine bdN ?_ _ | refine bs ?_ (by first | exact Nat.le_refl _ | (dsimp only; omega) | (simp; done)) _ | refine bt ?_ (by assumption))))) Hn.out).mono ?_; rintro _ w5 ⟨v5, rfl, hown5, hb5⟩; rw [E3.out]; rw [E3.out] at hown5; dsimp only [noSpc] at hown5 ⊢; have HbT5 := Lib.hid (show Below Wb.heap.size Wb w5 from bt HbT4.out (show Below w4.heap.size w4 w5 by (repeat (with_reducible first | exact Below.refl _ _ | assumption | refine ba ?_ _ | refine bd ?_ | refine bdN ?_ _ | refine bs ?_ (by first | exact Nat.le_refl _ | (dsimp only; omega) | (simp; done)) _ | refine bt ?_ (by assumption))))); clear a0 f0 f1 f2 c0 c1 c2 g0 g1 g2 s0 s1 s2; obtain ⟨a0, f0, f1, f2, c0, c1, c2, g0, g1, g2, s0, s1, s2⟩ := Hk.out w5 HbT5.out; have Hown5 := Lib.hid hown5; obtain ⟨a5, k5, hv5⟩ := owns_shape (n := 0) hown5; subst hv5; clear hown5 hb5)
      rw [rounds_succ]
      go_wp2_with (go_at_call 144; refine (impl_findDir _ fs D r n _ (Hr.out.below (by have := bt Hbw.out HbT5.out; (repeat (with_reducible first | exact Below.refl _ _ | assumption | refine ba ?_ _ | refine bd ?_ | refine bdN ?_ _ | refine bs ?_ (by first | exact Nat.le_refl _ | (dsimp only; omega) | (simp; done)) _ | refine bt ?_ (by assumption))))) Hz.out Ht.out Hn.out).mono ?_; rintro _ w6 ⟨v6, rfl, hown6, hb6⟩; rw [E4.out]; rw [E4.out] at hown6; dsimp only [noSpc] at hown6 ⊢; have HbT6 := Lib.hid (show Below Wb.heap.size Wb w6 from bt HbT5.out (show Below w5.heap.size w5 w6 by (repeat (with_reducible first | exact Below.refl _ _ | assumption | refine ba ?_ _ | refine bd ?_ | refine bdN ?_ _ | refine bs ?_ (by first | exact Nat.le_refl _ | (dsimp only; omega) | (simp; done)) _ | refine bt ?_ (by assumption))))); clear a0 f0 f1 f2 c0 c1 c2 g0 g1 g2 s0 s1 s2; obtain ⟨a0, f0, f1, f2, c0, c1, c2, g0, g1, g2, s0, s1, s2⟩ := Hk.out w6 HbT6.out; have Hown6 := Lib.hid hown6; obtain ⟨a6, k6, hv6⟩ := owns_shape (n := 0) hown6; subst hv6; clear hown6 hb6)
      rw [rounds_succ]
      go_wp2_with (go_at_call 66; refine (impl_nothing _).mono ?_; rintro _ w8 ⟨rfl, hb8⟩; have HbT8 := Lib.hid (show Below Wb.heap.size Wb w8 from bt HbT6.out (show Below w6.heap.size w6 w8 by (repeat (with_reducible first | exact Below.refl _ _ | assumption | refine ba ?_ _ | refine bd ?_ | refine bdN ?_ _ | refine bs ?_ (by first | exact Nat.le_refl _ | (dsimp only; omega) | (simp; done)) _ | refine bt ?_ (by assumption))))); clear a0 f0 f1 f2 c0 c1 c2 g0 g1 g2 s0 s1 s2; obtain ⟨a0, f0, f1, f2, c0, c1, c2, g0, g1, g2, s0, s1, s2⟩ := Hk.out w8 HbT8.out; clear hb8)
      have hbw := bt Hbw.out HbT8.out
      exact bodyPost_ret (v := .agg #[.int .i64 0, .int .i64 (-1), .slice none 0 0]) (by simp [results, Tryz.results141, go_sem, *]) rfl (noSpc_new E2.out (by (repeat (with_reducible first | exact Below.refl _ _ | assumption | refine ba ?_ _ | refine bd ?_ | refine bdN ?_ _ | refine bs ?_ (by first | exact Nat.le_refl _ | (dsimp only; omega) | (simp; done)) _ | refine bt ?_ (by assumption)))))
    · have E4 := Lib.hid (show dirSpc fs r n = ⟨3, -1, [r]⟩ by unfold dirSpc; rw [hd]; rfl)
      have E2 := Lib.hid (show rootSpc fs r n = ⟨3, -1, [r]⟩ by rw [E5.out, E4.out])
      clear hd
      go_enter Tryz.func141, Tryz.ntmps141
      go_wp2_with fail
      rw [← HWb.out]
      refine wp_loop_rounds 4 ?_
      rw [rounds_succ]
      go_wp2_with (go_at_call 142; refine (impl_findInit _ fs D r n _ (Hr.out.below (by have := Hbw.out; (repeat (with_reducible first | exact Below.refl _ _ | assumption | refine ba ?_ _ | refine bd ?_ | refine bdN ?_ _ | refine bs ?_ (by first | exact Nat.le_refl _ | (dsimp only; omega) | (simp; done)) _ | refine bt ?_ (by assumption)))))).mono ?_; rintro _ w4 ⟨v4, rfl, hown4, hb4⟩; rw [E1.out]; rw [E1.out] at hown4; dsimp only [noSpc] at hown4 ⊢; have HbT4 := Lib.hid (show Below Wb.heap.size Wb w4 from hb4); clear a0 f0 f1 f2 c0 c1 c2 g0 g1 g2 s0 s1 s2; obtain ⟨a0, f0, f1, f2, c0, c1, c2, g0, g1, g2, s0, s1, s2⟩ := Hk.out w4 HbT4.out; have Hown4 := Lib.hid hown4; obtain ⟨a4, k4, hv4⟩ := owns_shape (n := 0) hown4; subst hv4; clear hown4 hb4)
      rw [rounds_succ]
      go_wp2_with (go_at_call 143; refine (impl_findModule _ fs D r n _ (Hr.out.below (by have := bt Hbw.out HbT4.out; (repeat (with_reducible first | exact Below.refl _ _ | assumption | refine ba ?_ _ | refine bd ?_ | refine bdN ?_ _ | refine bs ?_ (by first | exact Nat.le_refl _ | (dsimp only; omega) | (simp; done)) _ | refine bt ?_ (by assumption))))) Hn.out).mono ?_; rintro _ w5 ⟨v5, rfl, hown5, hb5⟩; rw [E3.out]; rw [E3.out] at hown5; dsimp only [noSpc] at hown5 ⊢; have HbT5 := Lib.hid (show Below Wb.heap.size Wb w5 from bt HbT4.out (show Below w4.heap.size w4 w5 by (repeat (with_reducible first | exact Below.refl _ _ | assumption | refine ba ?_ _ | refine bd ?_ | refine bdN ?_ _ | refine bs ?_ (by first | exact Nat.le_refl _ | (dsimp only; omega) | (simp; done)) _ | refine bt ?_ (by assumption))))); clear a0 f0 f1 f2 c0 c1 c2 g0 g1 g2 s0 s1 s2; obtain ⟨a0, f0, f1, f2, c0, c1, c2, g0, g1, g2, s0, s1, s2⟩ := Hk.out w5 HbT5.out; have Hown5 := Lib.hid hown5; obtain ⟨a5, k5, hv5⟩ := owns_shape (n := 0) hown5; subst hv5; clear hown5 hb5)
      rw [rounds_succ]
      go_wp2_with (go_at_call 144; refine (impl_findDir _ fs D r n _ (Hr.out.below (by have := bt Hbw.out HbT5.out; (repeat (with_reducible first | exact Below.refl _ _ | assumption | refine ba ?_ _ | refine bd ?_ | refine bdN ?_ _ | refine bs ?_ (by first | exact Nat.le_refl _ | (dsimp only; omega) | (simp; done)) _ | refine bt ?_ (by assumption))))) Hz.out Ht.out Hn.out).mono ?_; rintro _ w6 ⟨v6, rfl, hown6, hb6⟩; rw [E4.out]; rw [E4.out] at hown6; dsimp only [noSpc] at hown6 ⊢; have HbT6 := Lib.hid (show Below Wb.heap.size Wb w6 from bt HbT5.out (show Below w5.heap.size w5 w6 by (repeat (with_reducible first | exact Below.refl _ _ | assumption | refine ba ?_ _ | refine bd ?_ | refine bdN ?_ _ | refine bs ?_ (by first | exact Nat.le_refl _ | (dsimp only; omega) | (simp; done)) _ | refine bt ?_ (by assumption))))); clear a0 f0 f1 f2 c0 c1 c2 g0 g1 g2 s0 s1 s2; obtain ⟨a0, f0, f1, f2, c0, c1, c2, g0, g1, g2, s0, s1, s2⟩ := Hk.out w6 HbT6.out; have Hown6 := Lib.hid hown6; obtain ⟨a6, k6, hv6⟩ := owns_shape (n := 1) hown6; subst hv6; clear hown6 hb6)
      refine bodyPost_ret (v := .agg #[.int .i64 3, .int .i64 (-1), .slice a6 1 k6]) (by simp [results, Tryz.results141, go_sem, *]) rfl ?_
      rw [E2.out]
      have hbw := bt Hbw.out HbT6.out
      have hz9 := HbT6.out.size
      have hz4 := HbT4.out.size
      have hz5 := HbT5.out.size
      refine ⟨_, rfl, ?_, by (repeat (with_reducible first | exact Below.refl _ _ | assumption | refine ba ?_ _ | refine bd ?_ | refine bdN ?_ _ | refine bs ?_ (by first | exact Nat.le_refl _ | (dsimp only; omega) | (simp; done)) _ | refine bt ?_ (by assumption)))⟩
      refine owns_mono (B := w.heap.size + 2) ?_ (by omega)
      (repeat (with_reducible first | refine World.ownsRow.alloc ?_ _ | refine owns_set_low ?_ (by first | (dsimp only; omega) | (simp; done) | (simp; omega)) _))
      exact owns_mono Hown6.out (by first | omega | (simp; omega))

/-! ### Contracts of the program's finders: what some roots have. -/
theorem Nm.Boxed.free {w wr : World} {cs : Array Value} {T : TypeId} (h : Boxed w cs T wr) (i : Nat) : wr.frozen? ⟨w.heap.size, i, none⟩ = false := by
  have := h.frozen (p := ⟨w.heap.size, i, none⟩) (by simp)
  rw [this]; simp [go_sem]
theorem Nm.Boxed.free2 {w wr : World} {cs ds : Array Value} {T U : TypeId} (h : Boxed (w.alloc (.cells cs T)) ds U wr) (i : Nat) : wr.frozen? ⟨w.heap.size + 1, i, none⟩ = false := by
  have := h.free i
  simpa using this
theorem int_one (xs : List Int) : ∀ u ∈ xs.map iv, u.oneCell' = true := fun x hx => by obtain ⟨y, _, rfl⟩ := List.mem_map.1 hx; rfl
theorem over_next {t : List Fil} {n : Bs} {rs : List Int} {ds : List Int} {k : Nat} (h : k < rs.length) (hf : (rootSpc t rs[k] n).file = -1) : overGo t n (rs.drop k) ds = overGo t n (rs.drop (k + 1)) (ds ++ (rootSpc t rs[k] n).roots) := by
  rw [List.drop_eq_getElem_cons h]
  show (if (rootSpc t rs[k] n).file = -1 then _ else _) = _
  rw [if_pos hf]
theorem over_hit {t : List Fil} {n : Bs} {rs : List Int} {ds : List Int} {k : Nat} (h : k < rs.length) (hf : (rootSpc t rs[k] n).file ≠ -1) : overGo t n (rs.drop k) ds = rootSpc t rs[k] n := by
  rw [List.drop_eq_getElem_cons h]
  show (if (rootSpc t rs[k] n).file = -1 then _ else _) = _
  rw [if_neg hf]
set_option maxRecDepth 100000 in
set_option maxHeartbeats 2000000 in
theorem impl_findOver (v : Value) (fs : List Fil) (D : Nat → Prop) (pv : Value) (path : List Int) (n : Bs) (w : World) (hr : FilsIn w D v fs) (hz : ShortT 2000000 fs) (ht : okTree fs = true) (hn : vn n = true) (hp : IntsIn w pv path) (hpl : path.length ≤ 100) :
    Calls Tryz.prog 67 #[.iface 58 (.agg #[v]), pv, .string (mk n)] w (NewSpc 3 (overSpc fs path n) w) := by
  obtain ⟨i0, hi, hz0, hz1, hz2⟩ := info_parts infoI
  have Hi := Lib.hid hi
  have Hz0 := Lib.hid hz0
  have Hz1 := Lib.hid hz1
  have Hz2 := Lib.hid hz2
  have Hr := Lib.hid hr
  have Hz := Lib.hid hz
  have Ht := Lib.hid ht
  have Hn := Lib.hid hn
  have Hp := Lib.hid hp
  obtain ⟨aa, ca, rfl, hl, hm⟩ := hr.len
  obtain ⟨pa, pc, rfl, hpl1, hpm⟩ := hp.len
  have Hv := Lib.hid (show overSpc fs path n = overGo fs n path [] from rfl)
  clear hr hl hm hz ht hn hp hi hz0 hz1 hz2
  unfold maxLen at hpm
  have hme : ∀ w : World, (method 264 58 (.agg #[.slice aa fs.length ca]) "loop.example/importhouse/impl.findInRoot").run Tryz.prog w = .ok (141, .agg #[.slice aa fs.length ca]) w := fun _ => by kernel_rfl
  go_enter Tryz.func67, Tryz.ntmps67
  go_wp2_with fail
  go_loopw [7, 13] (fun dv kv wr => ∃ (k : Nat) (ds : List Int), k ≤ path.length ∧ kv = .int .i64 k ∧ ds.length ≤ k ∧ overGo fs n path [] = overGo fs n (path.drop k) ds ∧ wr.ownsRow (w.heap.size + 1) 3 1 dv ds.length (ds.map iv) ∧ Boxed w #[.int .i64 0, .int .i64 0, .slice none 0 0] 50 wr) (fun _ kv _ => path.length - (intOf kv).toNat)
  case atStart => exact ⟨0, [], by omega, rfl, by simp, rfl, World.ownsRow_nil _ _ _ _, Boxed.start _ _ _⟩
  case round =>
    obtain ⟨k, ds, hk, rfl, hdl, hgo, hown, hbx⟩ := hrel
    have hbel := hbx.below
    have hsz := hbx.lt
    have Hown := Lib.hid hown
    have Hbx := Lib.hid hbx
    have Hgo := Lib.hid hgo
    clear hown hbx hgo
    by_cases hlt : k < path.length
    · obtain ⟨b, off, cap, e, hb, hc⟩ := (Hp.out.below hbel).at_ hlt
      simp only [Value.slice.injEq] at e
      obtain ⟨rfl, _, rfl⟩ := e
      have Hnx := Lib.hid (fun h => over_next (t := fs) (n := n) (rs := path) (ds := ds) hlt h)
      have Hht := Lib.hid (fun h => over_hit (t := fs) (n := n) (rs := path) (ds := ds) hlt h)
      have hrl := (rootSpc_file (t := fs) (r := path[k]) (n := n)).2
      have hrf := (rootSpc_file (t := fs) (r := path[k]) (n := n)).1
      obtain ⟨r, hr⟩ : ∃ r, r = path[k] := ⟨_, rfl⟩
      rw [← hr] at hc Hnx Hht hrl hrf
      clear hr
      obtain ⟨sp, hsp⟩ : ∃ sp, sp = rootSpc fs r n := ⟨_, rfl⟩
      rw [← hsp] at Hnx Hht hrl hrf
      have Hsp := Lib.hid hsp
      clear hsp
      obtain ⟨sk, sf, sr⟩ := sp
      dsimp only at hrl hrf
      have q0 := Hbx.out.cell 0
      have q1 := Hbx.out.cell 1
      have q2 := Hbx.out.cell 2
      have f0 := Hbx.out.free 0
      have f1 := Hbx.out.free 1
      have f2 := Hbx.out.free 2
      by_cases hsf : sf = -1
      · subst hsf
        have Hn2 := Lib.hid (Hnx.out rfl)
        clear hrf q0 q1 q2 f0 f1 f2
        go_wp2_with (first
          | (go_at_call 141; refine (impl_findInRoot _ fs D r n _ (Hr.out.below (by (repeat (with_reducible first | exact Below.refl _ _ | assumption | refine ba ?_ _ | refine bd ?_ | refine bdN ?_ _ | refine bs ?_ (by first | exact Nat.le_refl _ | (dsimp only; omega) | (simp; done)) _ | refine bt ?_ (by assumption))))) Hz.out Ht.out Hn.out).mono ?_; rintro _ w5 ⟨v5, rfl, hown5, hb5⟩; rw [← Hsp.out]; rw [← Hsp.out] at hown5; dsimp only at hown5 ⊢; obtain ⟨a5, c5, hv5⟩ := owns_shape hown5; subst hv5; have Hown5 := Lib.hid hown5; have Hb5 := Lib.hid (show Below wr.heap.size wr w5 by (repeat (with_reducible first | exact Below.refl _ _ | assumption | refine ba ?_ _ | refine bd ?_ | refine bdN ?_ _ | refine bs ?_ (by first | exact Nat.le_refl _ | (dsimp only; omega) | (simp; done)) _ | refine bt ?_ (by assumption)))); obtain ⟨hcc, hff, hss⟩ := bcell hb5; clear hown5)
          | (at_builtin; refine wpList_append_both rfl _ _ 25 rfl (w.heap.size + 1) 3 i0 (.int .i64 0) 1 8 Tryz.underlying25 Hi.out Hz0.out Hz1.out Hz2.out rfl (by decide) _ ds.length _ rfl ((owns_below Hown.out Hb5.out).alloc _) _ _ sr.length _ rfl (Hown5.out.alloc _) (int_one _) (by unfold maxLen; omega) (by omega) (by have := Hb5.out.size; simp; omega) ?_; intro v7 w7 hown7 hgrow7))
        have Hb6 := Lib.hid (show Below wr.heap.size wr (w5.alloc (.cells #[.int .i64 sk, .int .i64 (-1), .slice a5 sr.length c5] 50)) from ba Hb5.out _)
        have Hx7 := Lib.hid (below_first Hbx.out Hb6.out hgrow7 (fun g hg => (Hown.out.lt g hg).1))
        have Hown7 := Lib.hid (show w7.ownsRow (w.heap.size + 1) 3 1 v7 (ds ++ sr).length ((ds ++ sr).map iv) by rw [List.length_append, List.map_append]; exact hown7)
        clear hown7 hgrow7
        go_roundw
        case rel => exact ⟨k + 1, ds ++ sr, by omega, by go_num, by rw [List.length_append]; omega, by rw [Hgo.out, Hn2.out], Hown7.out, Hx7.out⟩
        case measure => simp [intOf]; omega
      · have Hh := Lib.hid (Hht.out hsf)
        have hneq : (sf == -1) = false := by rw [beq_eq_false_iff_ne]; exact hsf
        clear hsf
        go_wp2_with (go_at_call 141; refine (impl_findInRoot _ fs D r n _ (Hr.out.below (by (repeat (with_reducible first | exact Below.refl _ _ | assumption | refine ba ?_ _ | refine bd ?_ | refine bdN ?_ _ | refine bs ?_ (by first | exact Nat.le_refl _ | (dsimp only; omega) | (simp; done)) _ | refine bt ?_ (by assumption))))) Hz.out Ht.out Hn.out).mono ?_; rintro _ w5 ⟨v5, rfl, hown5, hb5⟩; rw [← Hsp.out]; rw [← Hsp.out] at hown5; dsimp only at hown5 ⊢; obtain ⟨a5, c5, hv5⟩ := owns_shape hown5; subst hv5; have Hown5 := Lib.hid hown5; have Hb5 := Lib.hid (show Below wr.heap.size wr w5 by (repeat (with_reducible first | exact Below.refl _ _ | assumption | refine ba ?_ _ | refine bd ?_ | refine bdN ?_ _ | refine bs ?_ (by first | exact Nat.le_refl _ | (dsimp only; omega) | (simp; done)) _ | refine bt ?_ (by assumption)))); have Hx5 := Lib.hid (Hbx.out.step Hb5.out); clear q0 q1 q2 f0 f1 f2 hown5 hb5; have q0 : w5.cell? ⟨w.heap.size, 0, none⟩ = some (.int .i64 0) := Hx5.out.cell 0; have q1 : w5.cell? ⟨w.heap.size, 1, none⟩ = some (.int .i64 0) := Hx5.out.cell 1; have q2 : w5.cell? ⟨w.heap.size, 2, none⟩ = some (.slice none 0 0) := Hx5.out.cell 2; have f0 := Hx5.out.free 0; have f1 := Hx5.out.free 1; have f2 := Hx5.out.free 2; have s5 := Hx5.out.lt)
        refine bodyPost_ret (v := .agg #[.int .i64 sk, .int .i64 sf, .slice a5 sr.length c5]) (by simp [results, Tryz.results67, go_sem, *]) rfl ?_
        rw [Hv.out, Hgo.out, Hh.out]
        have hbw := Hx5.out.below
        refine ⟨_, rfl, ?_, by (repeat (with_reducible first | exact Below.refl _ _ | assumption | refine ba ?_ _ | refine bd ?_ | refine bdN ?_ _ | refine bs ?_ (by first | exact Nat.le_refl _ | (dsimp only; omega) | (simp; done)) _ | refine bt ?_ (by assumption)))⟩
        refine owns_mono (B := w.heap.size + 1) ?_ (by omega)
        (repeat (with_reducible first | refine World.ownsRow.alloc ?_ _ | refine owns_set_low ?_ (by first | (dsimp only; omega) | (simp; done) | (simp; omega)) _))
        exact owns_mono Hown5.out (by first | omega | (simp; omega))
    · obtain rfl : k = path.length := by omega
      have Hg2 := Lib.hid (show overGo fs n path [] = if ds = [] then noSpc else ⟨3, -1, ds⟩ by rw [Hgo.out, List.drop_length]; rfl)
      have q0 : wr.cell? ⟨w.heap.size, 0, none⟩ = some (.int .i64 0) := Hbx.out.cell 0
      have q1 : wr.cell? ⟨w.heap.size, 1, none⟩ = some (.int .i64 0) := Hbx.out.cell 1
      have q2 : wr.cell? ⟨w.heap.size, 2, none⟩ = some (.slice none 0 0) := Hbx.out.cell 2
      have f0 := Hbx.out.free 0
      have f1 := Hbx.out.free 1
      have f2 := Hbx.out.free 2
      obtain ⟨a6, c6, hv6⟩ := owns_shape Hown.out
      subst hv6
      by_cases hd : ds = []
      · subst hd
        have Hg3 := Lib.hid (show overGo fs n path [] = noSpc by rw [Hg2.out]; rfl)
        go_wp2_with (go_at_call 66; refine (impl_nothing _).mono ?_; rintro _ w5 ⟨rfl, hb5⟩; have Hx5 := Lib.hid (Hbx.out.step hb5); clear q0 q1 q2 f0 f1 f2 hb5; have q0 : w5.cell? ⟨w.heap.size, 0, none⟩ = some (.int .i64 0) := Hx5.out.cell 0; have q1 : w5.cell? ⟨w.heap.size, 1, none⟩ = some (.int .i64 0) := Hx5.out.cell 1; have q2 : w5.cell? ⟨w.heap.size, 2, none⟩ = some (.slice none 0 0) := Hx5.out.cell 2; have f0 := Hx5.out.free 0; have f1 := Hx5.out.free 1; have f2 := Hx5.out.free 2; have s5 := Hx5.out.lt)
        have hbw := Hx5.out.below
        exact bodyPost_ret (v := .agg #[.int .i64 0, .int .i64 (-1), .slice none 0 0]) (by simp [results, Tryz.results67, go_sem, *]) rfl (noSpc_new (by rw [Hv.out, Hg3.out]) (by (repeat (with_reducible first | exact Below.refl _ _ | assumption | refine ba ?_ _ | refine bd ?_ | refine bdN ?_ _ | refine bs ?_ (by first | exact Nat.le_refl _ | (dsimp only; omega) | (simp; done)) _ | refine bt ?_ (by assumption)))))
      · have Hg3 := Lib.hid (show overGo fs n path [] = ⟨3, -1, ds⟩ by rw [Hg2.out, if_neg hd])
        have hdn : ((ds.length : Int) == 0) = false := by rw [beq_eq_false_iff_ne]; have := List.length_pos_iff.2 hd; omega
        clear hd
        go_wp2_with fail
        refine bodyPost_ret (v := .agg #[.int .i64 3, .int .i64 (-1), .slice a6 ds.length c6]) (by simp [results, Tryz.results67, go_sem, *]) rfl ?_
        rw [Hv.out, Hg3.out]
        refine ⟨_, rfl, ?_, by (repeat (with_reducible first | exact Below.refl _ _ | assumption | refine ba ?_ _ | refine bd ?_ | refine bdN ?_ _ | refine bs ?_ (by first | exact Nat.le_refl _ | (dsimp only; omega) | (simp; done)) _ | refine bt ?_ (by assumption)))⟩
        refine owns_mono (B := w.heap.size + 1) ?_ (by omega)
        (repeat (with_reducible first | refine World.ownsRow.alloc ?_ _ | refine owns_set_low ?_ (by first | (dsimp only; omega) | (simp; done) | (simp; omega)) _))
        exact Hown.out
end Go.Proofs.YtolhgklbkjdpiaaGreat
