/- Contracts of the program's finders, behind the hooks: what one root has; what some roots have. -/
import Derived.Test.YtolhgklbkjdpiaaFinder
import Derived.LoopN
import Derived.Test.YtolhgklbkjdpiaaBoth
set_option linter.unusedVariables false
set_option linter.unusedSimpArgs false
namespace Go.Proofs.Ytolhgklbkjdpiaa
open Go.RowKit Go.Proofs.Ytolhgklbkjdpiaa.Nm

theorem root_init {t : List Fil} {r : Int} {n : Bs} (h : 0 ≤ firstAt t (r, n, [], true)) : initSpc t r n = ⟨2, firstAt t (r, n, [], true), [r]⟩ ∧ rootSpc t r n = ⟨2, firstAt t (r, n, [], true), [r]⟩ := by
  unfold initSpc rootSpc; simp [h]
theorem root_mod {t : List Fil} {r : Int} {n : Bs} (h1 : ¬ 0 ≤ firstAt t (r, n, [], true)) (h : 0 ≤ firstAt t (r, parent n, last n, false)) : initSpc t r n = noSpc ∧ modSpc t r n = ⟨1, firstAt t (r, parent n, last n, false), []⟩ ∧ rootSpc t r n = ⟨1, firstAt t (r, parent n, last n, false), []⟩ := by
  unfold initSpc modSpc rootSpc; simp [h, h1]
theorem root_dir {t : List Fil} {r : Int} {n : Bs} (h1 : ¬ 0 ≤ firstAt t (r, n, [], true)) (h2 : ¬ 0 ≤ firstAt t (r, parent n, last n, false)) : initSpc t r n = noSpc ∧ modSpc t r n = noSpc ∧ rootSpc t r n = dirSpc t r n := by
  unfold initSpc modSpc rootSpc dirSpc; simp [h1, h2]

set_option maxRecDepth 100000 in
set_option maxHeartbeats 2000000 in
theorem impl_findInRoot (v : Value) (fs : List Fil) (D : Nat → Prop) (r : Int) (n : Bs) (w : World) (hr : FilsIn w D v fs) (hz : ShortT 2000000 fs) (ht : okTree fs = true) (hn : vn n = true) :
    Calls Try.prog 131 #[.agg #[v], .int .i64 r, .string (mk n)] w (NewSpc 3 (rootSpc fs r n) w) := by
  have Hr := Lib.hid hr
  have Hz := Lib.hid hz
  have Ht := Lib.hid ht
  have Hn := Lib.hid hn
  obtain ⟨aa, ca, rfl, hl, hm⟩ := hr.len
  clear hr hl hm hz ht hn
  obtain ⟨Wb, hWb⟩ : ∃ Wb, Wb = ((w.alloc (.cells #[.slice aa fs.length ca] 105)).alloc (.cells #[.int .i64 0, .int .i64 0, .slice none 0 0] 58)).alloc (.cells #[.func (.func 132) #[] #[], .func (.func 133) #[] #[], .func (.func 134) #[] #[]] 142) := ⟨_, rfl⟩
  have HWb := Lib.hid hWb
  have hWs : Wb.heap.size = w.heap.size + 3 := by rw [hWb]; simp
  have Hbw := Lib.hid (show Below w.heap.size w Wb by rw [hWb]; (repeat (with_reducible first | exact Below.refl _ _ | assumption | refine ba ?_ _ | refine bd ?_ | refine bdN ?_ _ | refine bs ?_ (by first | exact Nat.le_refl _ | (dsimp only; omega) | (simp; done)) _ | refine bt ?_ (by assumption))))
  have Hk := Lib.hid (fun (w' : World) (hB : Below Wb.heap.size Wb w') => (by
    have hc := fun b o h => hB.cell (p := ⟨b, o, none⟩) h
    have hf := fun b o h => hB.frozen (p := ⟨b, o, none⟩) h
    have hz := hB.size
    refine ⟨?_, ?_, ?_, ?_, ?_, ?_, ?_, ?_, ?_, ?_, by omega, by omega, by omega⟩
    · rw [hc _ _ (by dsimp only; omega), hWb]; simp [go_sem]
    · rw [hc _ _ (by dsimp only; omega), hWb]; simp [go_sem]
    · rw [hc _ _ (by dsimp only; omega), hWb]; simp [go_sem]
    · rw [hc _ _ (by dsimp only; omega), hWb]; simp [go_sem]
    · rw [hc _ _ (by dsimp only; omega), hWb]; simp [go_sem]
    · rw [hc _ _ (by dsimp only; omega), hWb]; simp [go_sem]
    · rw [hc _ _ (by dsimp only; omega), hWb]; simp [go_sem]
    · rw [hf _ _ (by dsimp only; omega), hWb]; simp [go_sem]
    · rw [hf _ _ (by dsimp only; omega), hWb]; simp [go_sem]
    · rw [hf _ _ (by dsimp only; omega), hWb]; simp [go_sem] :
    w'.cell? ⟨w.heap.size, 0, none⟩ = some (.slice aa fs.length ca) ∧ w'.cell? ⟨w.heap.size + 1 + 1, 0, none⟩ = some (.func (.func 132) #[] #[]) ∧ w'.cell? ⟨w.heap.size + 1 + 1, 1, none⟩ = some (.func (.func 133) #[] #[]) ∧ w'.cell? ⟨w.heap.size + 1 + 1, 2, none⟩ = some (.func (.func 134) #[] #[]) ∧
    w'.cell? ⟨w.heap.size + 1, 0, none⟩ = some (.int .i64 0) ∧ w'.cell? ⟨w.heap.size + 1, 1, none⟩ = some (.int .i64 0) ∧ w'.cell? ⟨w.heap.size + 1, 2, none⟩ = some (.slice none 0 0) ∧
    w'.frozen? ⟨w.heap.size + 1, 0, none⟩ = false ∧ w'.frozen? ⟨w.heap.size + 1, 1, none⟩ = false ∧ w'.frozen? ⟨w.heap.size + 1, 2, none⟩ = false ∧ w.heap.size < w'.heap.size ∧ w.heap.size + 1 < w'.heap.size ∧ w.heap.size + 1 + 1 < w'.heap.size))
  obtain ⟨a0, f0, f1, f2, c0, c1, c2, g0, g1, g2, s0, s1, s2⟩ := Hk.out Wb (Below.refl _ _)
  clear hWb
  by_cases h1 : 0 ≤ firstAt fs (r, n, [], true)
  · obtain ⟨e1, e2⟩ := root_init h1
    obtain ⟨j, hj⟩ : ∃ j, j = firstAt fs (r, n, [], true) := ⟨_, rfl⟩
    rw [← hj] at e1 e2
    have E1 := Lib.hid e1
    have E2 := Lib.hid e2
    clear e1 e2 hj h1
    go_enter Try.func131, Try.ntmps131
    go_wp2_with fail
    rw [← HWb.out]
    refine wp_loop_rounds 4 ?_
    rw [rounds_succ]
    go_wp2_with (go_at_call 132; refine (impl_findInit _ fs D r n _ (Hr.out.below (by have := Hbw.out; (repeat (with_reducible first | exact Below.refl _ _ | assumption | refine ba ?_ _ | refine bd ?_ | refine bdN ?_ _ | refine bs ?_ (by first | exact Nat.le_refl _ | (dsimp only; omega) | (simp; done)) _ | refine bt ?_ (by assumption)))))).mono ?_; rintro _ w5 ⟨v5, rfl, hown5, hb5⟩; rw [E1.out]; rw [E1.out] at hown5; dsimp only [noSpc] at hown5 ⊢; have HbT5 := Lib.hid (show Below Wb.heap.size Wb w5 from hb5); clear a0 f0 f1 f2 c0 c1 c2 g0 g1 g2 s0 s1 s2; obtain ⟨a0, f0, f1, f2, c0, c1, c2, g0, g1, g2, s0, s1, s2⟩ := Hk.out w5 HbT5.out; have Hown5 := Lib.hid hown5; obtain ⟨a5, k5, hv5⟩ := owns_shape (n := 1) hown5; subst hv5; clear hown5 hb5)
    refine bodyPost_ret (v := .agg #[.int .i64 2, .int .i64 j, .slice a5 1 k5]) (by simp [results, Try.results131, go_sem, *]) rfl ?_
    rw [E2.out]
    have hbw := bt Hbw.out HbT5.out
    have hz9 := HbT5.out.size
    refine ⟨_, rfl, ?_, by (repeat (with_reducible first | exact Below.refl _ _ | assumption | refine ba ?_ _ | refine bd ?_ | refine bdN ?_ _ | refine bs ?_ (by first | exact Nat.le_refl _ | (dsimp only; omega) | (simp; done)) _ | refine bt ?_ (by assumption)))⟩
    refine owns_mono (B := w.heap.size + 2) ?_ (by omega)
    (repeat (with_reducible first | refine World.ownsRow.alloc ?_ _ | refine owns_set_low ?_ (by first | (dsimp only; omega) | (simp; done) | (simp; omega)) _))
    exact owns_mono Hown5.out (by first | omega | (simp; omega))
  by_cases h2 : 0 ≤ firstAt fs (r, parent n, last n, false)
  · obtain ⟨e1, e3, e2⟩ := root_mod h1 h2
    obtain ⟨j, hj⟩ : ∃ j, j = firstAt fs (r, parent n, last n, false) := ⟨_, rfl⟩
    rw [← hj] at e3 e2
    have E1 := Lib.hid e1
    have E2 := Lib.hid e2
    have E3 := Lib.hid e3
    clear e1 e2 e3 hj h1 h2
    go_enter Try.func131, Try.ntmps131
    go_wp2_with fail
    rw [← HWb.out]
    refine wp_loop_rounds 4 ?_
    rw [rounds_succ]
    go_wp2_with (go_at_call 132; refine (impl_findInit _ fs D r n _ (Hr.out.below (by have := Hbw.out; (repeat (with_reducible first | exact Below.refl _ _ | assumption | refine ba ?_ _ | refine bd ?_ | refine bdN ?_ _ | refine bs ?_ (by first | exact Nat.le_refl _ | (dsimp only; omega) | (simp; done)) _ | refine bt ?_ (by assumption)))))).mono ?_; rintro _ w4 ⟨v4, rfl, hown4, hb4⟩; rw [E1.out]; rw [E1.out] at hown4; dsimp only [noSpc] at hown4 ⊢; have HbT4 := Lib.hid (show Below Wb.heap.size Wb w4 from hb4); clear a0 f0 f1 f2 c0 c1 c2 g0 g1 g2 s0 s1 s2; obtain ⟨a0, f0, f1, f2, c0, c1, c2, g0, g1, g2, s0, s1, s2⟩ := Hk.out w4 HbT4.out; have Hown4 := Lib.hid hown4; obtain ⟨a4, k4, hv4⟩ := owns_shape (n := 0) hown4; subst hv4; clear hown4 hb4)
    rw [rounds_succ]
    go_wp2_with (go_at_call 133; refine (impl_findModule _ fs D r n _ (Hr.out.below (by have := bt Hbw.out HbT4.out; (repeat (with_reducible first | exact Below.refl _ _ | assumption | refine ba ?_ _ | refine bd ?_ | refine bdN ?_ _ | refine bs ?_ (by first | exact Nat.le_refl _ | (dsimp only; omega) | (simp; done)) _ | refine bt ?_ (by assumption))))) Hn.out).mono ?_; rintro _ w5 ⟨v5, rfl, hown5, hb5⟩; rw [E3.out]; rw [E3.out] at hown5; dsimp only [noSpc] at hown5 ⊢; have HbT5 := Lib.hid (show Below Wb.heap.size Wb w5 from bt HbT4.out (show Below w4.heap.size w4 w5 by (repeat (with_reducible first | exact Below.refl _ _ | assumption | refine ba ?_ _ | refine bd ?_ | refine bdN ?_ _ | refine bs ?_ (by first | exact Nat.le_refl _ | (dsimp only; omega) | (simp; done)) _ | refine bt ?_ (by assumption))))); clear a0 f0 f1 f2 c0 c1 c2 g0 g1 g2 s0 s1 s2; obtain ⟨a0, f0, f1, f2, c0, c1, c2, g0, g1, g2, s0, s1, s2⟩ := Hk.out w5 HbT5.out; have Hown5 := Lib.hid hown5; obtain ⟨a5, k5, hv5⟩ := owns_shape (n := 0) hown5; subst hv5; clear hown5 hb5)
    refine bodyPost_ret (v := .agg #[.int .i64 1, .int .i64 j, .slice a5 0 k5]) (by simp [results, Try.results131, go_sem, *]) rfl ?_
    rw [E2.out]
    have hbw := bt Hbw.out HbT5.out
    have hz9 := HbT5.out.size
    have hz4 := HbT4.out.size
    refine ⟨_, rfl, ?_, by (repeat (with_reducible first | exact Below.refl _ _ | assumption | refine ba ?_ _ | refine bd ?_ | refine bdN ?_ _ | refine bs ?_ (by first | exact Nat.le_refl _ | (dsimp only; omega) | (simp; done)) _ | refine bt ?_ (by assumption)))⟩
    refine owns_mono (B := w.heap.size + 2) ?_ (by omega)
    (repeat (with_reducible first | refine World.ownsRow.alloc ?_ _ | refine owns_set_low ?_ (by first | (dsimp only; omega) | (simp; done) | (simp; omega)) _))
    exact owns_mono Hown5.out (by first | omega | (simp; omega))
  · obtain ⟨e1, e2, e3⟩ := root_dir h1 h2
    have E1 := Lib.hid e1
    have E3 := Lib.hid e2
    have E5 := Lib.hid e3
    clear e1 e2 e3 h1 h2
    cases hd : dirIn fs r n
    · have E4 := Lib.hid (show dirSpc fs r n = noSpc by unfold dirSpc; rw [hd]; rfl)
      have E2 := Lib.hid (show rootSpc fs r n = noSpc by rw [E5.out, E4.out])
      clear hd
      go_enter Try.func131, Try.ntmps131
      go_wp2_with fail
      rw [← HWb.out]
      refine wp_loop_rounds 4 ?_
      rw [rounds_succ]
      go_wp2_with (go_at_call 132; refine (impl_findInit _ fs D r n _ (Hr.out.below (by have := Hbw.out; (repeat (with_reducible first | exact Below.refl _ _ | assumption | refine ba ?_ _ | refine bd ?_ | refine bdN ?_ _ | refine bs ?_ (by first | exact Nat.le_refl _ | (dsimp only; omega) | (simp; done)) _ | refine bt ?_ (by assumption)))))).mono ?_; rintro _ w4 ⟨v4, rfl, hown4, hb4⟩; rw [E1.out]; rw [E1.out] at hown4; dsimp only [noSpc] at hown4 ⊢; have HbT4 := Lib.hid (show Below Wb.heap.size Wb w4 from hb4); clear a0 f0 f1 f2 c0 c1 c2 g0 g1 g2 s0 s1 s2; obtain ⟨a0, f0, f1, f2, c0, c1, c2, g0, g1, g2, s0, s1, s2⟩ := Hk.out w4 HbT4.out; have Hown4 := Lib.hid hown4; obtain ⟨a4, k4, hv4⟩ := owns_shape (n := 0) hown4; subst hv4; clear hown4 hb4)
      rw [rounds_succ]
      go_wp2_with (go_at_call 133; refine (impl_findModule _ fs D r n _ (Hr.out.below (by have := bt Hbw.out HbT4.out; (repeat (with_reducible first | exact Below.refl _ _ | assumption | refine ba ?_ _ | refine bd ?_ | refine bdN ?_ _ | refine bs ?_ (by first | exact Nat.le_refl _ | (dsimp only; omega) | (simp; done)) _ | refine bt ?_ (by assumption))))) Hn.out).mono ?_; rintro _ w5 ⟨v5, rfl, hown5, hb5⟩; rw [E3.out]; rw [E3.out] at hown5; dsimp only [noSpc] at hown5 ⊢; have HbT5 := Lib.hid (show Below Wb.heap.size Wb w5 from bt HbT4.out (show Below w4.heap.size w4 w5 by (repeat (with_reducible first | exact Below.refl _ _ | assumption | refine ba ?_ _ | refine bd ?_ | refine bdN ?_ _ | refine bs ?_ (by first | exact Nat.le_refl _ | (dsimp only; omega) | (simp; done)) _ | refine bt ?_ (by assumption))))); clear a0 f0 f1 f2 c0 c1 c2 g0 g1 g2 s0 s1 s2; obtain ⟨a0, f0, f1, f2, c0, c1, c2, g0, g1, g2, s0, s1, s2⟩ := Hk.out w5 HbT5.out; have Hown5 := Lib.hid hown5; obtain ⟨a5, k5, hv5⟩ := owns_shape (n := 0) hown5; subst hv5; clear hown5 hb5)
      rw [rounds_succ]
      go_wp2_with (go_at_call 134; refine (impl_findDir _ fs D r n _ (Hr.out.below (by have := bt Hbw.out HbT5.out; (repeat (with_reducible first | exact Below.refl _ _ | assumption | refine ba ?_ _ | refine bd ?_ | refine bdN ?_ _ | refine bs ?_ (by first | exact Nat.le_refl _ | (dsimp only; omega) | (simp; done)) _ | refine bt ?_ (by assumption))))) Hz.out Ht.out Hn.out).mono ?_; rintro _ w6 ⟨v6, rfl, hown6, hb6⟩; rw [E4.out]; rw [E4.out] at hown6; dsimp only [noSpc] at hown6 ⊢; have HbT6 := Lib.hid (show Below Wb.heap.size Wb w6 from bt HbT5.out (show Below w5.heap.size w5 w6 by (repeat (with_reducible first | exact Below.refl _ _ | assumption | refine ba ?_ _ | refine bd ?_ | refine bdN ?_ _ | refine bs ?_ (by first | exact Nat.le_refl _ | (dsimp only; omega) | (simp; done)) _ | refine bt ?_ (by assumption))))); clear a0 f0 f1 f2 c0 c1 c2 g0 g1 g2 s0 s1 s2; obtain ⟨a0, f0, f1, f2, c0, c1, c2, g0, g1, g2, s0, s1, s2⟩ := Hk.out w6 HbT6.out; have Hown6 := Lib.hid hown6; obtain ⟨a6, k6, hv6⟩ := owns_shape (n := 0) hown6; subst hv6; clear hown6 hb6)
      rw [rounds_succ]
      go_wp2_with (go_at_call 85; refine (impl_nothing _).mono ?_; rintro _ w8 ⟨rfl, hb8⟩; have HbT8 := Lib.hid (show Below Wb.heap.size Wb w8 from bt HbT6.out (show Below w6.heap.size w6 w8 by (repeat (with_reducible first | exact Below.refl _ _ | assumption | refine ba ?_ _ | refine bd ?_ | refine bdN ?_ _ | refine bs ?_ (by first | exact Nat.le_refl _ | (dsimp only; omega) | (simp; done)) _ | refine bt ?_ (by assumption))))); clear a0 f0 f1 f2 c0 c1 c2 g0 g1 g2 s0 s1 s2; obtain ⟨a0, f0, f1, f2, c0, c1, c2, g0, g1, g2, s0, s1, s2⟩ := Hk.out w8 HbT8.out; clear hb8)
      have hbw := bt Hbw.out HbT8.out
      exact bodyPost_ret (v := .agg #[.int .i64 0, .int .i64 (-1), .slice none 0 0]) (by simp [results, Try.results131, go_sem, *]) rfl (noSpc_new E2.out (by (repeat (with_reducible first | exact Below.refl _ _ | assumption | refine ba ?_ _ | refine bd ?_ | refine bdN ?_ _ | refine bs ?_ (by first | exact Nat.le_refl _ | (dsimp only; omega) | (simp; done)) _ | refine bt ?_ (by assumption)))))
    · have E4 := Lib.hid (show dirSpc fs r n = ⟨3, -1, [r]⟩ by unfold dirSpc; rw [hd]; rfl)
      have E2 := Lib.hid (show rootSpc fs r n = ⟨3, -1, [r]⟩ by rw [E5.out, E4.out])
      clear hd
      go_enter Try.func131, Try.ntmps131
      go_wp2_with fail
      rw [← HWb.out]
      refine wp_loop_rounds 4 ?_
      rw [rounds_succ]
      go_wp2_with (go_at_call 132; refine (impl_findInit _ fs D r n _ (Hr.out.below (by have := Hbw.out; (repeat (with_reducible first | exact Below.refl _ _ | assumption | refine ba ?_ _ | refine bd ?_ | refine bdN ?_ _ | refine bs ?_ (by first | exact Nat.le_refl _ | (dsimp only; omega) | (simp; done)) _ | refine bt ?_ (by assumption)))))).mono ?_; rintro _ w4 ⟨v4, rfl, hown4, hb4⟩; rw [E1.out]; rw [E1.out] at hown4; dsimp only [noSpc] at hown4 ⊢; have HbT4 := Lib.hid (show Below Wb.heap.size Wb w4 from hb4); clear a0 f0 f1 f2 c0 c1 c2 g0 g1 g2 s0 s1 s2; obtain ⟨a0, f0, f1, f2, c0, c1, c2, g0, g1, g2, s0, s1, s2⟩ := Hk.out w4 HbT4.out; have Hown4 := Lib.hid hown4; obtain ⟨a4, k4, hv4⟩ := owns_shape (n := 0) hown4; subst hv4; clear hown4 hb4)
      rw [rounds_succ]
      go_wp2_with (go_at_call 133; refine (impl_findModule _ fs D r n _ (Hr.out.below (by have := bt Hbw.out HbT4.out; (repeat (with_reducible first | exact Below.refl _ _ | assumption | refine ba ?_ _ | refine bd ?_ | refine bdN ?_ _ | refine bs ?_ (by first | exact Nat.le_refl _ | (dsimp only; omega) | (simp; done)) _ | refine bt ?_ (by assumption))))) Hn.out).mono ?_; rintro _ w5 ⟨v5, rfl, hown5, hb5⟩; rw [E3.out]; rw [E3.out] at hown5; dsimp only [noSpc] at hown5 ⊢; have HbT5 := Lib.hid (show Below Wb.heap.size Wb w5 from bt HbT4.out (show Below w4.heap.size w4 w5 by (repeat (with_reducible first | exact Below.refl _ _ | assumption | refine ba ?_ _ | refine bd ?_ | refine bdN ?_ _ | refine bs ?_ (by first | exact Nat.le_refl _ | (dsimp only; omega) | (simp; done)) _ | refine bt ?_ (by assumption))))); clear a0 f0 f1 f2 c0 c1 c2 g0 g1 g2 s0 s1 s2; obtain ⟨a0, f0, f1, f2, c0, c1, c2, g0, g1, g2, s0, s1, s2⟩ := Hk.out w5 HbT5.out; have Hown5 := Lib.hid hown5; obtain ⟨a5, k5, hv5⟩ := owns_shape (n := 0) hown5; subst hv5; clear hown5 hb5)
      rw [rounds_succ]
      go_wp2_with (go_at_call 134; refine (impl_findDir _ fs D r n _ (Hr.out.below (by have := bt Hbw.out HbT5.out; (repeat (with_reducible first | exact Below.refl _ _ | assumption | refine ba ?_ _ | refine bd ?_ | refine bdN ?_ _ | refine bs ?_ (by first | exact Nat.le_refl _ | (dsimp only; omega) | (simp; done)) _ | refine bt ?_ (by assumption))))) Hz.out Ht.out Hn.out).mono ?_; rintro _ w6 ⟨v6, rfl, hown6, hb6⟩; rw [E4.out]; rw [E4.out] at hown6; dsimp only [noSpc] at hown6 ⊢; have HbT6 := Lib.hid (show Below Wb.heap.size Wb w6 from bt HbT5.out (show Below w5.heap.size w5 w6 by (repeat (with_reducible first | exact Below.refl _ _ | assumption | refine ba ?_ _ | refine bd ?_ | refine bdN ?_ _ | refine bs ?_ (by first | exact Nat.le_refl _ | (dsimp only; omega) | (simp; done)) _ | refine bt ?_ (by assumption))))); clear a0 f0 f1 f2 c0 c1 c2 g0 g1 g2 s0 s1 s2; obtain ⟨a0, f0, f1, f2, c0, c1, c2, g0, g1, g2, s0, s1, s2⟩ := Hk.out w6 HbT6.out; have Hown6 := Lib.hid hown6; obtain ⟨a6, k6, hv6⟩ := owns_shape (n := 1) hown6; subst hv6; clear hown6 hb6)
      refine bodyPost_ret (v := .agg #[.int .i64 3, .int .i64 (-1), .slice a6 1 k6]) (by simp [results, Try.results131, go_sem, *]) rfl ?_
      rw [E2.out]
      have hbw := bt Hbw.out HbT6.out
      have hz9 := HbT6.out.size
      have hz4 := HbT4.out.size
      have hz5 := HbT5.out.size
      refine ⟨_, rfl, ?_, by (repeat (with_reducible first | exact Below.refl _ _ | assumption | refine ba ?_ _ | refine bd ?_ | refine bdN ?_ _ | refine bs ?_ (by first | exact Nat.le_refl _ | (dsimp only; omega) | (simp; done)) _ | refine bt ?_ (by assumption)))⟩
      refine owns_mono (B := w.heap.size + 2) ?_ (by omega)
      (repeat (with_reducible first | refine World.ownsRow.alloc ?_ _ | refine owns_set_low ?_ (by first | (dsimp only; omega) | (simp; done) | (simp; omega)) _))
      exact owns_mono Hown6.out (by first | omega | (simp; omega))
end Go.Proofs.Ytolhgklbkjdpiaa
