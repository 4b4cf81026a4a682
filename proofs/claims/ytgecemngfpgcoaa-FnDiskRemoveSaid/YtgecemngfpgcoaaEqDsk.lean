/- The laws' looks at equal disks and equal finders. -/
import Derived.Test.YtgecemngfpgcoaaEqLaw
import Derived.Test.YtgecemngfpgcoaaDskMem
import Derived.Test.YtgecemngfpgcoaaVp
import Derived.Test.YtgecemngfpgcoaaHBox
import Derived.Deep.QuietTactic
import Derived.BigQuiet
import Derived.Lib.QuietBelow
set_option linter.unusedVariables false
set_option linter.unusedSimpArgs false
namespace Go.Proofs.Ytgecemngfpgcoaa
open Go.RowKit Go.Proofs.Ytgecemngfpgcoaa.Nm
open Go.Sort (grow)

theorem eqd_get {qs qs' : List (Dr × Value)} (e : qs'.map (·.1) = qs.map (·.1)) (k : Nat) (h : k < qs.length) : ∃ h' : k < qs'.length, qs'[k].1 = qs[k].1 := by
  have hl : qs'.length = qs.length := by have := congrArg List.length e; simpa using this
  refine ⟨by omega, ?_⟩
  have h1 : (qs'.map (·.1))[k]'(by rw [List.length_map]; omega) = (qs.map (·.1))[k]'(by rw [List.length_map]; omega) := by simp only [e]
  rwa [List.getElem_map, List.getElem_map] at h1
set_option maxRecDepth 100000 in
set_option maxHeartbeats 2000000 in
theorem laws_equalDirs (v v' : Value) (qs qs' : List (Dr × Value)) (B B' : Nat) (w : World) (h : OwnDirs w B v qs) (h' : OwnDirs w B' v' qs') (e : qs'.map (·.1) = qs.map (·.1)) (hn : ∀ q ∈ qs, q.1.names.length ≤ 9500000) (hl : qs.length ≤ 1000000) :
    Calls Try.prog 49 #[v, v'] w fun e w' => e = .returned (.bool true) ∧ Below w.heap.size w w' := by
  obtain ⟨aa, ca, rfl⟩ := h.len
  obtain ⟨ab, cb, rfl⟩ := h'.len
  have hl2 : qs'.length = qs.length := by have := congrArg List.length e; simpa using this
  have H := Lib.hid h
  have H' := Lib.hid h'
  have He := Lib.hid (eqd_get e)
  have Hn := Lib.hid hn
  rw [hl2] at H' ⊢
  have Hl2 := Lib.hid hl2
  clear h h' e hn hl2
  obtain ⟨n, hnn⟩ : ∃ n, n = qs.length := ⟨_, rfl⟩
  rw [← hnn] at H H' hl Hl2 ⊢
  have Hnn := Lib.hid hnn
  clear hnn
  go_enter Try.func49, Try.ntmps49
  go_wp2_with fail
  go_loopw [5] (fun iv wr => ∃ k : Nat, k ≤ n ∧ iv = .int .i64 k ∧ Below w.heap.size w wr) (fun iv _ => n - (intOf iv).toNat)
  case atStart => exact ⟨0, by omega, rfl, Below.refl _ _⟩
  case round =>
    obtain ⟨k, hk, rfl, hbel⟩ := hrel
    have Hbel := Lib.hid hbel
    by_cases hlt : k < n
    · have hk1 : k < qs.length := by have := Hnn.out; omega
      have O1 := Lib.hid (H.out.below hbel)
      have O2 := Lib.hid (H'.out.below hbel)
      obtain ⟨g, cap, e1, hg, hg2⟩ := O1.out.1.form (by omega)
      simp only [Value.slice.injEq] at e1
      obtain ⟨rfl, hx1, rfl⟩ := e1
      obtain ⟨g', cap', e2, hg', hg2'⟩ := O2.out.1.form (by have := Hl2.out; omega)
      simp only [Value.slice.injEq] at e2
      obtain ⟨rfl, hx2, rfl⟩ := e2
      clear hx1 hx2 hg hg2 hg' hg2'
      have hrow := O1.out.1
      rw [← Hnn.out] at hrow
      have hrow' := O2.out.1
      rw [Hl2.out] at hrow'
      obtain ⟨hk2, heq⟩ := He.out k hk1
      obtain ⟨⟨c0, c1, c2, c3⟩, _⟩ := own4 hrow k hk1
      obtain ⟨⟨d0, d1, d2, d3⟩, _⟩ := own4 hrow' k hk2
      have hnm := O1.out.2.1 _ (List.getElem_mem hk1)
      have hnm' := O2.out.2.1 _ (List.getElem_mem hk2)
      have hnl := Hn.out _ (List.getElem_mem hk1)
      rw [heq] at d0 d1 d2 hnm'
      obtain ⟨a1, b1, ev1⟩ := owns_shape hnm
      obtain ⟨a2, b2, ev2⟩ := owns_shape hnm'
      rw [ev1] at c3 hnm
      rw [ev2] at d3 hnm'
      have R1 := Lib.hid (Reads.of_owns hnm)
      have R2 := Lib.hid (Reads.of_owns hnm')
      obtain ⟨f, hf⟩ : ∃ f, f = qs[k].1 := ⟨_, rfl⟩
      rw [← hf] at c0 c1 c2 c3 d0 d1 d2 d3 hnl R1 R2
      clear hf hrow hrow' heq hnm hnm' ev1 ev2
      obtain ⟨fr, fp, fst, fb⟩ := f
      dsimp only at c0 c1 c2 c3 d0 d1 d2 d3 hnl R1 R2
      have hkI : (k : Int) < (n : Int) := by omega
      have hkJ : (0 : Int) ≤ (k : Int) := by omega
      have e0 := cell_regrown c0
      have e1 := cell_regrown c1
      have e2 := cell_regrown c2
      have e3 := cell_regrown c3
      have f0 := cell_regrown d0
      have f1 := cell_regrown d1
      have f2 := cell_regrown d2
      have f3 := cell_regrown d3
      have cT : ∀ d os, Calls Try.prog 90 #[.slice a1 fb.length b1, .slice a2 fb.length b2] (grow (redrawn wr d) os) fun e w'' => e = .returned (.bool true) ∧ ∃ p : Regrown, w'' = grow (redrawn wr p.d) p.os := fun d os =>
        Calls.regrown_of ((laws_equalTexts _ _ fb fb (grow (redrawn wr d) os) (R1.out.below (below_regrown wr d os)) (R2.out.below (below_regrown wr d os)) hnl hnl).mono (fun e w' h => ⟨by rw [h.1]; simp, h.2⟩))
      clear c0 c1 c2 c3 d0 d1 d2 d3
      go_wp2_with fail
      refine wp_region_quiet_below (by kernel_rfl) (by kernel_rfl) ?_
      repeat (go_big_quiet_step (exact cT _ _))
      refine wpQuiet_nil ?_
      intro _ hw'
      obtain ⟨⟨dq, osq⟩, hw2⟩ := hw'
      subst hw2
      have Hb8 := Lib.hid (below_regrown wr dq osq)
      clear cT e0 e1 e2 e3 f0 f1 f2 f3
      go_wp2_with fail
      go_roundw
      case rel => exact ⟨k + 1, by omega, by go_num, bt Hbel.out Hb8.out⟩
      case measure => simp [intOf]; omega
    · have hlt2 : ¬ ((k : Int) < (n : Int)) := by omega
      go_wp2_with fail
      go_ret
      exact ⟨rfl, hbel⟩
set_option maxRecDepth 100000 in
set_option maxHeartbeats 2000000 in
theorem laws_equalDisk (v v' u u' : Value) (c : Int) (ps ps' : List (Fil × Value)) (qs qs' : List (Dr × Value)) (B B' : Nat) (w : World) (h : OwnDsk w B v ps u qs) (h' : OwnDsk w B' v' ps' u' qs') (e1 : ps'.map (·.1) = ps.map (·.1)) (e2 : qs'.map (·.1) = qs.map (·.1)) (hn : ∀ q ∈ qs, q.1.names.length ≤ 9500000) (hl : qs.length ≤ 1000000) :
    Calls Try.prog 13 #[.agg #[v, .int .i64 c, u], .agg #[v', .int .i64 c, u']] w fun e w' => e = .returned (.bool true) ∧ Below w.heap.size w w' := by
  obtain ⟨a1, b1, rfl⟩ := h.1.len
  obtain ⟨a2, b2, rfl⟩ := h.2.len
  obtain ⟨a3, b3, rfl⟩ := h'.1.len
  obtain ⟨a4, b4, rfl⟩ := h'.2.len
  have H := Lib.hid h
  have H' := Lib.hid h'
  have E1 := Lib.hid e1
  have E2 := Lib.hid e2
  have Hn := Lib.hid hn
  have Hi := Lib.hid (h.1.fils (D := fun _ => True) (fun _ _ => trivial))
  have Hi' := Lib.hid (h'.1.fils (D := fun _ => True) (fun _ _ => trivial))
  have X1 := Lib.hid (show Below w.heap.size w ((w.alloc (.cells #[.slice a1 ps.length b1, .int .i64 c, .slice a2 qs.length b2] 28)).alloc (.cells #[.slice a3 ps'.length b3, .int .i64 c, .slice a4 qs'.length b4] 28)) by (repeat (with_reducible first | exact Below.refl _ _ | assumption | refine ba ?_ _ | refine bd ?_ | refine bdN ?_ _ | refine bs ?_ (by first | exact Nat.le_refl _ | (dsimp only; omega) | (simp; done)) _ | refine bt ?_ (by assumption))))
  have B1 := Lib.hid ((HB.new w #[.slice a1 ps.length b1, .int .i64 c, .slice a2 qs.length b2] 28).alloc (.cells #[.slice a3 ps'.length b3, .int .i64 c, .slice a4 qs'.length b4] 28))
  have B2 := Lib.hid (show HB ((w.alloc (.cells #[.slice a1 ps.length b1, .int .i64 c, .slice a2 qs.length b2] 28)).alloc (.cells #[.slice a3 ps'.length b3, .int .i64 c, .slice a4 qs'.length b4] 28)) (w.heap.size + 1) 28 #[.slice a3 ps'.length b3, .int .i64 c, .slice a4 qs'.length b4] by have h := HB.new (w.alloc (.cells #[.slice a1 ps.length b1, .int .i64 c, .slice a2 qs.length b2] 28)) #[.slice a3 ps'.length b3, .int .i64 c, .slice a4 qs'.length b4] 28; rw [World.size_alloc] at h; exact h)
  clear h h' e1 e2 hn
  obtain ⟨W, hW⟩ : ∃ W, W = ((w.alloc (.cells #[.slice a1 ps.length b1, .int .i64 c, .slice a2 qs.length b2] 28)).alloc (.cells #[.slice a3 ps'.length b3, .int .i64 c, .slice a4 qs'.length b4] 28)) := ⟨_, rfl⟩
  rw [← hW] at X1 B1 B2
  have HW := Lib.hid hW
  clear hW
  go_enter Try.func13, Try.ntmps13
  go_wp2_with fail
  rw [← HW.out]
  refine (laws_equalTree _ _ (ps.map (·.1)) (ps'.map (·.1)) (fun _ => True) (fun _ => True) _ (Hi.out.below X1.out) (Hi'.out.below X1.out)).mono ?_
  rintro _ w4 ⟨rfl, hb4⟩
  rw [E1.out, show sameFils (ps.map (·.1)) (ps.map (·.1)) = true by simp [sameFils]]
  have x0 := (B1.out.step hb4).cell 1
  have x1 := (B1.out.step hb4).cell 2
  have y0 := (B2.out.step hb4).cell 1
  have y1 := (B2.out.step hb4).cell 2
  have Hb4 := Lib.hid (X1.out.trans (hb4.mono X1.out.size))
  clear hb4
  have z0 : w4.cell? ⟨w.heap.size, 1, none⟩ = some (.int .i64 c) := x0
  have z1 : w4.cell? ⟨w.heap.size, 2, none⟩ = some (.slice a2 qs.length b2) := x1
  have z2 : w4.cell? ⟨w.heap.size + 1, 1, none⟩ = some (.int .i64 c) := y0
  have z3 : w4.cell? ⟨w.heap.size + 1, 2, none⟩ = some (.slice a4 qs'.length b4) := y1
  clear x0 x1 y0 y1
  go_wp2_with fail
  refine (laws_equalDirs _ _ qs qs' B B' _ (H.out.2.below Hb4.out) (H'.out.2.below Hb4.out) E2.out Hn.out hl).mono ?_
  rintro _ w5 ⟨rfl, hb5⟩
  have Hb5 := Lib.hid (Hb4.out.trans (hb5.mono Hb4.out.size))
  clear hb5
  go_wp2_with fail
  go_ret
  exact ⟨rfl, Hb5.out⟩
end Go.Proofs.Ytgecemngfpgcoaa
