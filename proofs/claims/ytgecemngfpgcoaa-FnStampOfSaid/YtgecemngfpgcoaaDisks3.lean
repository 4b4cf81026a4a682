/- Contract of the model's function that says whether directories are valid. -/
import Derived.Test.YtgecemngfpgcoaaDisks
set_option linter.unusedVariables false
set_option linter.unusedSimpArgs false
namespace Go.Proofs.Ytgecemngfpgcoaa
open Go.RowKit Go.Proofs.Ytgecemngfpgcoaa.Nm
open Go.Sort (grow)

theorem still_belowK {P : Program} {f : FuncId} {args : Array Value} {w : World} {v : Value} (h : Calls P f args w fun e w' => e = .returned v ∧ w = w') :
    Calls P f args w fun e w' => e = .returned v ∧ Below w.heap.size w w' := h.mono fun _ _ hh => ⟨hh.1, by rw [← hh.2]; exact Below.refl _ _⟩
/-! ### The model. -/
set_option maxRecDepth 100000 in
set_option maxHeartbeats 2000000 in
theorem spec_validDirs (v : Value) (ds : List Dr) (D : Nat → Prop) (w : World) (hr : DirsIn w D v ds) (hz : ShortD 3000000 ds) :
    Calls Try.prog 86 #[v] w fun e w' => e = .returned (.bool (okDirs ds 200 12)) ∧ Below w.heap.size w w' := by
  have Hr := Lib.hid hr
  have Hz := Lib.hid hz
  obtain ⟨aa, ca, rfl, hl, hm⟩ := hr.len
  unfold maxLen at hm
  clear hr hz
  go_enter Try.func86, Try.ntmps86
  go_wp2_with fail
  go_loopw [3] (fun iv wr => ∃ k : Nat, k ≤ ds.length ∧ iv = .int .i64 k ∧ Below w.heap.size w wr ∧ (∀ i (h : i < ds.length), i < k → okDr 200 12 ds[i] = true) ∧ ∀ i (h : i < ds.length), i < k → (i : Int) ≤ keyAt dplace ds (dplace ds[i])) (fun iv _ => ds.length - (intOf iv).toNat)
  case atStart => exact ⟨0, by omega, rfl, Below.refl _ _, fun i _ h => absurd h (by omega), fun i _ h => absurd h (by omega)⟩
  case round =>
    obtain ⟨k, hk, rfl, hbel, ha, hd⟩ := hrel
    have Ha := Lib.hid ha
    have Hd := Lib.hid hd
    clear ha hd
    by_cases hlt : k < ds.length
    · obtain ⟨b, off, cap, bv, e, hD, hb, hbody, c0, c1, c2, c3⟩ := (Hr.out.below hbel).at_ hlt
      simp only [Value.slice.injEq] at e
      obtain ⟨rfl, _, rfl⟩ := e
      obtain ⟨ba', bc', rfl, hbl, hbm⟩ := hbody.len
      unfold maxLen at hbm
      obtain ⟨z1, z3⟩ := Hz.out _ (List.getElem_mem hlt)
      clear hbody z3
      have Hn := Lib.hid (okDirs_dr (most := 200) (nm := 12) k hlt)
      have Hu := Lib.hid (keys_dup (key := dplace) k hlt)
      obtain ⟨f, hf⟩ : ∃ f, f = ds[k] := ⟨_, rfl⟩
      rw [← hf] at c0 c1 c2 c3 z1 hbl Hn Hu
      have Hf := Lib.hid hf
      clear hf
      obtain ⟨fr, fp, fst, fb⟩ := f
      dsimp only at c0 c1 c2 c3 z1 hbl
      have Hbe := Lib.hid hbel
      have hk1 : (k : Int) < (ds.length : Int) := by omega
      have hk0 : (0 : Int) ≤ (k : Int) := by omega
      have k0 := cell_regrown c0
      have k1 := cell_regrown c1
      have k2 := cell_regrown c2
      have k3 := cell_regrown c3
      clear c0 c1 c2 c3
      have cR : ∀ d os (x lo hi : Int), Calls Try.prog 46 #[.int .i64 x, .int .i64 lo, .int .i64 hi] (grow (redrawn wr d) os) fun e w'' => e = .returned (.bool (inr x lo hi)) ∧ ∃ p : Regrown, w'' = grow (redrawn wr p.d) p.os := fun d os x lo hi =>
        Calls.regrown_of (still_belowK (spec_inRange' x lo hi _))
      have cV : ∀ d os, Calls Try.prog 78 #[.string (mk fp)] (grow (redrawn wr d) os) fun e w'' => e = .returned (.bool (vpk fp)) ∧ ∃ p : Regrown, w'' = grow (redrawn wr p.d) p.os := fun d os =>
        Calls.regrown_of (spec_validPackage fp _ (by omega))
      have cD : ∀ d os, Calls Try.prog 116 #[.slice (some ⟨b, off, none⟩) ds.length ca, .int .i64 fr, .string (mk fp)] (grow (redrawn wr d) os) fun e w'' => e = .returned (.int .i64 (dirAt ds (fr, fp))) ∧ ∃ p : Regrown, w'' = grow (redrawn wr p.d) p.os := fun d os =>
        Calls.regrown_of (spec_dirAt (some ⟨b, off, none⟩) ds.length ca ds D fr fp (grow (redrawn wr d) os) (Hr.out.below (bt Hbe.out (below_regrown wr d os))))
      have hkr := keyAt_range (key := dplace) ds (fr, fp)
      have Hq := Lib.hid (show dirAt ds (fr, fp) = keyAt dplace ds (dplace ⟨fr, fp, fst, fb⟩) from rfl)
      rw [show keyAt dplace ds (fr, fp) = dirAt ds (fr, fp) from rfl] at hkr
      generalize dirAt ds (fr, fp) = n0 at *
      have Hok := Lib.hid (show okDr 200 12 ⟨fr, fp, fst, fb⟩ = (inr fr 0 2 && vpk fp && inr fst 0 200 && decide (fb.length ≤ 12)) from rfl)
      obtain ⟨x1, e1⟩ : ∃ x, inr fr 0 2 = x := ⟨_, rfl⟩
      obtain ⟨x2, e2⟩ : ∃ x, vpk fp = x := ⟨_, rfl⟩
      obtain ⟨x3, e3⟩ : ∃ x, inr fst 0 200 = x := ⟨_, rfl⟩
      rw [e1, e2, e3] at Hok
      by_cases hall : (x1 && x2 && x3) = true ∧ ¬ (n0 < (k : Int)) ∧ ¬ (12 < (fb.length : Int))
      · obtain ⟨h123, h4, h5⟩ := hall
        simp only [Bool.and_eq_true] at h123
        obtain ⟨⟨rfl, rfl⟩, rfl⟩ := h123
        have Hok2 := Lib.hid (show okDr 200 12 ⟨fr, fp, fst, fb⟩ = true by rw [Hok.out]; simp; omega)
        have H4 := Lib.hid (show (k : Int) ≤ n0 by omega)
        have H4b := Lib.hid (show (n0 < (k : Int)) = False from eq_false h4)
        have H5b := Lib.hid (show ((12 : Int) < (fb.length : Int)) = False from eq_false h5)
        go_wp2_with fail
        have h4b := H4b.out
        have h5b := H5b.out
        refine wp_region_quiet_below (by kernel_rfl) (by kernel_rfl) ?_
        repeat (go_big_quiet_step (first | exact cR _ _ _ _ _ | exact cV _ _ | exact cD _ _))
        refine wpQuiet_nil ?_
        intro _ hw'
        obtain ⟨⟨dq, osq⟩, hw2⟩ := hw'
        subst hw2
        have Hb7 := Lib.hid (bt Hbe.out (below_regrown wr dq osq))
        clear cR cV cD k0 k1 k2 k3
        go_wp2_with fail
        go_roundw
        case rel =>
          refine ⟨k + 1, by omega, by go_num, Hb7.out, fun i h1 hi => ?_, fun i h1 hi => ?_⟩
          · by_cases e : i = k
            · subst e; rw [← Hf.out]; exact Hok2.out
            · exact Ha.out i h1 (by omega)
          · by_cases e : i = k
            · subst e; rw [← Hf.out, ← Hq.out]; exact H4.out
            · exact Hd.out i h1 (by omega)
        case measure => simp [intOf]; omega
      · have Hv := Lib.hid (show okDirs ds 200 12 = false by
          by_cases h4 : n0 < (k : Int)
          · exact okDirs_dup (Hu.out (by rw [← Hq.out]; exact h4))
          · refine Hn.out ?_
            rw [Hok.out]
            by_cases h5 : 12 < (fb.length : Int)
            · have : decide (fb.length ≤ 12) = false := by simp only [decide_eq_false_iff_not]; omega
              rw [this, Bool.and_false]
            · have : (x1 && x2 && x3) = false := by
                cases hx : (x1 && x2 && x3)
                · rfl
                · exact absurd ⟨hx, h4, h5⟩ hall
              rw [this, Bool.false_and])
        clear Hok Hq Hn Hu
        have hc : x1 = false ∨ (x1 = true ∧ x2 = false) ∨ (x1 = true ∧ x2 = true ∧ x3 = false) ∨ (x1 = true ∧ x2 = true ∧ x3 = true ∧ n0 < (k : Int)) ∨ (x1 = true ∧ x2 = true ∧ x3 = true ∧ ¬ n0 < (k : Int) ∧ 12 < (fb.length : Int)) := by
          cases x1
          · exact .inl rfl
          cases x2
          · exact .inr (.inl ⟨rfl, rfl⟩)
          cases x3
          · exact .inr (.inr (.inl ⟨rfl, rfl, rfl⟩))
          by_cases h4 : n0 < (k : Int)
          · exact .inr (.inr (.inr (.inl ⟨rfl, rfl, rfl, h4⟩)))
          · refine .inr (.inr (.inr (.inr ⟨rfl, rfl, rfl, h4, ?_⟩)))
            by_cases h5 : 12 < (fb.length : Int)
            · exact h5
            · exact absurd ⟨rfl, h4, h5⟩ hall
        clear hall
        have Hb4 := Lib.hid (fun (h : ¬ n0 < (k : Int)) => eq_false h)
        have Hb5 := Lib.hid (fun (h : 12 < (fb.length : Int)) => eq_true h)
        rcases hc with rfl | ⟨rfl, rfl⟩ | ⟨rfl, rfl, rfl⟩ | ⟨rfl, rfl, rfl, h4⟩ | ⟨rfl, rfl, rfl, h4, h5⟩
        all_goals
          go_wp2_with fail
          try have h4b := Hb4.out (by omega)
          try have h5b := Hb5.out (by omega)
          refine wp_region_quiet_below (by kernel_rfl) (by kernel_rfl) ?_
          repeat (go_big_quiet_step (first | exact cR _ _ _ _ _ | exact cV _ _ | exact cD _ _))
          refine wpQuiet_nil ?_
          intro _ hw'
          obtain ⟨⟨dq, osq⟩, hw2⟩ := hw'
          subst hw2
          have Hb7 := Lib.hid (bt Hbe.out (below_regrown wr dq osq))
          clear cR cV cD k0 k1 k2 k3
          go_wp2_with fail
          go_ret
          rw [Hv.out]
          exact ⟨rfl, Hb7.out⟩
    · have hv := Lib.hid (okDirs_all (most := 200) (nm := 12) (fun i h => Ha.out i h (by omega)) (keys_nodup (fun i h => Hd.out i h (by omega))))
      go_wp2_with fail
      go_ret
      refine ⟨ret_bool ?_, hbel⟩
      rw [hv.out]
      try simp
      try omega
end Go.Proofs.Ytgecemngfpgcoaa
