/- Contracts of the model's functions that say whether a store is valid. -/
import Derived.Test.YtomdmkhgkaalnaaStores
set_option linter.unusedVariables false
set_option linter.unusedSimpArgs false
namespace Go.Proofs.Ytomdmkhgkaalnaa
open Go.RowKit Go.Proofs.Ytomdmkhgkaalnaa.Nm
open Go.Sort (grow)

set_option maxRecDepth 100000 in
set_option maxHeartbeats 1000000 in
theorem spec_compiledAt (a : Option Addr) (n cap : Nat) (cs : List Cmp) (D : Nat → Prop) (r : Int) (p : Bs) (i : Bool) (w : World) (hr : CmpsIn w D (.slice a n cap) cs) :
    Calls Try.prog 109 #[.slice a n cap, .int .i64 r, .string (mk p), .bool i] w fun e w' => e = .returned (.int .i64 (keyAt cplace cs (r, p, i))) ∧ Below w.heap.size w w' := by
  have Hr := Lib.hid hr
  obtain ⟨aa, ca, e, hl, hm⟩ := hr.len
  simp only [Value.slice.injEq] at e
  obtain ⟨rfl, rfl, rfl⟩ := e
  unfold maxLen at hm
  clear hr
  go_enter Try.func109, Try.ntmps109
  go_wp2_with fail
  go_loopw [9] (fun iv wr => ∃ k : Nat, k ≤ cs.length ∧ iv = .int .i64 k ∧ Below w.heap.size w wr ∧ ∀ j (h : j < cs.length), j < k → cplace cs[j] ≠ (r, p, i)) (fun iv _ => cs.length - (intOf iv).toNat)
  case atStart => exact ⟨0, by omega, rfl, Below.refl _ _, fun i _ h => absurd h (by omega)⟩
  case round =>
    obtain ⟨k, hk, rfl, hbel, ha⟩ := hrel
    have Ha := Lib.hid ha
    clear ha
    by_cases hlt : k < cs.length
    · obtain ⟨b, off, cap, bv, e, hD, hb, hbody, c0, c1, c2, c3, c4, c5, c6, c7⟩ := (Hr.out.below hbel).at_ hlt
      simp only [Value.slice.injEq] at e
      obtain ⟨rfl, _, rfl⟩ := e
      clear hbody
      have Hy := Lib.hid (keyAt_yes (key := cplace) cs k hlt (r, p, i) (fun j h1 h2 => Ha.out j h1 h2))
      obtain ⟨f, hf⟩ : ∃ f, f = cs[k] := ⟨_, rfl⟩
      rw [← hf] at c0 c1 c2 Hy
      have Hn := Lib.hid (fun (h : cplace f ≠ (r, p, i)) => (show cplace cs[k] ≠ (r, p, i) by rw [← hf]; exact h))
      clear hf c3 c4 c5 c6 c7
      obtain ⟨x0, x1, x2, x3, x4, x5, x6, fb⟩ := f
      dsimp only at c0 c1 c2
      go_wp2_with fail
      all_goals first
        | (go_ret
           refine ⟨ret_i64 ?_, by (repeat (with_reducible first | exact Below.refl _ _ | assumption | refine ba ?_ _ | refine bd ?_ | refine bdN ?_ _ | refine bs ?_ (by first | exact Nat.le_refl _ | (dsimp only; omega) | (simp; done)) _ | refine bt ?_ (by assumption)))⟩
           exact (show keyAt cplace cs (r, p, i) = (k : Int) from Hy.out (by simp_all [cplace])).symm)
        | (go_roundw
           case rel =>
             refine ⟨k + 1, by omega, by go_num, by (repeat (with_reducible first | exact Below.refl _ _ | assumption | refine ba ?_ _ | refine bd ?_ | refine bdN ?_ _ | refine bs ?_ (by first | exact Nat.le_refl _ | (dsimp only; omega) | (simp; done)) _ | refine bt ?_ (by assumption))), fun i h1 hi => ?_⟩
             by_cases e : i = k
             · subst e; exact Hn.out (by simp_all [cplace])
             · exact Ha.out i h1 (by omega)
           case measure => simp [intOf]; omega)
    · have hv := Lib.hid (keyAt_no (key := cplace) cs (r, p, i) (fun j h => Ha.out j h (by omega)))
      go_wp2_with fail
      go_ret
      rw [hv.out]
      exact ⟨rfl, hbel⟩
set_option maxRecDepth 100000 in
set_option maxHeartbeats 3000000 in
theorem spec_validStore (v : Value) (cs : List Cmp) (D : Nat → Prop) (w : World) (hr : CmpsIn w D v cs) (hz : ShortCs 2000000 cs) :
    Calls Try.prog 58 #[v] w fun e w' => e = .returned (.bool (okStore cs)) ∧ Below w.heap.size w w' := by
  have Hr := Lib.hid hr
  have Hz := Lib.hid (shortCs_mono (B := 8000000) (by omega) hz)
  obtain ⟨aa, ca, rfl, hl, hm⟩ := hr.len
  unfold maxLen at hm
  clear hr hz
  go_enter Try.func58, Try.ntmps58
  go_wp2_with fail
  go_loopw [3] (fun iv wr => ∃ k : Nat, k ≤ cs.length ∧ iv = .int .i64 k ∧ Below w.heap.size w wr ∧ (∀ i (h : i < cs.length), i < k → okCmp cs[i] = true) ∧ ∀ i (h : i < cs.length), i < k → (i : Int) ≤ keyAt cplace cs (cplace cs[i])) (fun iv _ => cs.length - (intOf iv).toNat)
  case atStart => exact ⟨0, by omega, rfl, Below.refl _ _, fun i _ h => absurd h (by omega), fun i _ h => absurd h (by omega)⟩
  case round =>
    obtain ⟨k, hk, rfl, hbel, ha, hd⟩ := hrel
    have Ha := Lib.hid ha
    have Hd := Lib.hid hd
    clear ha hd
    by_cases hlt : k < cs.length
    · obtain ⟨b, off, cap, bv, e, hD, hb, hbody, c0, c1, c2, c3, c4, c5, c6, c7⟩ := (Hr.out.below hbel).at_ hlt
      simp only [Value.slice.injEq] at e
      obtain ⟨rfl, _, rfl⟩ := e
      obtain ⟨ba, bc, rfl, hbl, hbm⟩ := hbody.len
      obtain ⟨z1, z3⟩ := Hz.out _ (List.getElem_mem hlt)
      have Hbody := Lib.hid hbody
      have Hz3 := Lib.hid z3
      have Hn := Lib.hid (okStore_no k hlt)
      have Hu := Lib.hid (keys_dup (key := cplace) k hlt)
      obtain ⟨f, hf⟩ : ∃ f, f = cs[k] := ⟨_, rfl⟩
      rw [← hf] at c0 c1 c2 c3 c4 c5 c6 c7 z1 Hz3 Hbody Hn Hu
      have Hf := Lib.hid hf
      have Hbe := Lib.hid hbel
      clear hf hbody z3 hbm hbl
      obtain ⟨x0, x1, x2, x3, x4, x5, x6, fb⟩ := f
      dsimp only at c0 c1 c2 c3 c4 c5 c6 c7 z1
      go_wp2_with fail
      have hx := Boxed.start wr #[.int .i64 x0, .string (mk x1), .bool x2, .int .i64 x3, .int .i64 x4, .int .i64 x5, .int .i64 x6, .slice ba fb.length bc] 53
      obtain ⟨W1, hW1⟩ : ∃ W1, W1 = wr.alloc (.cells #[.int .i64 x0, .string (mk x1), .bool x2, .int .i64 x3, .int .i64 x4, .int .i64 x5, .int .i64 x6, .slice ba fb.length bc] 53) := ⟨_, rfl⟩
      rw [← hW1] at hx ⊢
      have hb1 := hx.below
      have Hb1 := Lib.hid hb1
      have k0 := cell_regrown (show W1.cell? ⟨wr.heap.size, 0, none⟩ = some (.int .i64 x0) from hx.cell 0)
      have k1 := cell_regrown (show W1.cell? ⟨wr.heap.size, 1, none⟩ = some (.string (mk x1)) from hx.cell 1)
      have k2 := cell_regrown (show W1.cell? ⟨wr.heap.size, 2, none⟩ = some (.bool x2) from hx.cell 2)
      have k3 := cell_regrown (show W1.cell? ⟨wr.heap.size, 3, none⟩ = some (.int .i64 x3) from hx.cell 3)
      have k4 := cell_regrown (show W1.cell? ⟨wr.heap.size, 4, none⟩ = some (.int .i64 x4) from hx.cell 4)
      have k5 := cell_regrown (show W1.cell? ⟨wr.heap.size, 5, none⟩ = some (.int .i64 x5) from hx.cell 5)
      have k6 := cell_regrown (show W1.cell? ⟨wr.heap.size, 6, none⟩ = some (.int .i64 x6) from hx.cell 6)
      have k7 := cell_regrown (show W1.cell? ⟨wr.heap.size, 7, none⟩ = some (.slice ba fb.length bc) from hx.cell 7)
      clear hx hb1 hW1 c0 c1 c2 c3 c4 c5 c6 c7
      have cR : ∀ d os (x lo hi : Int), Calls Try.prog 104 #[.int .i64 x, .int .i64 lo, .int .i64 hi] (grow (redrawn W1 d) os) fun e w'' => e = .returned (.bool (inr x lo hi)) ∧ ∃ p : Regrown, w'' = grow (redrawn W1 p.d) p.os := fun d os x lo hi =>
        Calls.regrown_of (still_belowC (spec_inRange' x lo hi _))
      have cV : ∀ d os, Calls Try.prog 114 #[.string (mk x1)] (grow (redrawn W1 d) os) fun e w'' => e = .returned (.bool (vn x1)) ∧ ∃ p : Regrown, w'' = grow (redrawn W1 p.d) p.os := fun d os =>
        Calls.regrown_of (spec_validName x1 _ z1)
      have cB : ∀ d os, Calls Try.prog 115 #[.slice ba fb.length bc] (grow (redrawn W1 d) os) fun e w'' => e = .returned (.bool (okBody fb)) ∧ ∃ p : Regrown, w'' = grow (redrawn W1 p.d) p.os := fun d os =>
        Calls.regrown_of (spec_validBody _ fb D _ (Hbody.out.below (bt Hb1.out (below_regrown W1 d os))) Hz3.out)
      have cA : ∀ d os, Calls Try.prog 109 #[.slice (some ⟨b, off, none⟩) cs.length ca, .int .i64 x0, .string (mk x1), .bool x2] (grow (redrawn W1 d) os) fun e w'' => e = .returned (.int .i64 (keyAt cplace cs (x0, x1, x2))) ∧ ∃ p : Regrown, w'' = grow (redrawn W1 p.d) p.os := fun d os =>
        Calls.regrown_of (spec_compiledAt _ cs.length ca cs D x0 x1 x2 _ (Hr.out.below (bt (bt Hbe.out Hb1.out) (below_regrown W1 d os))))
      have Hq := Lib.hid (show keyAt cplace cs (x0, x1, x2) = keyAt cplace cs (cplace ⟨x0, x1, x2, x3, x4, x5, x6, fb⟩) from rfl)
      have hk1 : (k : Int) < (cs.length : Int) := by omega
      have hk0 : (0 : Int) ≤ (k : Int) := by omega
      generalize keyAt cplace cs (x0, x1, x2) = n0 at *
      have Hok := Lib.hid (show okCmp ⟨x0, x1, x2, x3, x4, x5, x6, fb⟩ = (inr x0 0 2 && vn x1 && inr x3 0 2 && inr x4 0 99 && okBody fb && decide (x5 = (sizeSum fb : Int)) && decide (x6 = hashOf fb)) from rfl)
      obtain ⟨b1, e1⟩ : ∃ x, inr x0 0 2 = x := ⟨_, rfl⟩
      obtain ⟨b2, e2⟩ : ∃ x, vn x1 = x := ⟨_, rfl⟩
      obtain ⟨b3, e3⟩ : ∃ x, inr x3 0 2 = x := ⟨_, rfl⟩
      obtain ⟨b4, e4⟩ : ∃ x, inr x4 0 99 = x := ⟨_, rfl⟩
      obtain ⟨b5, e5⟩ : ∃ x, okBody fb = x := ⟨_, rfl⟩
      rw [e1, e2, e3, e4, e5] at Hok
      have hc : (okStore cs = false ∧ (b1 = false ∨ (b1 = true ∧ b2 = false) ∨ (b1 = true ∧ b2 = true ∧ b3 = false) ∨ (b1 = true ∧ b2 = true ∧ b3 = true ∧ b4 = false) ∨ (b1 = true ∧ b2 = true ∧ b3 = true ∧ b4 = true ∧ b5 = false))) ∨
          (b1 = true ∧ b2 = true ∧ b3 = true ∧ b4 = true ∧ b5 = true) := by
        have ho := Hok.out
        cases b1
        · exact .inl ⟨Hn.out ho, .inl rfl⟩
        cases b2
        · exact .inl ⟨Hn.out ho, .inr (.inl ⟨rfl, rfl⟩)⟩
        cases b3
        · exact .inl ⟨Hn.out ho, .inr (.inr (.inl ⟨rfl, rfl, rfl⟩))⟩
        cases b4
        · exact .inl ⟨Hn.out ho, .inr (.inr (.inr (.inl ⟨rfl, rfl, rfl, rfl⟩)))⟩
        cases b5
        · exact .inl ⟨Hn.out ho, .inr (.inr (.inr (.inr ⟨rfl, rfl, rfl, rfl, rfl⟩)))⟩
        exact .inr ⟨rfl, rfl, rfl, rfl, rfl⟩
      rcases hc with ⟨hv, hc⟩ | ⟨rfl, rfl, rfl, rfl, rfl⟩
      · have Hv := Lib.hid hv
        have cS : True := trivial
        have cH : True := trivial
        clear hv Hok
        rcases hc with rfl | ⟨rfl, rfl⟩ | ⟨rfl, rfl, rfl⟩ | ⟨rfl, rfl, rfl, rfl⟩ | ⟨rfl, rfl, rfl, rfl, rfl⟩
        all_goals
          refine wp_region_quiet_below (by kernel_rfl) (by kernel_rfl) ?_
          repeat (go_big_quiet_step (first | exact cR _ _ _ _ _ | exact cV _ _ | exact cB _ _ | exact cA _ _))
          refine wpQuiet_nil ?_
          intro _ hw'
          obtain ⟨⟨dq, osq⟩, hw2⟩ := hw'
          subst hw2
          have Hb7 := Lib.hid (bt (bt Hbe.out Hb1.out) (below_regrown W1 dq osq))
          clear cR cV cB cA k0 k1 k2 k3 k4 k5 k6 k7
          go_wp2_with fail
          go_ret
          rw [Hv.out]
          exact ⟨rfl, Hb7.out⟩
      · have cS : ∀ d os, Calls Try.prog 116 #[.slice ba fb.length bc] (grow (redrawn W1 d) os) fun e w'' => e = .returned (.int .i64 (sizeSum fb : Nat)) ∧ ∃ p : Regrown, w'' = grow (redrawn W1 p.d) p.os := fun d os =>
          Calls.regrown_of (spec_sizeOf _ fb D _ (Hbody.out.below (bt Hb1.out (below_regrown W1 d os))) Hz3.out e5)
        have cH : ∀ d os, Calls Try.prog 117 #[.slice ba fb.length bc] (grow (redrawn W1 d) os) fun e w'' => e = .returned (.int .i64 (hashOf fb)) ∧ ∃ p : Regrown, w'' = grow (redrawn W1 p.d) p.os := fun d os =>
          Calls.regrown_of (spec_hashOf _ fb D _ (Hbody.out.below (bt Hb1.out (below_regrown W1 d os))) Hz3.out e5)
        generalize ((sizeSum fb : Nat) : Int) = sz at *
        generalize hashOf fb = hs at *
        by_cases hgood : x5 = sz ∧ x6 = hs ∧ ¬ n0 < (k : Int)
        · obtain ⟨h6, h7, h8⟩ := hgood
          have Hok2 := Lib.hid (show okCmp ⟨x0, x1, x2, x3, x4, x5, x6, fb⟩ = true by rw [Hok.out]; simp [h6, h7])
          have H8 := Lib.hid (show (k : Int) ≤ n0 by omega)
          have h8b := eq_false h8
          clear Hok h8
          refine wp_region_quiet_below (by kernel_rfl) (by kernel_rfl) ?_
          repeat (go_big_quiet_step (first | exact cR _ _ _ _ _ | exact cV _ _ | exact cB _ _ | exact cS _ _ | exact cH _ _ | exact cA _ _))
          refine wpQuiet_nil ?_
          intro _ hw'
          obtain ⟨⟨dq, osq⟩, hw2⟩ := hw'
          subst hw2
          have Hb7 := Lib.hid (bt (bt Hbe.out Hb1.out) (below_regrown W1 dq osq))
          clear cR cV cB cA cS cH k0 k1 k2 k3 k4 k5 k6 k7
          go_wp2_with fail
          go_roundw
          case rel =>
            refine ⟨k + 1, by omega, by go_num, Hb7.out, fun i h1 hi => ?_, fun i h1 hi => ?_⟩
            · by_cases e : i = k
              · subst e; rw [← Hf.out]; exact Hok2.out
              · exact Ha.out i h1 (by omega)
            · by_cases e : i = k
              · subst e; rw [← Hf.out, ← Hq.out]; exact H8.out
              · exact Hd.out i h1 (by omega)
          case measure => simp [intOf]; omega
        · have Hv := Lib.hid (show okStore cs = false by
            by_cases h8 : n0 < (k : Int)
            · exact okStore_dup (Hu.out (by rw [← Hq.out]; exact h8))
            · refine Hn.out ?_
              rw [Hok.out]
              by_cases h6 : x5 = sz
              · by_cases h7 : x6 = hs
                · exact absurd ⟨h6, h7, h8⟩ hgood
                · simp [h7]
              · simp [h6])
          have hc : ¬ x5 = sz ∨ (x5 = sz ∧ ¬ x6 = hs) ∨ (x5 = sz ∧ x6 = hs ∧ n0 < (k : Int)) := by
            by_cases h6 : x5 = sz
            · by_cases h7 : x6 = hs
              · by_cases h8 : n0 < (k : Int)
                · exact .inr (.inr ⟨h6, h7, h8⟩)
                · exact absurd ⟨h6, h7, h8⟩ hgood
              · exact .inr (.inl ⟨h6, h7⟩)
            · exact .inl h6
          clear Hok hgood
          rcases hc with h6 | ⟨h6, h7⟩ | ⟨h6, h7, h8⟩
          all_goals
            try have h6b := eq_false h6
            try have h7b := eq_false h7
            try have h6c : (x5 != sz) = true := by simp [h6]
            try have h7c : (x6 != hs) = true := by simp [h7]
            try have h8b := eq_true h8
            refine wp_region_quiet_below (by kernel_rfl) (by kernel_rfl) ?_
            repeat (go_big_quiet_step (first | exact cR _ _ _ _ _ | exact cV _ _ | exact cB _ _ | exact cS _ _ | exact cH _ _ | exact cA _ _))
            refine wpQuiet_nil ?_
            intro _ hw'
            obtain ⟨⟨dq, osq⟩, hw2⟩ := hw'
            subst hw2
            have Hb7 := Lib.hid (bt (bt Hbe.out Hb1.out) (below_regrown W1 dq osq))
            clear cR cV cB cA cS cH k0 k1 k2 k3 k4 k5 k6 k7
            go_wp2_with fail
            go_ret
            rw [Hv.out]
            exact ⟨rfl, Hb7.out⟩
    · have hv := Lib.hid (okStore_all (fun i h => Ha.out i h (by omega)) (keys_nodup (fun i h => Hd.out i h (by omega))))
      go_wp2_with fail
      go_ret
      refine ⟨ret_bool ?_, hbel⟩
      rw [hv.out]
      try simp
      try omega
set_option maxRecDepth 100000 in
set_option maxHeartbeats 400000 in
theorem spec_ValidStore (v : Value) (cs : List Cmp) (D : Nat → Prop) (w : World) (hr : CmpsIn w D v cs) (hz : ShortCs 2000000 cs) :
    Calls Try.prog 32 #[v] w fun e w' => e = .returned (.bool (okStore cs)) ∧ Below w.heap.size w w' := by
  have Hr := Lib.hid hr
  obtain ⟨aa, ca, rfl, hl, hm⟩ := hr.len
  have Hz := Lib.hid hz
  clear hr hz hm
  go_enter Try.func32, Try.ntmps32
  go_wp2_with (go_at_call 58; refine (spec_validStore _ cs D _ (Hr.out.below (by (repeat (with_reducible first | exact Below.refl _ _ | assumption | refine ba ?_ _ | refine bd ?_ | refine bdN ?_ _ | refine bs ?_ (by first | exact Nat.le_refl _ | (dsimp only; omega) | (simp; done)) _ | refine bt ?_ (by assumption))))) Hz.out).mono ?_; (rintro _ _ ⟨rfl, hb⟩; obtain ⟨hc, hf, hs⟩ := bcell hb))
  go_ret
  exact ⟨rfl, by (repeat (with_reducible first | exact Below.refl _ _ | assumption | refine ba ?_ _ | refine bd ?_ | refine bdN ?_ _ | refine bs ?_ (by first | exact Nat.le_refl _ | (dsimp only; omega) | (simp; done)) _ | refine bt ?_ (by assumption)))⟩
end Go.Proofs.Ytomdmkhgkaalnaa
