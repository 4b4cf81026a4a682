/- Contracts of the functions that say whether a store is valid. -/
import Derived.Test.YtomdmkhgkaalnaaStores
set_option linter.unusedVariables false
set_option linter.unusedSimpArgs false
namespace Go.Proofs.Ytomdmkhgkaalnaa
open Go.RowKit Go.Proofs.Ytomdmkhgkaalnaa.Nm
open Go.Sort (grow)

set_option maxRecDepth 100000 in
set_option maxHeartbeats 400000 in
theorem impl_validMode (n : Int) (w : World) : Calls Try.prog 100 #[.int .i64 n] w fun e w' => e = .returned (.bool (inr n 0 2)) ∧ w = w' := by
  go_enter Try.func100, Try.ntmps100
  go_wp2_with (go_at_call 128; refine (impl_inRange _ _ _).mono ?_; rintro _ _ ⟨rfl, rfl⟩)
  go_ret
  exact ⟨rfl, rfl⟩
theorem size_eq {b : List Stm} (h : okBody b = true) : bodySize b = (sizeSum b : Int) := by unfold bodySize; rw [if_pos h]
set_option maxRecDepth 100000 in
set_option maxHeartbeats 2000000 in
theorem impl_validCompiled (x0 : Int) (x1 : Bs) (x2 : Bool) (x3 x4 x5 x6 : Int) (bv : Value) (fb : List Stm) (D : Nat → Prop) (w : World) (hr : StmsIn w D bv fb) (hz : Short 8000000 fb) (hn : x1.length ≤ 8000000) :
    Calls Try.prog 82 #[.agg #[.int .i64 x0, .string (mk x1), .bool x2, .int .i64 x3, .int .i64 x4, .int .i64 x5, .int .i64 x6, bv]] w fun e w' => e = .returned (.bool (okCmp ⟨x0, x1, x2, x3, x4, x5, x6, fb⟩)) ∧ Below w.heap.size w w' := by
  have Hr := Lib.hid hr
  have Hz := Lib.hid hz
  obtain ⟨ba, ca, rfl, hl, hm⟩ := hr.len
  clear hr hz hm
  have Hok := Lib.hid (show okCmp ⟨x0, x1, x2, x3, x4, x5, x6, fb⟩ = (inr x0 0 2 && vn x1 && inr x3 0 2 && inr x4 0 99 && okBody fb && decide (x5 = (sizeSum fb : Int)) && decide (x6 = hashOf fb)) from rfl)
  generalize okCmp ⟨x0, x1, x2, x3, x4, x5, x6, fb⟩ = ok at *
  go_enter Try.func82, Try.ntmps82
  go_wp2_with fail
  have hx := Boxed.start w #[.int .i64 x0, .string (mk x1), .bool x2, .int .i64 x3, .int .i64 x4, .int .i64 x5, .int .i64 x6, .slice ba fb.length ca] 53
  obtain ⟨W1, hW1⟩ : ∃ W1, W1 = w.alloc (.cells #[.int .i64 x0, .string (mk x1), .bool x2, .int .i64 x3, .int .i64 x4, .int .i64 x5, .int .i64 x6, .slice ba fb.length ca] 53) := ⟨_, rfl⟩
  rw [← hW1] at hx ⊢
  have hb := hx.below
  have Hb := Lib.hid hb
  have k0 := cell_regrown (show W1.cell? ⟨w.heap.size, 0, none⟩ = some (.int .i64 x0) from hx.cell 0)
  have k1 := cell_regrown (show W1.cell? ⟨w.heap.size, 1, none⟩ = some (.string (mk x1)) from hx.cell 1)
  have k2 := cell_regrown (show W1.cell? ⟨w.heap.size, 2, none⟩ = some (.bool x2) from hx.cell 2)
  have k3 := cell_regrown (show W1.cell? ⟨w.heap.size, 3, none⟩ = some (.int .i64 x3) from hx.cell 3)
  have k4 := cell_regrown (show W1.cell? ⟨w.heap.size, 4, none⟩ = some (.int .i64 x4) from hx.cell 4)
  have k5 := cell_regrown (show W1.cell? ⟨w.heap.size, 5, none⟩ = some (.int .i64 x5) from hx.cell 5)
  have k6 := cell_regrown (show W1.cell? ⟨w.heap.size, 6, none⟩ = some (.int .i64 x6) from hx.cell 6)
  have k7 := cell_regrown (show W1.cell? ⟨w.heap.size, 7, none⟩ = some (.slice ba fb.length ca) from hx.cell 7)
  clear hx hb hW1
  have cR1 : ∀ d os, Calls Try.prog 128 #[.int .i64 x0, .int .i64 2] (grow (redrawn W1 d) os) fun e w'' => e = .returned (.bool (inr x0 0 2)) ∧ ∃ p : Regrown, w'' = grow (redrawn W1 p.d) p.os := fun d os =>
    Calls.regrown_of (still_belowC (impl_inRange x0 2 _))
  have cR4 : ∀ d os, Calls Try.prog 128 #[.int .i64 x4, .int .i64 99] (grow (redrawn W1 d) os) fun e w'' => e = .returned (.bool (inr x4 0 99)) ∧ ∃ p : Regrown, w'' = grow (redrawn W1 p.d) p.os := fun d os =>
    Calls.regrown_of (still_belowC (impl_inRange x4 99 _))
  have cM : ∀ d os, Calls Try.prog 100 #[.int .i64 x3] (grow (redrawn W1 d) os) fun e w'' => e = .returned (.bool (inr x3 0 2)) ∧ ∃ p : Regrown, w'' = grow (redrawn W1 p.d) p.os := fun d os =>
    Calls.regrown_of (still_belowC (impl_validMode x3 _))
  have cV : ∀ d os, Calls Try.prog 126 #[.string (mk x1)] (grow (redrawn W1 d) os) fun e w'' => e = .returned (.bool (vn x1)) ∧ ∃ p : Regrown, w'' = grow (redrawn W1 p.d) p.os := fun d os =>
    Calls.regrown_of (impl_ValidName x1 _ hn)
  have cB : ∀ d os, Calls Try.prog 97 #[.slice ba fb.length ca] (grow (redrawn W1 d) os) fun e w'' => e = .returned (.bool (okBody fb)) ∧ ∃ p : Regrown, w'' = grow (redrawn W1 p.d) p.os := fun d os =>
    Calls.regrown_of (impl_ValidBody _ fb D _ (Hr.out.below (bt Hb.out (below_regrown W1 d os))) Hz.out)
  have cS : ∀ d os, Calls Try.prog 38 #[.slice ba fb.length ca] (grow (redrawn W1 d) os) fun e w'' => e = .returned (.int .i64 (bodySize fb)) ∧ ∃ p : Regrown, w'' = grow (redrawn W1 p.d) p.os := fun d os =>
    Calls.regrown_of (impl_SizeOf _ fb D _ (Hr.out.below (bt Hb.out (below_regrown W1 d os))) Hz.out)
  have cH : ∀ d os, Calls Try.prog 37 #[.slice ba fb.length ca] (grow (redrawn W1 d) os) fun e w'' => e = .returned (.int .i64 (hashOf fb)) ∧ ∃ p : Regrown, w'' = grow (redrawn W1 p.d) p.os := fun d os =>
    Calls.regrown_of (impl_HashOf _ fb D _ (Hr.out.below (bt Hb.out (below_regrown W1 d os))) Hz.out)
  obtain ⟨b1, e1⟩ : ∃ x, inr x0 0 2 = x := ⟨_, rfl⟩
  obtain ⟨b2, e2⟩ : ∃ x, vn x1 = x := ⟨_, rfl⟩
  obtain ⟨b3, e3⟩ : ∃ x, inr x3 0 2 = x := ⟨_, rfl⟩
  obtain ⟨b4, e4⟩ : ∃ x, inr x4 0 99 = x := ⟨_, rfl⟩
  obtain ⟨b5, e5⟩ : ∃ x, okBody fb = x := ⟨_, rfl⟩
  rw [e1, e2, e3, e4, e5] at Hok
  rw [e1] at cR1
  rw [e4] at cR4
  rw [e2] at cV
  rw [e3] at cM
  rw [e5] at cB
  have hc : (ok = false ∧ (b1 = false ∨ (b1 = true ∧ b2 = false) ∨ (b1 = true ∧ b2 = true ∧ b3 = false) ∨ (b1 = true ∧ b2 = true ∧ b3 = true ∧ b4 = false) ∨ (b1 = true ∧ b2 = true ∧ b3 = true ∧ b4 = true ∧ b5 = false) ∨
      (b1 = true ∧ b2 = true ∧ b3 = true ∧ b4 = true ∧ b5 = true ∧ ¬ x5 = bodySize fb) ∨ (b1 = true ∧ b2 = true ∧ b3 = true ∧ b4 = true ∧ b5 = true ∧ x5 = bodySize fb ∧ ¬ x6 = hashOf fb))) ∨
      (ok = true ∧ b1 = true ∧ b2 = true ∧ b3 = true ∧ b4 = true ∧ b5 = true ∧ x5 = bodySize fb ∧ x6 = hashOf fb) := by
    have ho := Hok.out
    cases b1
    · exact .inl ⟨ho, .inl rfl⟩
    cases b2
    · exact .inl ⟨ho, .inr (.inl ⟨rfl, rfl⟩)⟩
    cases b3
    · exact .inl ⟨ho, .inr (.inr (.inl ⟨rfl, rfl, rfl⟩))⟩
    cases b4
    · exact .inl ⟨ho, .inr (.inr (.inr (.inl ⟨rfl, rfl, rfl, rfl⟩)))⟩
    cases b5
    · exact .inl ⟨ho, .inr (.inr (.inr (.inr (.inl ⟨rfl, rfl, rfl, rfl, rfl⟩))))⟩
    rw [← size_eq e5] at ho
    by_cases h6 : x5 = bodySize fb
    · by_cases h7 : x6 = hashOf fb
      · exact .inr ⟨by rw [ho]; simp [h6, h7], rfl, rfl, rfl, rfl, rfl, h6, h7⟩
      · exact .inl ⟨by rw [ho]; simp [h7], .inr (.inr (.inr (.inr (.inr (.inr ⟨rfl, rfl, rfl, rfl, rfl, h6, h7⟩)))))⟩
    · exact .inl ⟨by rw [ho]; simp [h6], .inr (.inr (.inr (.inr (.inr (.inl ⟨rfl, rfl, rfl, rfl, rfl, h6⟩)))))⟩
  clear Hok
  rcases hc with ⟨rfl, hc⟩ | ⟨rfl, rfl, rfl, rfl, rfl, rfl, h6, h7⟩
  · rcases hc with rfl | ⟨rfl, rfl⟩ | ⟨rfl, rfl, rfl⟩ | ⟨rfl, rfl, rfl, rfl⟩ | ⟨rfl, rfl, rfl, rfl, rfl⟩ | ⟨rfl, rfl, rfl, rfl, rfl, h6⟩ | ⟨rfl, rfl, rfl, rfl, rfl, h6, h7⟩
    all_goals
      try have h6b := eq_false h6
      try have h7b := eq_false h7
      try have h6c : (x5 == bodySize fb) = false := by simp [h6]
      try have h7c : (x6 == hashOf fb) = false := by simp [h7]
      refine wp_region_quiet_below (by kernel_rfl) (by kernel_rfl) ?_
      repeat (go_big_quiet_step (first | with_reducible exact cR1 _ _ | with_reducible exact cR4 _ _ | exact cV _ _ | exact cM _ _ | exact cB _ _ | exact cS _ _ | exact cH _ _))
      refine wpQuiet_nil ?_
      intro _ hw'
      obtain ⟨⟨dq, osq⟩, hw2⟩ := hw'
      subst hw2
      have Hb7 := Lib.hid (bt Hb.out (below_regrown W1 dq osq))
      clear cR1 cR4 cV cM cB cS cH k0 k1 k2 k3 k4 k5 k6 k7
      go_wp2_with fail
      go_ret
      exact ⟨rfl, Hb7.out⟩
  · refine wp_region_quiet_below (by kernel_rfl) (by kernel_rfl) ?_
    repeat (go_big_quiet_step (first | with_reducible exact cR1 _ _ | with_reducible exact cR4 _ _ | exact cV _ _ | exact cM _ _ | exact cB _ _ | exact cS _ _ | exact cH _ _))
    refine wpQuiet_nil ?_
    intro _ hw'
    obtain ⟨⟨dq, osq⟩, hw2⟩ := hw'
    subst hw2
    have Hb7 := Lib.hid (bt Hb.out (below_regrown W1 dq osq))
    clear cR1 cR4 cV cM cB cS cH k0 k1 k2 k3 k4 k5 k6 k7
    go_wp2_with fail
    go_ret
    exact ⟨rfl, Hb7.out⟩
theorem sourceOf_at {l : List Cmp} {c : Cmp} (hl : ∀ x ∈ l, vn x.module = true) (hc : vn c.module = true) : keyAt sourceOf l (sourceOf c) = keyAt cplace l (cplace c) :=
  keyAt_map (key := cplace) (f := srcPlace) (fun x hx => srcPlace_iff (hl x hx) hc)
set_option maxRecDepth 100000 in
set_option maxHeartbeats 2000000 in
theorem impl_ValidStore (v : Value) (cs : List Cmp) (D : Nat → Prop) (w : World) (hr : CmpsIn w D v cs) (hz : ShortCs 2000000 cs) :
    Calls Try.prog 31 #[v] w fun e w' => e = .returned (.bool (okStore cs)) ∧ Below w.heap.size w w' := by
  have Hr := Lib.hid hr
  have Hz := Lib.hid (shortCs_mono (B := 8000000) (by omega) hz)
  obtain ⟨aa, ca, rfl, hl, hm⟩ := hr.len
  unfold maxLen at hm
  clear hr hz
  by_cases h12 : (12 : Int) < (cs.length : Int)
  · have Hv := Lib.hid (okStore_long (show 12 < cs.length by omega))
    go_enter Try.func31, Try.ntmps31
    go_wp2_with fail
    go_ret
    rw [Hv.out]
    exact ⟨rfl, by (repeat (with_reducible first | exact Below.refl _ _ | assumption | refine ba ?_ _ | refine bd ?_ | refine bdN ?_ _ | refine bs ?_ (by first | exact Nat.le_refl _ | (dsimp only; omega) | (simp; done)) _ | refine bt ?_ (by assumption)))⟩
  · go_enter Try.func31, Try.ntmps31
    go_wp2_with fail
    go_loopw [10] (fun iv wr => ∃ k : Nat, k ≤ cs.length ∧ iv = .int .i64 k ∧ Below w.heap.size w wr ∧ (∀ i (h : i < cs.length), i < k → okCmp cs[i] = true) ∧ ∀ i (h : i < cs.length), i < k → keyAt cplace (cs.take i) (cplace cs[i]) = -1) (fun iv _ => cs.length - (intOf iv).toNat)
    case atStart => exact ⟨0, by omega, rfl, Below.refl _ _, fun i _ h => absurd h (by omega), fun i _ h => absurd h (by omega)⟩
    case round =>
      obtain ⟨k, hk, rfl, hbel, ha, hd⟩ := hrel
      have Ha := Lib.hid ha
      have Hd := Lib.hid hd
      clear ha hd
      by_cases hlt : k < cs.length
      · have Htk := Lib.hid ((Hr.out.below hbel).take k hk)
        have Hzt := Lib.hid (show ShortCs 8000000 (cs.take k) from fun c hc => Hz.out c (List.mem_of_mem_take hc))
        obtain ⟨b, off, cap, bv, e, hD, hb, hbody, c0, c1, c2, c3, c4, c5, c6, c7⟩ := (Hr.out.below hbel).at_ hlt
        simp only [Value.slice.injEq] at e
        obtain ⟨rfl, _, rfl⟩ := e
        obtain ⟨ba, bc, rfl, hbl, hbm⟩ := hbody.len
        obtain ⟨z1, z3⟩ := Hz.out _ (List.getElem_mem hlt)
        have Hbody := Lib.hid hbody
        have Hz3 := Lib.hid z3
        have Hn := Lib.hid (okStore_no k hlt)
        have Hu := Lib.hid (keys_dup' (key := cplace) k hlt)
        have Hvn := Lib.hid (show ∀ x ∈ cs.take k, vn x.module = true from fun x hx => by
          obtain ⟨i, hi, rfl⟩ := List.getElem_of_mem hx
          rw [List.length_take] at hi
          rw [List.getElem_take]
          exact okCmp_vn (Ha.out i (by omega) (by omega)))
        obtain ⟨f, hf⟩ : ∃ f, f = cs[k] := ⟨_, rfl⟩
        rw [← hf] at c0 c1 c2 c3 c4 c5 c6 c7 z1 Hz3 Hbody Hn Hu
        have Hf := Lib.hid hf
        have Hbe := Lib.hid hbel
        clear hf hbody z3 hbm hbl
        obtain ⟨x0, x1, x2, x3, x4, x5, x6, fb⟩ := f
        dsimp only at c0 c1 c2 c3 c4 c5 c6 c7 z1
        go_wp2_with fail
        have hx := Boxed.start wr #[.int .i64 x0, .string (mk x1), .bool x2, .int .i64 x3, .int .i64 x4, .int .i64 x5, .int .i64 x6, .slice ba fb.length bc] 53
        obtain ⟨W1, hW1⟩ : ∃ W1, W1 = wr.alloc (.cells #[.int .i64 x0, .string (mk x1), .bool x2, .int .i64 x3, .int .i64 x4, .int .i64 x5, .int .i64 x6, .slice ba fb.length bc] 53) := ⟨_, rfl⟩
        rw [← hW1] at hx ⊢
        have hb1 := hx.below
        have Hb1 := Lib.hid hb1
        have k0 := cell_regrown (show W1.cell? ⟨wr.heap.size, 0, none⟩ = some (.int .i64 x0) from hx.cell 0)
        have k1 := cell_regrown (show W1.cell? ⟨wr.heap.size, 1, none⟩ = some (.string (mk x1)) from hx.cell 1)
        have k2 := cell_regrown (show W1.cell? ⟨wr.heap.size, 2, none⟩ = some (.bool x2) from hx.cell 2)
        have k3 := cell_regrown (show W1.cell? ⟨wr.heap.size, 3, none⟩ = some (.int .i64 x3) from hx.cell 3)
        have k4 := cell_regrown (show W1.cell? ⟨wr.heap.size, 4, none⟩ = some (.int .i64 x4) from hx.cell 4)
        have k5 := cell_regrown (show W1.cell? ⟨wr.heap.size, 5, none⟩ = some (.int .i64 x5) from hx.cell 5)
        have k6 := cell_regrown (show W1.cell? ⟨wr.heap.size, 6, none⟩ = some (.int .i64 x6) from hx.cell 6)
        have k7 := cell_regrown (show W1.cell? ⟨wr.heap.size, 7, none⟩ = some (.slice ba fb.length bc) from hx.cell 7)
        clear hx hb1 hW1 c0 c1 c2 c3 c4 c5 c6 c7
        have cV : ∀ d os, Calls Try.prog 82 #[.agg #[.int .i64 x0, .string (mk x1), .bool x2, .int .i64 x3, .int .i64 x4, .int .i64 x5, .int .i64 x6, .slice ba fb.length bc]] (grow (redrawn W1 d) os) fun e w'' => e = .returned (.bool (okCmp ⟨x0, x1, x2, x3, x4, x5, x6, fb⟩)) ∧ ∃ p : Regrown, w'' = grow (redrawn W1 p.d) p.os := fun d os =>
          Calls.regrown_of (impl_validCompiled _ _ _ _ _ _ _ _ fb D _ (Hbody.out.below (bt Hb1.out (below_regrown W1 d os))) Hz3.out z1)
        have cP : ∀ d os, Calls Try.prog 68 #[.agg #[.int .i64 x0, .string (mk x1), .bool x2, .int .i64 x3, .int .i64 x4, .int .i64 x5, .int .i64 x6, .slice ba fb.length bc]] (grow (redrawn W1 d) os) fun e w'' => e = .returned (plVal (srcPlace (x0, x1, x2))) ∧ ∃ p : Regrown, w'' = grow (redrawn W1 p.d) p.os := fun d os =>
          Calls.regrown_of (impl_placeOfSource _ _ _ _ _ _ _ _ _ z1)
        have cA : ∀ d os, Calls Try.prog 83 #[.slice (some ⟨b, off, none⟩) k ca, plVal (srcPlace (x0, x1, x2))] (grow (redrawn W1 d) os) fun e w'' => e = .returned (.int .i64 (keyAt sourceOf (cs.take k) (srcPlace (x0, x1, x2)))) ∧ ∃ p : Regrown, w'' = grow (redrawn W1 p.d) p.os := fun d os =>
          Calls.regrown_of (impl_compiledAt _ (cs.take k) D _ _ _ rfl (Htk.out.below (bt Hb1.out (below_regrown W1 d os))) Hzt.out)
        have Hsrc := Lib.hid (fun (h : vn x1 = true) => (show keyAt sourceOf (cs.take k) (srcPlace (x0, x1, x2)) = keyAt cplace (cs.take k) (cplace ⟨x0, x1, x2, x3, x4, x5, x6, fb⟩) from sourceOf_at (c := ⟨x0, x1, x2, x3, x4, x5, x6, fb⟩) Hvn.out h))
        have hk1 : (k : Int) < (cs.length : Int) := by omega
        have hk0 : (0 : Int) ≤ (k : Int) := by omega
        generalize keyAt sourceOf (cs.take k) (srcPlace (x0, x1, x2)) = n0 at *
        cases hok : okCmp ⟨x0, x1, x2, x3, x4, x5, x6, fb⟩
        · have Hv := Lib.hid (Hn.out hok)
          rw [hok] at cV
          clear hok
          refine wp_region_quiet_below (by kernel_rfl) (by kernel_rfl) ?_
          repeat (go_big_quiet_step (first | exact cV _ _ | exact cP _ _ | exact cA _ _))
          refine wpQuiet_nil ?_
          intro _ hw'
          obtain ⟨⟨dq, osq⟩, hw2⟩ := hw'
          subst hw2
          have Hb7 := Lib.hid (bt (bt Hbe.out Hb1.out) (below_regrown W1 dq osq))
          clear cV cP cA k0 k1 k2 k3 k4 k5 k6 k7
          go_wp2_with fail
          go_ret
          rw [Hv.out]
          exact ⟨rfl, Hb7.out⟩
        · have Hok := Lib.hid hok
          have Hs := Lib.hid (Hsrc.out (okCmp_vn hok))
          rw [hok] at cV
          clear hok
          by_cases hn : n0 = -1
          · subst hn
            refine wp_region_quiet_below (by kernel_rfl) (by kernel_rfl) ?_
            repeat (go_big_quiet_step (first | exact cV _ _ | exact cP _ _ | exact cA _ _))
            refine wpQuiet_nil ?_
            intro _ hw'
            obtain ⟨⟨dq, osq⟩, hw2⟩ := hw'
            subst hw2
            have Hb7 := Lib.hid (bt (bt Hbe.out Hb1.out) (below_regrown W1 dq osq))
            clear cV cP cA k0 k1 k2 k3 k4 k5 k6 k7
            go_wp2_with fail
            go_roundw
            case rel =>
              refine ⟨k + 1, by omega, by go_num, Hb7.out, fun i h1 hi => ?_, fun i h1 hi => ?_⟩
              · by_cases e : i = k
                · subst e; rw [← Hf.out]; exact Hok.out
                · exact Ha.out i h1 (by omega)
              · by_cases e : i = k
                · subst e; rw [← Hf.out]; exact Hs.out.symm
                · exact Hd.out i h1 (by omega)
            case measure => simp [intOf]; omega
          · have hnb : (n0 == -1) = false := by rw [beq_eq_false_iff_ne]; exact hn
            have hnc := eq_false hn
            have Hv := Lib.hid (okStore_dup (Hu.out (by rw [← Hs.out]; exact hn)))
            refine wp_region_quiet_below (by kernel_rfl) (by kernel_rfl) ?_
            repeat (go_big_quiet_step (first | exact cV _ _ | exact cP _ _ | exact cA _ _))
            refine wpQuiet_nil ?_
            intro _ hw'
            obtain ⟨⟨dq, osq⟩, hw2⟩ := hw'
            subst hw2
            have Hb7 := Lib.hid (bt (bt Hbe.out Hb1.out) (below_regrown W1 dq osq))
            clear cV cP cA k0 k1 k2 k3 k4 k5 k6 k7
            go_wp2_with fail
            go_ret
            rw [Hv.out]
            exact ⟨rfl, Hb7.out⟩
      · have hv := Lib.hid (okStore_all (fun i h => Ha.out i h (by omega)) (keys_nodup' (fun i h => Hd.out i h (by omega))))
        have hlen : cs.length ≤ 12 := by omega
        have Hlen := Lib.hid (decide_eq_true hlen)
        go_wp2_with fail
        go_ret
        rw [hv.out, Hlen.out]
        exact ⟨rfl, hbel⟩
end Go.Proofs.Ytomdmkhgkaalnaa
