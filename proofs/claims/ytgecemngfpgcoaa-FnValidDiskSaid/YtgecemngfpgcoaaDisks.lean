/- Contracts of the functions that say whether disks and finders are valid, and of the stamps of directories. -/
import Derived.Test.YtgecemngfpgcoaaDirMem
import Derived.Test.YtgecemngfpgcoaaTrees
import Derived.Test.YtgecemngfpgcoaaKin
import Derived.Test.YtgecemngfpgcoaaHash
set_option linter.unusedVariables false
set_option linter.unusedSimpArgs false
namespace Go.Proofs.Ytgecemngfpgcoaa
open Go.RowKit Go.Proofs.Ytgecemngfpgcoaa.Nm
open Go.Sort (grow)

/-- The front of a row of directories. -/
theorem dirs_take {w : World} {D : Nat → Prop} {a : Option Addr} {cap n : Nat} {ds : List Dr} (h : DirsIn w D (.slice a n cap) ds) (k : Nat) (hk : k ≤ ds.length) : DirsIn w D (.slice a k cap) (ds.take k) := by
  obtain ⟨a', cap', h1, h2, h3, h4⟩ := h
  simp only [Value.slice.injEq] at h1
  obtain ⟨rfl, _, rfl⟩ := h1
  have hl : (ds.take k).length = k := by rw [List.length_take]; omega
  refine ⟨a, cap, by rw [hl], by omega, h3, fun hx => ?_⟩
  obtain ⟨b, off, e1, e2, e3, e4⟩ := h4 (by omega)
  refine ⟨b, off, e1, e2, e3, fun i hi => ?_⟩
  rw [hl] at hi
  have := e4 i (by omega)
  simpa only [List.getElem_take] using this
/-- The place of a directory, and the directory of a number, as values. -/
def dpVal (p : DPl) : Value := .agg #[.int .i64 p.1, .string (mk p.2)]
def dirPtr (a : Option Addr) (i : Int) : Value := if i < 0 then .pointer none else match a with | some x => .pointer (some ⟨x.block, x.off + i.toNat * 4, none⟩) | none => .pointer none
theorem dirPtr_no (a : Option Addr) : dirPtr a (-1) = .pointer none := rfl
theorem dirPtr_yes (b off k : Nat) : dirPtr (some ⟨b, off, none⟩) (k : Int) = .pointer (some ⟨b, off + k * 4, none⟩) := by
  unfold dirPtr; rw [if_neg (by omega)]; simp

set_option maxRecDepth 100000 in
set_option maxHeartbeats 400000 in
theorem impl_validDirPlace (r : Int) (p : Bs) (w : World) (hp : p.length ≤ 8000000) :
    Calls Try.prog 55 #[.agg #[.int .i64 r, .string (mk p)]] w fun e w' => e = .returned (.bool (inr r 0 2 && vpk p)) ∧ Below w.heap.size w w' := by
  go_enter Try.func55, Try.ntmps55
  go_wp2_with (first | (go_at_call 57; refine (impl_inRange _ _ _).mono ?_; rintro _ _ ⟨rfl, rfl⟩) | (go_at_call 93; refine (impl_validPackage _ _ (by omega)).mono ?_; (rintro _ _ ⟨rfl, hb⟩; obtain ⟨hc, hf, hs⟩ := bcell hb)))
  all_goals (go_ret; refine ⟨ret_bool ?_, by (repeat (with_reducible first | exact Below.refl _ _ | assumption | refine ba ?_ _ | refine bd ?_ | refine bdN ?_ _ | refine bs ?_ (by first | exact Nat.le_refl _ | (dsimp only; omega) | (simp; done)) _ | refine bt ?_ (by assumption)))⟩; simp_all)
set_option maxRecDepth 100000 in
set_option maxHeartbeats 400000 in
theorem impl_placeOfDir (r st : Int) (p : Bs) (nv : Value) (w : World) :
    Calls Try.prog 95 #[.agg #[.int .i64 r, .string (mk p), .int .i64 st, nv]] w fun e w' => e = .returned (dpVal (r, p)) ∧ Below w.heap.size w w' := by
  go_enter Try.func95, Try.ntmps95
  go_wp2_with fail
  exact bodyPost_ret (v := dpVal (r, p)) (by simp [results, Try.results95, go_sem, dpVal]) rfl ⟨rfl, by (repeat (with_reducible first | exact Below.refl _ _ | assumption | refine ba ?_ _ | refine bd ?_ | refine bdN ?_ _ | refine bs ?_ (by first | exact Nat.le_refl _ | (dsimp only; omega) | (simp; done)) _ | refine bt ?_ (by assumption)))⟩
theorem dpEq (x y : DPl) (w : World) : (binOp .eql 92 (dpVal x) (dpVal y)).run Try.prog w = .ok (.bool (decide (x = y))) w := by
  obtain ⟨a, b⟩ := x
  obtain ⟨a', b'⟩ := y
  by_cases h1 : a = a' <;> by_cases h2 : b = b' <;> simp [dpVal, go_sem, h1, h2, Try.underlying92, Try.underlying3, Try.underlying9]
set_option maxRecDepth 100000 in
set_option maxHeartbeats 1000000 in
theorem impl_dirAt (a : Option Addr) (n cap : Nat) (ds : List Dr) (D : Nat → Prop) (p : DPl) (w : World) (hr : DirsIn w D (.slice a n cap) ds) :
    Calls Try.prog 94 #[.slice a n cap, dpVal p] w fun e w' => e = .returned (dirPtr a (dirAt ds p)) ∧ Below w.heap.size w w' := by
  have Hr := Lib.hid hr
  obtain ⟨aa, ca, e, hl, hm⟩ := hr.len
  simp only [Value.slice.injEq] at e
  obtain ⟨rfl, rfl, rfl⟩ := e
  unfold maxLen at hm
  clear hr
  obtain ⟨pr, pp⟩ := p
  unfold dpVal
  dsimp only
  go_enter Try.func94, Try.ntmps94
  go_wp2_with fail
  go_loopw [8] (fun iv wr => ∃ k : Nat, k ≤ ds.length ∧ iv = .int .i64 k ∧ Boxed w #[.int .i64 pr, .string (mk pp)] 92 wr ∧ ∀ j (h : j < ds.length), j < k → dplace ds[j] ≠ (pr, pp)) (fun iv _ => ds.length - (intOf iv).toNat)
  case atStart => exact ⟨0, by omega, rfl, Boxed.start _ _ _, fun i _ h => absurd h (by omega)⟩
  case round =>
    obtain ⟨k, hk, rfl, hbx, ha⟩ := hrel
    have hbel := hbx.below
    have hA : wr.cell? ⟨w.heap.size, 0, none⟩ = some (.int .i64 pr) := hbx.cell 0
    have hB : wr.cell? ⟨w.heap.size, 1, none⟩ = some (.string (mk pp)) := hbx.cell 1
    have Hbx := Lib.hid hbx
    have Ha := Lib.hid ha
    clear ha hbx
    by_cases hlt : k < ds.length
    · obtain ⟨b, off, cap, bv, e, hD, hb, hbody, c0, c1, c2, c3⟩ := (Hr.out.below hbel).at_ hlt
      simp only [Value.slice.injEq] at e
      obtain ⟨rfl, _, rfl⟩ := e
      obtain ⟨ba', bc', rfl, hbl, hbm⟩ := hbody.len
      clear hbody hbl hbm
      obtain ⟨bn', hbn⟩ : ∃ bn', bn' = ds[k].names.length := ⟨_, rfl⟩
      rw [← hbn] at c3
      clear hbn
      have Hy := Lib.hid (keyAt_yes (key := dplace) ds k hlt (pr, pp) (fun j h1 h2 => Ha.out j h1 h2))
      obtain ⟨f, hf⟩ : ∃ f, f = ds[k] := ⟨_, rfl⟩
      rw [← hf] at c0 c1 c2 Hy
      have Hn := Lib.hid (fun (h : dplace f ≠ (pr, pp)) => (show dplace ds[k] ≠ (pr, pp) by rw [← hf]; exact h))
      clear hf
      obtain ⟨fr, fp, fst, fb⟩ := f
      dsimp only at c0 c1 c2
      have Hbe := Lib.hid hbel
      have hsz := Hbx.out.lt
      have kA := cell_regrown hA
      have kB := cell_regrown hB
      have k0 := cell_regrown c0
      have k1 := cell_regrown c1
      have k2 := cell_regrown c2
      have k3 := cell_regrown c3
      have qE := fun w => dpEq (fr, fp) (pr, pp) w
      unfold dpVal at qE
      dsimp only at qE
      have Hq := Lib.hid (show decide ((fr, fp) = (pr, pp)) = decide (dplace ⟨fr, fp, fst, fb⟩ = (pr, pp)) from rfl)
      have cP : ∀ d os, Calls Try.prog 95 #[.agg #[.int .i64 fr, .string (mk fp), .int .i64 fst, .slice ba' bn' bc']] (grow (redrawn wr d) os) fun e w'' => e = .returned (.agg #[.int .i64 fr, .string (mk fp)]) ∧ ∃ p : Regrown, w'' = grow (redrawn wr p.d) p.os := fun d os =>
        Calls.regrown_of (impl_placeOfDir fr fst fp _ (grow (redrawn wr d) os))
      clear c0 c1 c2 c3 hA hB
      generalize decide ((fr, fp) = (pr, pp)) = cc at *
      cases cc
      · have hne := Lib.hid (Hn.out (of_decide_eq_false Hq.out.symm))
        go_wp2_with fail
        refine wp_region_quiet_below (by kernel_rfl) (by kernel_rfl) ?_
        repeat (go_big_quiet_step (exact cP _ _))
        refine wpQuiet_nil ?_
        intro _ hw'
        obtain ⟨⟨dq, osq⟩, hw2⟩ := hw'
        subst hw2
        have Hb8 := Lib.hid (below_regrown wr dq osq)
        clear cP kA kB k0 k1 k2 k3 qE
        go_wp2_with fail
        go_roundw
        case rel =>
          refine ⟨k + 1, by omega, by go_num, Hbx.out.step Hb8.out, fun i h1 hi => ?_⟩
          by_cases e : i = k
          · subst e; exact hne.out
          · exact Ha.out i h1 (by omega)
        case measure => simp [intOf]; omega
      · have hv := Lib.hid (Hy.out (of_decide_eq_true Hq.out.symm))
        go_wp2_with fail
        refine wp_region_quiet_below (by kernel_rfl) (by kernel_rfl) ?_
        repeat (go_big_quiet_step (exact cP _ _))
        refine wpQuiet_nil ?_
        intro _ hw'
        obtain ⟨⟨dq, osq⟩, hw2⟩ := hw'
        subst hw2
        have Hb8 := Lib.hid (bt Hbe.out (below_regrown wr dq osq))
        clear cP kA kB k0 k1 k2 k3 qE
        go_wp2_with fail
        go_ret
        rw [show dirAt ds (pr, pp) = (k : Int) from hv.out, dirPtr_yes]
        exact ⟨by simp, Hb8.out⟩
    · have hv := Lib.hid (keyAt_no (key := dplace) ds (pr, pp) (fun j h => Ha.out j h (by omega)))
      go_wp2_with fail
      go_ret
      rw [show dirAt ds (pr, pp) = -1 from hv.out, dirPtr_no]
      exact ⟨rfl, hbel⟩

set_option maxRecDepth 100000 in
set_option maxHeartbeats 1000000 in
theorem spec_dirAt (a : Option Addr) (n cap : Nat) (ds : List Dr) (D : Nat → Prop) (r : Int) (p : Bs) (w : World) (hr : DirsIn w D (.slice a n cap) ds) :
    Calls Try.prog 116 #[.slice a n cap, .int .i64 r, .string (mk p)] w fun e w' => e = .returned (.int .i64 (dirAt ds (r, p))) ∧ Below w.heap.size w w' := by
  have Hr := Lib.hid hr
  obtain ⟨aa, ca, e, hl, hm⟩ := hr.len
  simp only [Value.slice.injEq] at e
  obtain ⟨rfl, rfl, rfl⟩ := e
  unfold maxLen at hm
  clear hr
  go_enter Try.func116, Try.ntmps116
  go_wp2_with fail
  go_loopw [7] (fun iv wr => ∃ k : Nat, k ≤ ds.length ∧ iv = .int .i64 k ∧ Below w.heap.size w wr ∧ ∀ j (h : j < ds.length), j < k → dplace ds[j] ≠ (r, p)) (fun iv _ => ds.length - (intOf iv).toNat)
  case atStart => exact ⟨0, by omega, rfl, Below.refl _ _, fun i _ h => absurd h (by omega)⟩
  case round =>
    obtain ⟨k, hk, rfl, hbel, ha⟩ := hrel
    have Ha := Lib.hid ha
    clear ha
    by_cases hlt : k < ds.length
    · obtain ⟨b, off, cap, bv, e, hD, hb, hbody, c0, c1, c2, c3⟩ := (Hr.out.below hbel).at_ hlt
      simp only [Value.slice.injEq] at e
      obtain ⟨rfl, _, rfl⟩ := e
      clear hbody
      have Hy := Lib.hid (keyAt_yes (key := dplace) ds k hlt (r, p) (fun j h1 h2 => Ha.out j h1 h2))
      obtain ⟨f, hf⟩ : ∃ f, f = ds[k] := ⟨_, rfl⟩
      rw [← hf] at c0 c1 c2 Hy
      have Hn := Lib.hid (fun (h : dplace f ≠ (r, p)) => (show dplace ds[k] ≠ (r, p) by rw [← hf]; exact h))
      clear hf c2 c3
      obtain ⟨fr, fp, fst, fb⟩ := f
      dsimp only at c0 c1
      go_wp2_with fail
      all_goals first
        | (go_ret
           refine ⟨ret_i64 ?_, by (repeat (with_reducible first | exact Below.refl _ _ | assumption | refine ba ?_ _ | refine bd ?_ | refine bdN ?_ _ | refine bs ?_ (by first | exact Nat.le_refl _ | (dsimp only; omega) | (simp; done)) _ | refine bt ?_ (by assumption)))⟩
           exact (show dirAt ds (r, p) = (k : Int) from Hy.out (by simp_all [dplace])).symm)
        | (go_roundw
           case rel =>
             refine ⟨k + 1, by omega, by go_num, by (repeat (with_reducible first | exact Below.refl _ _ | assumption | refine ba ?_ _ | refine bd ?_ | refine bdN ?_ _ | refine bs ?_ (by first | exact Nat.le_refl _ | (dsimp only; omega) | (simp; done)) _ | refine bt ?_ (by assumption))), fun i h1 hi => ?_⟩
             by_cases e : i = k
             · subst e; exact Hn.out (by simp_all [dplace])
             · exact Ha.out i h1 (by omega)
           case measure => simp [intOf]; omega)
    · have hv := Lib.hid (keyAt_no (key := dplace) ds (r, p) (fun j h => Ha.out j h (by omega)))
      go_wp2_with fail
      go_ret
      rw [show dirAt ds (r, p) = -1 from hv.out]
      exact ⟨rfl, hbel⟩

set_option maxRecDepth 100000 in
set_option maxHeartbeats 2000000 in
theorem impl_validDirs (v : Value) (ds : List Dr) (D : Nat → Prop) (most x : Int) (nm : Nat) (w : World) (hx : x = (nm : Int)) (hr : DirsIn w D v ds) (hz : ShortD 8000000 ds) :
    Calls Try.prog 58 #[v, .int .i64 most, .int .i64 x] w fun e w' => e = .returned (.bool (okDirs ds most nm)) ∧ Below w.heap.size w w' := by
  subst hx
  have Hr := Lib.hid hr
  have Hz := Lib.hid hz
  obtain ⟨aa, ca, rfl, hl, hm⟩ := hr.len
  unfold maxLen at hm
  clear hr hz
  by_cases h20 : (20 : Int) < (ds.length : Int)
  · have Hv := Lib.hid (okDirs_long (most := most) (nm := nm) (show 20 < ds.length by omega))
    go_enter Try.func58, Try.ntmps58
    go_wp2_with fail
    go_ret
    rw [Hv.out]
    exact ⟨rfl, by (repeat (with_reducible first | exact Below.refl _ _ | assumption | refine ba ?_ _ | refine bd ?_ | refine bdN ?_ _ | refine bs ?_ (by first | exact Nat.le_refl _ | (dsimp only; omega) | (simp; done)) _ | refine bt ?_ (by assumption)))⟩
  · go_enter Try.func58, Try.ntmps58
    go_wp2_with fail
    go_loopw [14] (fun iv wr => ∃ k : Nat, k ≤ ds.length ∧ iv = .int .i64 k ∧ Below w.heap.size w wr ∧ (∀ i (h : i < ds.length), i < k → okDr most nm ds[i] = true) ∧ ∀ i (h : i < ds.length), i < k → keyAt dplace (ds.take i) (dplace ds[i]) = -1) (fun iv _ => ds.length - (intOf iv).toNat)
    case atStart => exact ⟨0, by omega, rfl, Below.refl _ _, fun i _ h => absurd h (by omega), fun i _ h => absurd h (by omega)⟩
    case round =>
      obtain ⟨k, hk, rfl, hbel, ha, hd⟩ := hrel
      have Ha := Lib.hid ha
      have Hd := Lib.hid hd
      clear ha hd
      by_cases hlt : k < ds.length
      · have Htk := Lib.hid (dirs_take (Hr.out.below hbel) k hk)
        obtain ⟨b, off, cap, bv, e, hD, hb, hbody, c0, c1, c2, c3⟩ := (Hr.out.below hbel).at_ hlt
        simp only [Value.slice.injEq] at e
        obtain ⟨rfl, _, rfl⟩ := e
        obtain ⟨ba', bc', rfl, hbl, hbm⟩ := hbody.len
        unfold maxLen at hbm
        obtain ⟨z1, z3⟩ := Hz.out _ (List.getElem_mem hlt)
        clear hbody z3
        have Hn := Lib.hid (okDirs_dr (most := most) (nm := nm) k hlt)
        have Hu := Lib.hid (keys_dup' (key := dplace) k hlt)
        obtain ⟨f, hf⟩ : ∃ f, f = ds[k] := ⟨_, rfl⟩
        rw [← hf] at c0 c1 c2 c3 z1 hbl Hn Hu
        have Hf := Lib.hid hf
        clear hf
        obtain ⟨fr, fp, fst, fb⟩ := f
        dsimp only at c0 c1 c2 c3 z1 hbl
        have Hbe := Lib.hid hbel
        cases hok : okDr most nm ⟨fr, fp, fst, fb⟩
        · have Hv := Lib.hid (Hn.out hok)
          have hok' : (inr fr 0 2 && vpk fp && inr fst 0 most && decide (fb.length ≤ nm)) = false := hok
          clear hok
          cases hA : (inr fr 0 2 && vpk fp)
          · have HA := Lib.hid hA
            clear hA hok'
            go_wp2_with (first
              | (go_at_call 95; refine (impl_placeOfDir _ _ _ _ _).mono ?_; (rintro _ _ ⟨rfl, hb⟩; obtain ⟨hc, hf, hs⟩ := bcell hb))
              | (go_at_call 55; refine (impl_validDirPlace _ _ _ (by omega)).mono ?_; (rintro _ _ ⟨rfl, hb⟩; obtain ⟨hc, hf, hs⟩ := bcell hb); rw [HA.out]))
            go_ret
            rw [Hv.out]
            exact ⟨rfl, by (repeat (with_reducible first | exact Below.refl _ _ | assumption | refine ba ?_ _ | refine bd ?_ | refine bdN ?_ _ | refine bs ?_ (by first | exact Nat.le_refl _ | (dsimp only; omega) | (simp; done)) _ | refine bt ?_ (by assumption)))⟩
          · cases hB : inr fst 0 most
            · have HA := Lib.hid hA
              have HB := Lib.hid hB
              clear hA hB hok'
              go_wp2_with (first
                | (go_at_call 95; refine (impl_placeOfDir _ _ _ _ _).mono ?_; (rintro _ _ ⟨rfl, hb⟩; obtain ⟨hc, hf, hs⟩ := bcell hb))
                | (go_at_call 55; refine (impl_validDirPlace _ _ _ (by omega)).mono ?_; (rintro _ _ ⟨rfl, hb⟩; obtain ⟨hc, hf, hs⟩ := bcell hb); rw [HA.out])
                | ((go_at_call 57; refine (impl_inRange _ _ _).mono ?_; rintro _ _ ⟨rfl, rfl⟩); rw [HB.out]))
              go_ret
              rw [Hv.out]
              exact ⟨rfl, by (repeat (with_reducible first | exact Below.refl _ _ | assumption | refine ba ?_ _ | refine bd ?_ | refine bdN ?_ _ | refine bs ?_ (by first | exact Nat.le_refl _ | (dsimp only; omega) | (simp; done)) _ | refine bt ?_ (by assumption)))⟩
            · rw [hA, hB] at hok'
              have hC : nm < fb.length := by simpa using hok'
              have hC' : (nm : Int) < (fb.length : Int) := by omega
              have HA := Lib.hid hA
              have HB := Lib.hid hB
              clear hA hB hok' hC
              go_wp2_with (first
                | (go_at_call 95; refine (impl_placeOfDir _ _ _ _ _).mono ?_; (rintro _ _ ⟨rfl, hb⟩; obtain ⟨hc, hf, hs⟩ := bcell hb))
                | (go_at_call 55; refine (impl_validDirPlace _ _ _ (by omega)).mono ?_; (rintro _ _ ⟨rfl, hb⟩; obtain ⟨hc, hf, hs⟩ := bcell hb); rw [HA.out])
                | ((go_at_call 57; refine (impl_inRange _ _ _).mono ?_; rintro _ _ ⟨rfl, rfl⟩); rw [HB.out]))
              go_ret
              rw [Hv.out]
              exact ⟨rfl, by (repeat (with_reducible first | exact Below.refl _ _ | assumption | refine ba ?_ _ | refine bd ?_ | refine bdN ?_ _ | refine bs ?_ (by first | exact Nat.le_refl _ | (dsimp only; omega) | (simp; done)) _ | refine bt ?_ (by assumption)))⟩
        · have hok' : (inr fr 0 2 && vpk fp && inr fst 0 most && decide (fb.length ≤ nm)) = true := hok
          have Hok := Lib.hid hok
          simp only [Bool.and_eq_true, decide_eq_true_eq] at hok'
          obtain ⟨⟨⟨q1, q2⟩, q3⟩, q4⟩ := hok'
          have E1 := Lib.hid (show (inr fr 0 2 && vpk fp) = true by rw [q1, q2]; rfl)
          have E2 := Lib.hid q3
          clear hok q1 q2 q3
          have h4 : ¬ ((nm : Int) < (fb.length : Int)) := by omega
          go_wp2_with (first
            | (go_at_call 95; refine (impl_placeOfDir _ _ _ _ _).mono ?_; rintro _ w3 ⟨rfl, hb3⟩; obtain ⟨hc, hf, hs⟩ := bcell hb3)
            | (go_at_call 55; refine (impl_validDirPlace _ _ _ (by omega)).mono ?_; rintro _ w4 ⟨rfl, hb4⟩; rw [E1.out]; have hx4 := (BoxC.start wr #[.int .i64 fr, .string (mk fp), .int .i64 fst, .slice ba' fb.length bc'] 72).below (bt hb3 hb4); have HX := Lib.hid hx4; have j0 : w4.cell? ⟨wr.heap.size, 0, none⟩ = some (.int .i64 fr) := hx4.2 0; have j1 : w4.cell? ⟨wr.heap.size, 1, none⟩ = some (.string (mk fp)) := hx4.2 1; have j2 : w4.cell? ⟨wr.heap.size, 2, none⟩ = some (.int .i64 fst) := hx4.2 2; have j3 : w4.cell? ⟨wr.heap.size, 3, none⟩ = some (.slice ba' fb.length bc') := hx4.2 3; have js := hx4.1; clear hc hf hs hx4)
            | ((go_at_call 57; refine (impl_inRange _ _ _).mono ?_; rintro _ _ ⟨rfl, rfl⟩); rw [E2.out]))
          have Hb4 := Lib.hid (show Below wr.heap.size wr w4 by (repeat (with_reducible first | exact Below.refl _ _ | assumption | refine ba ?_ _ | refine bd ?_ | refine bdN ?_ _ | refine bs ?_ (by first | exact Nat.le_refl _ | (dsimp only; omega) | (simp; done)) _ | refine bt ?_ (by assumption))))
          have k0 := cell_regrown j0
          have k1 := cell_regrown j1
          have k2 := cell_regrown j2
          have k3 := cell_regrown j3
          have cP : ∀ d os, Calls Try.prog 95 #[.agg #[.int .i64 fr, .string (mk fp), .int .i64 fst, .slice ba' fb.length bc']] (grow (redrawn w4 d) os) fun e w'' => e = .returned (dpVal (fr, fp)) ∧ ∃ p : Regrown, w'' = grow (redrawn w4 p.d) p.os := fun d os =>
            Calls.regrown_of (impl_placeOfDir fr fst fp _ (grow (redrawn w4 d) os))
          have cD : ∀ d os, Calls Try.prog 94 #[.slice (some ⟨b, off, none⟩) k ca, dpVal (fr, fp)] (grow (redrawn w4 d) os) fun e w'' => e = .returned (dirPtr (some ⟨b, off, none⟩) (dirAt (ds.take k) (fr, fp))) ∧ ∃ p : Regrown, w'' = grow (redrawn w4 p.d) p.os := fun d os =>
            Calls.regrown_of (impl_dirAt (some ⟨b, off, none⟩) k ca (ds.take k) D (fr, fp) (grow (redrawn w4 d) os) (Htk.out.below (bt Hb4.out (below_regrown w4 d os))))
          have hkr := keyAt_range (key := dplace) (ds.take k) (fr, fp)
          have Hq := Lib.hid (show dirAt (ds.take k) (fr, fp) = keyAt dplace (ds.take k) (dplace ⟨fr, fp, fst, fb⟩) from rfl)
          rw [show keyAt dplace (ds.take k) (fr, fp) = dirAt (ds.take k) (fr, fp) from rfl] at hkr
          generalize dirAt (ds.take k) (fr, fp) = n0 at *
          by_cases hn0 : n0 = -1
          · subst hn0
            rw [dirPtr_no] at cD
            refine wp_region_quiet_below (by kernel_rfl) (by kernel_rfl) ?_
            repeat (go_big_quiet_step (first | exact cP _ _ | exact cD _ _))
            refine wpQuiet_nil ?_
            intro _ hw'
            obtain ⟨⟨dq, osq⟩, hw2⟩ := hw'
            subst hw2
            have Hb8 := Lib.hid (bt (bt Hbe.out Hb4.out) (below_regrown w4 dq osq))
            clear cP cD k0 k1 k2 k3
            go_wp2_with fail
            go_roundw
            case rel =>
              refine ⟨k + 1, by omega, by go_num, Hb8.out, fun i h1 hi => ?_, fun i h1 hi => ?_⟩
              · by_cases e : i = k
                · subst e; rw [← Hf.out]; exact Hok.out
                · exact Ha.out i h1 (by omega)
              · by_cases e : i = k
                · subst e; rw [← Hf.out]; exact Hq.out.symm
                · exact Hd.out i h1 (by omega)
            case measure => simp [intOf]; omega
          · obtain ⟨j, rfl⟩ := Int.eq_ofNat_of_zero_le (show 0 ≤ n0 by omega)
            have Hv := Lib.hid (okDirs_dup (most := most) (nm := nm) (Hu.out (by rw [← Hq.out]; exact hn0)))
            rw [dirPtr_yes] at cD
            refine wp_region_quiet_below (by kernel_rfl) (by kernel_rfl) ?_
            repeat (go_big_quiet_step (first | exact cP _ _ | exact cD _ _))
            refine wpQuiet_nil ?_
            intro _ hw'
            obtain ⟨⟨dq, osq⟩, hw2⟩ := hw'
            subst hw2
            have Hb8 := Lib.hid (bt (bt Hbe.out Hb4.out) (below_regrown w4 dq osq))
            clear cP cD k0 k1 k2 k3
            go_wp2_with fail
            go_ret
            rw [Hv.out]
            exact ⟨rfl, Hb8.out⟩
      · have hv := Lib.hid (okDirs_yes (most := most) (nm := nm) (fun i h => Ha.out i h (by omega)) (keys_nodup' (fun i h => Hd.out i h (by omega))) (by omega))
        go_wp2_with fail
        go_ret
        rw [hv.out]
        exact ⟨rfl, hbel⟩
end Go.Proofs.Ytgecemngfpgcoaa
