/- Contracts of the functions that say whether disks and finders are valid, and of the stamps of directories. -/
import Derived.Test.YtgecemngfpgcoaaDirMem
import Derived.Test.YtgecemngfpgcoaaTrees
import Derived.Test.YtgecemngfpgcoaaKin
import Derived.Test.YtgecemngfpgcoaaHash
import Derived.Test.YtgecemngfpgcoaaToDisk
set_option linter.unusedVariables false
set_option linter.unusedSimpArgs false
namespace Go.Proofs.Ytgecemngfpgcoaa
open Go.RowKit Go.Proofs.Ytgecemngfpgcoaa.Nm
open Go.Sort (grow)

/-- The front of a row of directories. -/
theorem dirs_take {w : World} {D : Nat → Prop} {a : Option Addr} {cap n : Nat} {ds : List Dr} (h : DirsIn w D (.slice a n cap) ds) (k : Nat) (hk : k ≤ ds.length) : DirsIn w D (.slice a k cap) (ds.take k) := by
  obtain ⟨a', cap', h1, h2, h3, h4⟩ := h
  simp only [Value.slice.injEq] at h1
  obtain ⟨rfl, _, rfl⟩ := h1
  have hl : (ds.take k).length = k := by rw [List.length_take]; omega
  refine ⟨a, cap, by rw [hl], by omega, h3, fun hx => ?_⟩
  obtain ⟨b, off, e1, e2, e3, e4⟩ := h4 (by omega)
  refine ⟨b, off, e1, e2, e3, fun i hi => ?_⟩
  rw [hl] at hi
  have := e4 i (by omega)
  simpa only [List.getElem_take] using this
/-- The place of a directory, and the directory of a number, as values. -/
def dpVal (p : DPl) : Value := .agg #[.int .i64 p.1, .string (mk p.2)]
def dirPtr (a : Option Addr) (i : Int) : Value := if i < 0 then .pointer none else match a with | some x => .pointer (some ⟨x.block, x.off + i.toNat * 4, none⟩) | none => .pointer none
theorem dirPtr_no (a : Option Addr) : dirPtr a (-1) = .pointer none := rfl
theorem dirPtr_yes (b off k : Nat) : dirPtr (some ⟨b, off, none⟩) (k : Int) = .pointer (some ⟨b, off + k * 4, none⟩) := by
  unfold dirPtr; rw [if_neg (by omega)]; simp

set_option maxRecDepth 100000 in
set_option maxHeartbeats 400000 in
theorem impl_validDirPlace (r : Int) (p : Bs) (w : World) (hp : p.length ≤ 8000000) :
    Calls Try.prog 55 #[.agg #[.int .i64 r, .string (mk p)]] w fun e w' => e = .returned (.bool (inr r 0 2 && vpk p)) ∧ Below w.heap.size w w' := by
  go_enter Try.func55, Try.ntmps55
  go_wp2_with (first | (go_at_call 57; refine (impl_inRange _ _ _).mono ?_; rintro _ _ ⟨rfl, rfl⟩) | (go_at_call 93; refine (impl_validPackage _ _ (by omega)).mono ?_; (rintro _ _ ⟨rfl, hb⟩; obtain ⟨hc, hf, hs⟩ := bcell hb)))
  all_goals (go_ret; refine ⟨ret_bool ?_, by (repeat (with_reducible first | exact Below.refl _ _ | assumption | refine ba ?_ _ | refine bd ?_ | refine bdN ?_ _ | refine bs ?_ (by first | exact Nat.le_refl _ | (dsimp only; omega) | (simp; done)) _ | refine bt ?_ (by assumption)))⟩; simp_all)
set_option maxRecDepth 100000 in
set_option maxHeartbeats 400000 in
theorem impl_placeOfDir (r st : Int) (p : Bs) (nv : Value) (w : World) :
    Calls Try.prog 95 #[.agg #[.int .i64 r, .string (mk p), .int .i64 st, nv]] w fun e w' => e = .returned (dpVal (r, p)) ∧ Below w.heap.size w w' := by
  go_enter Try.func95, Try.ntmps95
  go_wp2_with fail
  exact bodyPost_ret (v := dpVal (r, p)) (by simp [results, Try.results95, go_sem, dpVal]) rfl ⟨rfl, by (repeat (with_reducible first | exact Below.refl _ _ | assumption | refine ba ?_ _ | refine bd ?_ | refine bdN ?_ _ | refine bs ?_ (by first | exact Nat.le_refl _ | (dsimp only; omega) | (simp; done)) _ | refine bt ?_ (by assumption)))⟩
theorem dpEq (x y : DPl) (w : World) : (binOp .eql 92 (dpVal x) (dpVal y)).run Try.prog w = .ok (.bool (decide (x = y))) w := by
  obtain ⟨a, b⟩ := x
  obtain ⟨a', b'⟩ := y
  by_cases h1 : a = a' <;> by_cases h2 : b = b' <;> simp [dpVal, go_sem, h1, h2, Try.underlying92, Try.underlying3, Try.underlying9]
set_option maxRecDepth 100000 in
set_option maxHeartbeats 1000000 in
theorem impl_dirAt (a : Option Addr) (n cap : Nat) (ds : List Dr) (D : Nat → Prop) (p : DPl) (w : World) (hr : DirsIn w D (.slice a n cap) ds) :
    Calls Try.prog 94 #[.slice a n cap, dpVal p] w fun e w' => e = .returned (dirPtr a (dirAt ds p)) ∧ Below w.heap.size w w' := by
  have Hr := Lib.hid hr
  obtain ⟨aa, ca, e, hl, hm⟩ := hr.len
  simp only [Value.slice.injEq] at e
  obtain ⟨rfl, rfl, rfl⟩ := e
  unfold maxLen at hm
  clear hr
  obtain ⟨pr, pp⟩ := p
  unfold dpVal
  dsimp only
  go_enter Try.func94, Try.ntmps94
  go_wp2_with fail
  go_loopw [8] (fun iv wr => ∃ k : Nat, k ≤ ds.length ∧ iv = .int .i64 k ∧ Boxed w #[.int .i64 pr, .string (mk pp)] 92 wr ∧ ∀ j (h : j < ds.length), j < k → dplace ds[j] ≠ (pr, pp)) (fun iv _ => ds.length - (intOf iv).toNat)
  case atStart => exact ⟨0, by omega, rfl, Boxed.start _ _ _, fun i _ h => absurd h (by omega)⟩
  case round =>
    obtain ⟨k, hk, rfl, hbx, ha⟩ := hrel
    have hbel := hbx.below
    have hA : wr.cell? ⟨w.heap.size, 0, none⟩ = some (.int .i64 pr) := hbx.cell 0
    have hB : wr.cell? ⟨w.heap.size, 1, none⟩ = some (.string (mk pp)) := hbx.cell 1
    have Hbx := Lib.hid hbx
    have Ha := Lib.hid ha
    clear ha hbx
    by_cases hlt : k < ds.length
    · obtain ⟨b, off, cap, bv, e, hD, hb, hbody, c0, c1, c2, c3⟩ := (Hr.out.below hbel).at_ hlt
      simp only [Value.slice.injEq] at e
      obtain ⟨rfl, _, rfl⟩ := e
      obtain ⟨ba', bc', rfl, hbl, hbm⟩ := hbody.len
      clear hbody hbl hbm
      obtain ⟨bn', hbn⟩ : ∃ bn', bn' = ds[k].names.length := ⟨_, rfl⟩
      rw [← hbn] at c3
      clear hbn
      have Hy := Lib.hid (keyAt_yes (key := dplace) ds k hlt (pr, pp) (fun j h1 h2 => Ha.out j h1 h2))
      obtain ⟨f, hf⟩ : ∃ f, f = ds[k] := ⟨_, rfl⟩
      rw [← hf] at c0 c1 c2 Hy
      have Hn := Lib.hid (fun (h : dplace f ≠ (pr, pp)) => (show dplace ds[k] ≠ (pr, pp) by rw [← hf]; exact h))
      clear hf
      obtain ⟨fr, fp, fst, fb⟩ := f
      dsimp only at c0 c1 c2
      have Hbe := Lib.hid hbel
      have hsz := Hbx.out.lt
      have kA := cell_regrown hA
      have kB := cell_regrown hB
      have k0 := cell_regrown c0
      have k1 := cell_regrown c1
      have k2 := cell_regrown c2
      have k3 := cell_regrown c3
      have qE := fun w => dpEq (fr, fp) (pr, pp) w
      unfold dpVal at qE
      dsimp only at qE
      have Hq := Lib.hid (show decide ((fr, fp) = (pr, pp)) = decide (dplace ⟨fr, fp, fst, fb⟩ = (pr, pp)) from rfl)
      have cP : ∀ d os, Calls Try.prog 95 #[.agg #[.int .i64 fr, .string (mk fp), .int .i64 fst, .slice ba' bn' bc']] (grow (redrawn wr d) os) fun e w'' => e = .returned (.agg #[.int .i64 fr, .string (mk fp)]) ∧ ∃ p : Regrown, w'' = grow (redrawn wr p.d) p.os := fun d os =>
        Calls.regrown_of (impl_placeOfDir fr fst fp _ (grow (redrawn wr d) os))
      clear c0 c1 c2 c3 hA hB
      generalize decide ((fr, fp) = (pr, pp)) = cc at *
      cases cc
      · have hne := Lib.hid (Hn.out (of_decide_eq_false Hq.out.symm))
        go_wp2_with fail
        refine wp_region_quiet_below (by kernel_rfl) (by kernel_rfl) ?_
        repeat (go_big_quiet_step (exact cP _ _))
        refine wpQuiet_nil ?_
        intro _ hw'
        obtain ⟨⟨dq, osq⟩, hw2⟩ := hw'
        subst hw2
        have Hb8 := Lib.hid (below_regrown wr dq osq)
        clear cP kA kB k0 k1 k2 k3 qE
        go_wp2_with fail
        go_roundw
        case rel =>
          refine ⟨k + 1, by omega, by go_num, Hbx.out.step Hb8.out, fun i h1 hi => ?_⟩
          by_cases e : i = k
          · subst e; exact hne.out
          · exact Ha.out i h1 (by omega)
        case measure => simp [intOf]; omega
      · have hv := Lib.hid (Hy.out (of_decide_eq_true Hq.out.symm))
        go_wp2_with fail
        refine wp_region_quiet_below (by kernel_rfl) (by kernel_rfl) ?_
        repeat (go_big_quiet_step (exact cP _ _))
        refine wpQuiet_nil ?_
        intro _ hw'
        obtain ⟨⟨dq, osq⟩, hw2⟩ := hw'
        subst hw2
        have Hb8 := Lib.hid (bt Hbe.out (below_regrown wr dq osq))
        clear cP kA kB k0 k1 k2 k3 qE
        go_wp2_with fail
        go_ret
        rw [show dirAt ds (pr, pp) = (k : Int) from hv.out, dirPtr_yes]
        exact ⟨by simp, Hb8.out⟩
    · have hv := Lib.hid (keyAt_no (key := dplace) ds (pr, pp) (fun j h => Ha.out j h (by omega)))
      go_wp2_with fail
      go_ret
      rw [show dirAt ds (pr, pp) = -1 from hv.out, dirPtr_no]
      exact ⟨rfl, hbel⟩

set_option maxRecDepth 100000 in
set_option maxHeartbeats 1000000 in
theorem spec_dirAt (a : Option Addr) (n cap : Nat) (ds : List Dr) (D : Nat → Prop) (r : Int) (p : Bs) (w : World) (hr : DirsIn w D (.slice a n cap) ds) :
    Calls Try.prog 116 #[.slice a n cap, .int .i64 r, .string (mk p)] w fun e w' => e = .returned (.int .i64 (dirAt ds (r, p))) ∧ Below w.heap.size w w' := by
  have Hr := Lib.hid hr
  obtain ⟨aa, ca, e, hl, hm⟩ := hr.len
  simp only [Value.slice.injEq] at e
  obtain ⟨rfl, rfl, rfl⟩ := e
  unfold maxLen at hm
  clear hr
  go_enter Try.func116, Try.ntmps116
  go_wp2_with fail
  go_loopw [7] (fun iv wr => ∃ k : Nat, k ≤ ds.length ∧ iv = .int .i64 k ∧ Below w.heap.size w wr ∧ ∀ j (h : j < ds.length), j < k → dplace ds[j] ≠ (r, p)) (fun iv _ => ds.length - (intOf iv).toNat)
  case atStart => exact ⟨0, by omega, rfl, Below.refl _ _, fun i _ h => absurd h (by omega)⟩
  case round =>
    obtain ⟨k, hk, rfl, hbel, ha⟩ := hrel
    have Ha := Lib.hid ha
    clear ha
    by_cases hlt : k < ds.length
    · obtain ⟨b, off, cap, bv, e, hD, hb, hbody, c0, c1, c2, c3⟩ := (Hr.out.below hbel).at_ hlt
      simp only [Value.slice.injEq] at e
      obtain ⟨rfl, _, rfl⟩ := e
      clear hbody
      have Hy := Lib.hid (keyAt_yes (key := dplace) ds k hlt (r, p) (fun j h1 h2 => Ha.out j h1 h2))
      obtain ⟨f, hf⟩ : ∃ f, f = ds[k] := ⟨_, rfl⟩
      rw [← hf] at c0 c1 c2 Hy
      have Hn := Lib.hid (fun (h : dplace f ≠ (r, p)) => (show dplace ds[k] ≠ (r, p) by rw [← hf]; exact h))
      clear hf c2 c3
      obtain ⟨fr, fp, fst, fb⟩ := f
      dsimp only at c0 c1
      go_wp2_with fail
      all_goals first
        | (go_ret
           refine ⟨ret_i64 ?_, by (repeat (with_reducible first | exact Below.refl _ _ | assumption | refine ba ?_ _ | refine bd ?_ | refine bdN ?_ _ | refine bs ?_ (by first | exact Nat.le_refl _ | (dsimp only; omega) | (simp; done)) _ | refine bt ?_ (by assumption)))⟩
           exact (show dirAt ds (r, p) = (k : Int) from Hy.out (by simp_all [dplace])).symm)
        | (go_roundw
           case rel =>
             refine ⟨k + 1, by omega, by go_num, by (repeat (with_reducible first | exact Below.refl _ _ | assumption | refine ba ?_ _ | refine bd ?_ | refine bdN ?_ _ | refine bs ?_ (by first | exact Nat.le_refl _ | (dsimp only; omega) | (simp; done)) _ | refine bt ?_ (by assumption))), fun i h1 hi => ?_⟩
             by_cases e : i = k
             · subst e; exact Hn.out (by simp_all [dplace])
             · exact Ha.out i h1 (by omega)
           case measure => simp [intOf]; omega)
    · have hv := Lib.hid (keyAt_no (key := dplace) ds (r, p) (fun j h => Ha.out j h (by omega)))
      go_wp2_with fail
      go_ret
      rw [show dirAt ds (r, p) = -1 from hv.out]
      exact ⟨rfl, hbel⟩

set_option maxRecDepth 100000 in
set_option maxHeartbeats 2000000 in
theorem impl_validDirs (v : Value) (ds : List Dr) (D : Nat → Prop) (most x : Int) (nm : Nat) (w : World) (hx : x = (nm : Int)) (hr : DirsIn w D v ds) (hz : ShortD 8000000 ds) :
    Calls Try.prog 58 #[v, .int .i64 most, .int .i64 x] w fun e w' => e = .returned (.bool (okDirs ds most nm)) ∧ Below w.heap.size w w' := by
  subst hx
  have Hr := Lib.hid hr
  have Hz := Lib.hid hz
  obtain ⟨aa, ca, rfl, hl, hm⟩ := hr.len
  unfold maxLen at hm
  clear hr hz
  by_cases h20 : (20 : Int) < (ds.length : Int)
  · have Hv := Lib.hid (okDirs_long (most := most) (nm := nm) (show 20 < ds.length by omega))
    go_enter Try.func58, Try.ntmps58
    go_wp2_with fail
    go_ret
    rw [Hv.out]
    exact ⟨rfl, by (repeat (with_reducible first | exact Below.refl _ _ | assumption | refine ba ?_ _ | refine bd ?_ | refine bdN ?_ _ | refine bs ?_ (by first | exact Nat.le_refl _ | (dsimp only; omega) | (simp; done)) _ | refine bt ?_ (by assumption)))⟩
  · go_enter Try.func58, Try.ntmps58
    go_wp2_with fail
    go_loopw [14] (fun iv wr => ∃ k : Nat, k ≤ ds.length ∧ iv = .int .i64 k ∧ Below w.heap.size w wr ∧ (∀ i (h : i < ds.length), i < k → okDr most nm ds[i] = true) ∧ ∀ i (h : i < ds.length), i < k → keyAt dplace (ds.take i) (dplace ds[i]) = -1) (fun iv _ => ds.length - (intOf iv).toNat)
    case atStart => exact ⟨0, by omega, rfl, Below.refl _ _, fun i _ h => absurd h (by omega), fun i _ h => absurd h (by omega)⟩
    case round =>
      obtain ⟨k, hk, rfl, hbel, ha, hd⟩ := hrel
      have Ha := Lib.hid ha
      have Hd := Lib.hid hd
      clear ha hd
      by_cases hlt : k < ds.length
      · have Htk := Lib.hid (dirs_take (Hr.out.below hbel) k hk)
        obtain ⟨b, off, cap, bv, e, hD, hb, hbody, c0, c1, c2, c3⟩ := (Hr.out.below hbel).at_ hlt
        simp only [Value.slice.injEq] at e
        obtain ⟨rfl, _, rfl⟩ := e
        obtain ⟨ba', bc', rfl, hbl, hbm⟩ := hbody.len
        unfold maxLen at hbm
        obtain ⟨z1, z3⟩ := Hz.out _ (List.getElem_mem hlt)
        clear hbody z3
        have Hn := Lib.hid (okDirs_dr (most := most) (nm := nm) k hlt)
        have Hu := Lib.hid (keys_dup' (key := dplace) k hlt)
        obtain ⟨f, hf⟩ : ∃ f, f = ds[k] := ⟨_, rfl⟩
        rw [← hf] at c0 c1 c2 c3 z1 hbl Hn Hu
        have Hf := Lib.hid hf
        clear hf
        obtain ⟨fr, fp, fst, fb⟩ := f
        dsimp only at c0 c1 c2 c3 z1 hbl
        have Hbe := Lib.hid hbel
        cases hok : okDr most nm ⟨fr, fp, fst, fb⟩
        · have Hv := Lib.hid (Hn.out hok)
          have hok' : (inr fr 0 2 && vpk fp && inr fst 0 most && decide (fb.length ≤ nm)) = false := hok
          clear hok
          cases hA : (inr fr 0 2 && vpk fp)
          · have HA := Lib.hid hA
            clear hA hok'
            go_wp2_with (first
              | (go_at_call 95; refine (impl_placeOfDir _ _ _ _ _).mono ?_; (rintro _ _ ⟨rfl, hb⟩; obtain ⟨hc, hf, hs⟩ := bcell hb))
              | (go_at_call 55; refine (impl_validDirPlace _ _ _ (by omega)).mono ?_; (rintro _ _ ⟨rfl, hb⟩; obtain ⟨hc, hf, hs⟩ := bcell hb); rw [HA.out]))
            go_ret
            rw [Hv.out]
            exact ⟨rfl, by (repeat (with_reducible first | exact Below.refl _ _ | assumption | refine ba ?_ _ | refine bd ?_ | refine bdN ?_ _ | refine bs ?_ (by first | exact Nat.le_refl _ | (dsimp only; omega) | (simp; done)) _ | refine bt ?_ (by assumption)))⟩
          · cases hB : inr fst 0 most
            · have HA := Lib.hid hA
              have HB := Lib.hid hB
              clear hA hB hok'
              go_wp2_with (first
                | (go_at_call 95; refine (impl_placeOfDir _ _ _ _ _).mono ?_; (rintro _ _ ⟨rfl, hb⟩; obtain ⟨hc, hf, hs⟩ := bcell hb))
                | (go_at_call 55; refine (impl_validDirPlace _ _ _ (by omega)).mono ?_; (rintro _ _ ⟨rfl, hb⟩; obtain ⟨hc, hf, hs⟩ := bcell hb); rw [HA.out])
                | ((go_at_call 57; refine (impl_inRange _ _ _).mono ?_; rintro _ _ ⟨rfl, rfl⟩); rw [HB.out]))
              go_ret
              rw [Hv.out]
              exact ⟨rfl, by (repeat (with_reducible first | exact Below.refl _ _ | assumption | refine ba ?_ _ | refine bd ?_ | refine bdN ?_ _ | refine bs ?_ (by first | exact Nat.le_refl _ | (dsimp only; omega) | (simp; done)) _ | refine bt ?_ (by assumption)))⟩
            · rw [hA, hB] at hok'
              have hC : nm < fb.length := by simpa using hok'
              have hC' : (nm : Int) < (fb.length : Int) := by omega
              have HA := Lib.hid hA
              have HB := Lib.hid hB
              clear hA hB hok' hC
              go_wp2_with (first
                | (go_at_call 95; refine (impl_placeOfDir _ _ _ _ _).mono ?_; (rintro _ _ ⟨rfl, hb⟩; obtain ⟨hc, hf, hs⟩ := bcell hb))
                | (go_at_call 55; refine (impl_validDirPlace _ _ _ (by omega)).mono ?_; (rintro _ _ ⟨rfl, hb⟩; obtain ⟨hc, hf, hs⟩ := bcell hb); rw [HA.out])
                | ((go_at_call 57; refine (impl_inRange _ _ _).mono ?_; rintro _ _ ⟨rfl, rfl⟩); rw [HB.out]))
              go_ret
              rw [Hv.out]
              exact ⟨rfl, by (repeat (with_reducible first | exact Below.refl _ _ | assumption | refine ba ?_ _ | refine bd ?_ | refine bdN ?_ _ | refine bs ?_ (by first | exact Nat.le_refl _ | (dsimp only; omega) | (simp; done)) _ | refine bt ?_ (by assumption)))⟩
        · have hok' : (inr fr 0 2 && vpk fp && inr fst 0 most && decide (fb.length ≤ nm)) = true := hok
          have Hok := Lib.hid hok
          simp only [Bool.and_eq_true, decide_eq_true_eq] at hok'
          obtain ⟨⟨⟨q1, q2⟩, q3⟩, q4⟩ := hok'
          have E1 := Lib.hid (show (inr fr 0 2 && vpk fp) = true by rw [q1, q2]; rfl)
          have E2 := Lib.hid q3
          clear hok q1 q2 q3
          have h4 : ¬ ((nm : Int) < (fb.length : Int)) := by omega
          go_wp2_with (first
            | (go_at_call 95; refine (impl_placeOfDir _ _ _ _ _).mono ?_; rintro _ w3 ⟨rfl, hb3⟩; obtain ⟨hc, hf, hs⟩ := bcell hb3)
            | (go_at_call 55; refine (impl_validDirPlace _ _ _ (by omega)).mono ?_; rintro _ w4 ⟨rfl, hb4⟩; rw [E1.out]; have hx4 := (BoxC.start wr #[.int .i64 fr, .string (mk fp), .int .i64 fst, .slice ba' fb.length bc'] 72).below (bt hb3 hb4); have HX := Lib.hid hx4; have j0 : w4.cell? ⟨wr.heap.size, 0, none⟩ = some (.int .i64 fr) := hx4.2 0; have j1 : w4.cell? ⟨wr.heap.size, 1, none⟩ = some (.string (mk fp)) := hx4.2 1; have j2 : w4.cell? ⟨wr.heap.size, 2, none⟩ = some (.int .i64 fst) := hx4.2 2; have j3 : w4.cell? ⟨wr.heap.size, 3, none⟩ = some (.slice ba' fb.length bc') := hx4.2 3; have js := hx4.1; clear hc hf hs hx4)
            | ((go_at_call 57; refine (impl_inRange _ _ _).mono ?_; rintro _ _ ⟨rfl, rfl⟩); rw [E2.out]))
          have Hb4 := Lib.hid (show Below wr.heap.size wr w4 by (repeat (with_reducible first | exact Below.refl _ _ | assumption | refine ba ?_ _ | refine bd ?_ | refine bdN ?_ _ | refine bs ?_ (by first | exact Nat.le_refl _ | (dsimp only; omega) | (simp; done)) _ | refine bt ?_ (by assumption))))
          have k0 := cell_regrown j0
          have k1 := cell_regrown j1
          have k2 := cell_regrown j2
          have k3 := cell_regrown j3
          have cP : ∀ d os, Calls Try.prog 95 #[.agg #[.int .i64 fr, .string (mk fp), .int .i64 fst, .slice ba' fb.length bc']] (grow (redrawn w4 d) os) fun e w'' => e = .returned (dpVal (fr, fp)) ∧ ∃ p : Regrown, w'' = grow (redrawn w4 p.d) p.os := fun d os =>
            Calls.regrown_of (impl_placeOfDir fr fst fp _ (grow (redrawn w4 d) os))
          have cD : ∀ d os, Calls Try.prog 94 #[.slice (some ⟨b, off, none⟩) k ca, dpVal (fr, fp)] (grow (redrawn w4 d) os) fun e w'' => e = .returned (dirPtr (some ⟨b, off, none⟩) (dirAt (ds.take k) (fr, fp))) ∧ ∃ p : Regrown, w'' = grow (redrawn w4 p.d) p.os := fun d os =>
            Calls.regrown_of (impl_dirAt (some ⟨b, off, none⟩) k ca (ds.take k) D (fr, fp) (grow (redrawn w4 d) os) (Htk.out.below (bt Hb4.out (below_regrown w4 d os))))
          have hkr := keyAt_range (key := dplace) (ds.take k) (fr, fp)
          have Hq := Lib.hid (show dirAt (ds.take k) (fr, fp) = keyAt dplace (ds.take k) (dplace ⟨fr, fp, fst, fb⟩) from rfl)
          rw [show keyAt dplace (ds.take k) (fr, fp) = dirAt (ds.take k) (fr, fp) from rfl] at hkr
          generalize dirAt (ds.take k) (fr, fp) = n0 at *
          by_cases hn0 : n0 = -1
          · subst hn0
            rw [dirPtr_no] at cD
            refine wp_region_quiet_below (by kernel_rfl) (by kernel_rfl) ?_
            repeat (go_big_quiet_step (first | exact cP _ _ | exact cD _ _))
            refine wpQuiet_nil ?_
            intro _ hw'
            obtain ⟨⟨dq, osq⟩, hw2⟩ := hw'
            subst hw2
            have Hb8 := Lib.hid (bt (bt Hbe.out Hb4.out) (below_regrown w4 dq osq))
            clear cP cD k0 k1 k2 k3
            go_wp2_with fail
            go_roundw
            case rel =>
              refine ⟨k + 1, by omega, by go_num, Hb8.out, fun i h1 hi => ?_, fun i h1 hi => ?_⟩
              · by_cases e : i = k
                · subst e; rw [← Hf.out]; exact Hok.out
                · exact Ha.out i h1 (by omega)
              · by_cases e : i = k
                · subst e; rw [← Hf.out]; exact Hq.out.symm
                · exact Hd.out i h1 (by omega)
            case measure => simp [intOf]; omega
          · obtain ⟨j, rfl⟩ := Int.eq_ofNat_of_zero_le (show 0 ≤ n0 by omega)
            have Hv := Lib.hid (okDirs_dup (most := most) (nm := nm) (Hu.out (by rw [← Hq.out]; exact hn0)))
            rw [dirPtr_yes] at cD
            refine wp_region_quiet_below (by kernel_rfl) (by kernel_rfl) ?_
            repeat (go_big_quiet_step (first | exact cP _ _ | exact cD _ _))
            refine wpQuiet_nil ?_
            intro _ hw'
            obtain ⟨⟨dq, osq⟩, hw2⟩ := hw'
            subst hw2
            have Hb8 := Lib.hid (bt (bt Hbe.out Hb4.out) (below_regrown w4 dq osq))
            clear cP cD k0 k1 k2 k3
            go_wp2_with fail
            go_ret
            rw [Hv.out]
            exact ⟨rfl, Hb8.out⟩
      · have hv := Lib.hid (okDirs_yes (most := most) (nm := nm) (fun i h => Ha.out i h (by omega)) (keys_nodup' (fun i h => Hd.out i h (by omega))) (by omega))
        go_wp2_with fail
        go_ret
        rw [hv.out]
        exact ⟨rfl, hbel⟩

/-! ### Contracts of the functions that say whether disks and finders are valid, and of StampOf. -/
theorem ret_i64' {a b : Int} (h : a = b) : Ending.returned (.int .i64 a) = .returned (.int .i64 b) := by rw [h]
set_option maxRecDepth 100000 in
set_option maxHeartbeats 1000000 in
theorem impl_ValidDisk (v : Value) (fs : List Fil) (c : Int) (u : Value) (ds : List Dr) (D : Nat → Prop) (w : World) (hr : DskIn w D v fs u ds) (hz : ShortK 2000000 fs ds) :
    Calls Try.prog 17 #[.agg #[v, .int .i64 c, u]] w fun e w' => e = .returned (.bool (okDisk ⟨fs, c, ds⟩)) ∧ Below w.heap.size w w' := by
  have Hr := Lib.hid hr
  obtain ⟨⟨aa, ca, rfl, hl, hm⟩, ⟨ab, cb, rfl, hl', hm'⟩⟩ := hr.len
  have Hz1 := Lib.hid (shortT_mono (B := 8000000) (by omega) hz.1)
  have Hz2 := Lib.hid (shortD_mono (B := 8000000) (by omega) hz.2)
  have Hv := Lib.hid (show okDisk ⟨fs, c, ds⟩ = (inr c 0 200 && okDirs ds c 0 && okTree fs) from rfl)
  clear hr hz hm hm'
  generalize okDisk ⟨fs, c, ds⟩ = res at *
  go_enter Try.func17, Try.ntmps17
  go_wp2_with (first
    | (go_at_call 57; refine (impl_inRange _ _ _).mono ?_; rintro _ _ ⟨rfl, rfl⟩)
    | (go_at_call 58; refine (impl_validDirs _ ds D c _ 0 _ rfl (Hr.out.2.below (by (repeat (with_reducible first | exact Below.refl _ _ | assumption | refine ba ?_ _ | refine bd ?_ | refine bdN ?_ _ | refine bs ?_ (by first | exact Nat.le_refl _ | (dsimp only; omega) | (simp; done)) _ | refine bt ?_ (by assumption))))) Hz2.out).mono ?_; (rintro _ _ ⟨rfl, hb⟩; obtain ⟨hc, hf, hs⟩ := bcell hb))
    | (go_at_call 59; refine (impl_ValidTree _ fs D _ (Hr.out.1.below (by (repeat (with_reducible first | exact Below.refl _ _ | assumption | refine ba ?_ _ | refine bd ?_ | refine bdN ?_ _ | refine bs ?_ (by first | exact Nat.le_refl _ | (dsimp only; omega) | (simp; done)) _ | refine bt ?_ (by assumption))))) Hz1.out).mono ?_; (rintro _ _ ⟨rfl, hb⟩; obtain ⟨hc, hf, hs⟩ := bcell hb)))
  all_goals (go_ret; refine ⟨ret_bool ?_, by (repeat (with_reducible first | exact Below.refl _ _ | assumption | refine ba ?_ _ | refine bd ?_ | refine bdN ?_ _ | refine bs ?_ (by first | exact Nat.le_refl _ | (dsimp only; omega) | (simp; done)) _ | refine bt ?_ (by assumption)))⟩; rw [Hv.out]; simp_all)
set_option maxRecDepth 100000 in
set_option maxHeartbeats 1000000 in
theorem impl_ValidFinder (u : Value) (ds : List Dr) (f h : Int) (D : Nat → Prop) (w : World) (hr : DirsIn w D u ds) (hz : ShortD 2000000 ds) :
    Calls Try.prog 33 #[.agg #[u, .int .i64 f, .int .i64 h]] w fun e w' => e = .returned (.bool (okFnd ⟨ds, f, h⟩)) ∧ Below w.heap.size w w' := by
  have Hr := Lib.hid hr
  obtain ⟨ab, cb, rfl, hl', hm'⟩ := hr.len
  have Hz2 := Lib.hid (shortD_mono (B := 8000000) (by omega) hz)
  have Hv := Lib.hid (show okFnd ⟨ds, f, h⟩ = (inr f 0 1000 && inr h 0 1000 && okDirs ds 200 12) from rfl)
  clear hr hz hm'
  generalize okFnd ⟨ds, f, h⟩ = res at *
  go_enter Try.func33, Try.ntmps33
  go_wp2_with (first
    | (go_at_call 57; refine (impl_inRange _ _ _).mono ?_; rintro _ _ ⟨rfl, rfl⟩)
    | (go_at_call 58; refine (impl_validDirs _ ds D 200 _ 12 _ rfl (Hr.out.below (by (repeat (with_reducible first | exact Below.refl _ _ | assumption | refine ba ?_ _ | refine bd ?_ | refine bdN ?_ _ | refine bs ?_ (by first | exact Nat.le_refl _ | (dsimp only; omega) | (simp; done)) _ | refine bt ?_ (by assumption))))) Hz2.out).mono ?_; (rintro _ _ ⟨rfl, hb⟩; obtain ⟨hc, hf, hs⟩ := bcell hb)))
  all_goals (go_ret; refine ⟨ret_bool ?_, by (repeat (with_reducible first | exact Below.refl _ _ | assumption | refine ba ?_ _ | refine bd ?_ | refine bdN ?_ _ | refine bs ?_ (by first | exact Nat.le_refl _ | (dsimp only; omega) | (simp; done)) _ | refine bt ?_ (by assumption)))⟩; rw [Hv.out]; simp_all)
set_option maxRecDepth 100000 in
set_option maxHeartbeats 2000000 in
theorem impl_stampOnDisk (v : Value) (c : Int) (u : Value) (ds : List Dr) (D : Nat → Prop) (r : Int) (p : Bs) (w : World) (hr : DirsIn w D u ds) :
    Calls Try.prog 56 #[.agg #[v, .int .i64 c, u], dpVal (r, p)] w fun e w' => e = .returned (.agg #[.int .i64 r, .string (mk p), .int .i64 (stampIn ds (r, p))]) ∧ Below w.heap.size w w' := by
  have Hr := Lib.hid hr
  obtain ⟨ab, cb, rfl, hl', hm'⟩ := hr.len
  clear hr hm'
  unfold dpVal
  dsimp only
  rcases keyAt_is (key := dplace) ds (r, p) with ⟨h1, _⟩ | ⟨k, hk, h1, h2, _⟩
  · have Hs := Lib.hid (stampIn_no (show dirAt ds (r, p) = -1 from h1))
    have H1 := Lib.hid (show dirPtr ab (dirAt ds (r, p)) = .pointer none by rw [show dirAt ds (r, p) = -1 from h1]; rfl)
    clear h1
    go_enter Try.func56, Try.ntmps56
    go_wp2_with (go_at_call 94; refine (impl_dirAt ab ds.length cb ds D (r, p) _ (Hr.out.below (by (repeat (with_reducible first | exact Below.refl _ _ | assumption | refine ba ?_ _ | refine bd ?_ | refine bdN ?_ _ | refine bs ?_ (by first | exact Nat.le_refl _ | (dsimp only; omega) | (simp; done)) _ | refine bt ?_ (by assumption)))))).mono ?_; (rintro _ _ ⟨rfl, hb⟩; obtain ⟨hc, hf, hs⟩ := bcell hb); rw [H1.out])
    refine bodyPost_ret (v := .agg #[.int .i64 r, .string (mk p), .int .i64 0]) (by simp [results, Try.results56, go_sem, *]) rfl ⟨?_, by (repeat (with_reducible first | exact Below.refl _ _ | assumption | refine ba ?_ _ | refine bd ?_ | refine bdN ?_ _ | refine bs ?_ (by first | exact Nat.le_refl _ | (dsimp only; omega) | (simp; done)) _ | refine bt ?_ (by assumption)))⟩
    rw [Hs.out]
  · have Hs := Lib.hid (stampIn_yes hk (show dirAt ds (r, p) = (k : Int) from h1))
    obtain ⟨b, off, cap, bv, e, hD, hb, hbody, c0, c1, c2, c3⟩ := Hr.out.at_ hk
    simp only [Value.slice.injEq] at e
    obtain ⟨rfl, _, rfl⟩ := e
    have H1 := Lib.hid (show dirPtr (some ⟨b, off, none⟩) (dirAt ds (r, p)) = .pointer (some ⟨b, off + k * 4, none⟩) by rw [show dirAt ds (r, p) = (k : Int) from h1]; exact dirPtr_yes b off k)
    generalize ds[k].stamp = st at *
    clear h1 h2 c0 c1 c3 hbody
    go_enter Try.func56, Try.ntmps56
    go_wp2_with (go_at_call 94; refine (impl_dirAt _ ds.length cb ds D (r, p) _ (Hr.out.below (by (repeat (with_reducible first | exact Below.refl _ _ | assumption | refine ba ?_ _ | refine bd ?_ | refine bdN ?_ _ | refine bs ?_ (by first | exact Nat.le_refl _ | (dsimp only; omega) | (simp; done)) _ | refine bt ?_ (by assumption)))))).mono ?_; rintro _ w5 ⟨rfl, hb5⟩; obtain ⟨hc, hf, hs⟩ := bcell hb5; rw [H1.out]; have e2 := ((show Below w.heap.size w w5 by (repeat (with_reducible first | exact Below.refl _ _ | assumption | refine ba ?_ _ | refine bd ?_ | refine bdN ?_ _ | refine bs ?_ (by first | exact Nat.le_refl _ | (dsimp only; omega) | (simp; done)) _ | refine bt ?_ (by assumption)))).cell (p := ⟨b, off + k * 4 + 2, none⟩) hb).trans c2)
    refine bodyPost_ret (v := .agg #[.int .i64 r, .string (mk p), .int .i64 st]) (by simp [results, Try.results56, go_sem, *]) rfl ⟨?_, by (repeat (with_reducible first | exact Below.refl _ _ | assumption | refine ba ?_ _ | refine bd ?_ | refine bdN ?_ _ | refine bs ?_ (by first | exact Nat.le_refl _ | (dsimp only; omega) | (simp; done)) _ | refine bt ?_ (by assumption)))⟩
    rw [Hs.out]
theorem clock_field (r st : Int) (p : Bs) (w : World) : (Instr.field 95 (.agg #[.int .i64 r, .string (mk p), .int .i64 st]) 1).run Try.prog w = .ok (.int .i64 st) w := by
  simp [Instr.field, go_sem, Try.underlying95, Try.underlying3, asAgg]
set_option maxRecDepth 100000 in
set_option maxHeartbeats 2000000 in
theorem impl_StampOf (v : Value) (fs : List Fil) (c : Int) (u : Value) (ds : List Dr) (D : Nat → Prop) (r : Int) (p : Bs) (w : World) (hr : DskIn w D v fs u ds) (hz : ShortK 2000000 fs ds) (hp : p.length ≤ 2000000) :
    Calls Try.prog 16 #[.agg #[v, .int .i64 c, u], .int .i64 r, .string (mk p)] w fun e w' => e = .returned (.int .i64 (stampOf ⟨fs, c, ds⟩ r p)) ∧ Below w.heap.size w w' := by
  have Hr := Lib.hid hr
  have Hz := Lib.hid hz
  obtain ⟨⟨aa, ca, rfl, hl, hm⟩, ⟨ab, cb, rfl, hl', hm'⟩⟩ := hr.len
  clear hr hz hm hm'
  have Hv := Lib.hid (show stampOf ⟨fs, c, ds⟩ r p = if okDisk ⟨fs, c, ds⟩ && (inr r 0 2 && vpk p) then stampIn ds (r, p) else -1 from rfl)
  generalize stampOf ⟨fs, c, ds⟩ r p = res at *
  cases hA : (inr r 0 2 && vpk p)
  · have HA := Lib.hid hA
    rw [hA, Bool.and_false, if_neg (by simp)] at Hv
    clear hA
    go_enter Try.func16, Try.ntmps16
    go_wp2_with (go_at_call 55; refine (impl_validDirPlace _ _ _ (by omega)).mono ?_; (rintro _ _ ⟨rfl, hb⟩; obtain ⟨hc, hf, hs⟩ := bcell hb); rw [HA.out])
    go_ret
    rw [Hv.out]
    exact ⟨rfl, by (repeat (with_reducible first | exact Below.refl _ _ | assumption | refine ba ?_ _ | refine bd ?_ | refine bdN ?_ _ | refine bs ?_ (by first | exact Nat.le_refl _ | (dsimp only; omega) | (simp; done)) _ | refine bt ?_ (by assumption)))⟩
  · have HA := Lib.hid hA
    rw [hA, Bool.and_true] at Hv
    clear hA
    cases hB : okDisk ⟨fs, c, ds⟩
    · have HB := Lib.hid hB
      rw [hB, if_neg (by simp)] at Hv
      clear hB
      go_enter Try.func16, Try.ntmps16
      go_wp2_with (first
        | (go_at_call 55; refine (impl_validDirPlace _ _ _ (by omega)).mono ?_; (rintro _ _ ⟨rfl, hb⟩; obtain ⟨hc, hf, hs⟩ := bcell hb); rw [HA.out])
        | (go_at_call 17; refine (impl_ValidDisk _ fs _ _ ds D _ (Hr.out.below (by (repeat (with_reducible first | exact Below.refl _ _ | assumption | refine ba ?_ _ | refine bd ?_ | refine bdN ?_ _ | refine bs ?_ (by first | exact Nat.le_refl _ | (dsimp only; omega) | (simp; done)) _ | refine bt ?_ (by assumption))))) Hz.out).mono ?_; (rintro _ _ ⟨rfl, hb⟩; obtain ⟨hc, hf, hs⟩ := bcell hb); rw [HB.out]))
      go_ret
      rw [Hv.out]
      exact ⟨rfl, by (repeat (with_reducible first | exact Below.refl _ _ | assumption | refine ba ?_ _ | refine bd ?_ | refine bdN ?_ _ | refine bs ?_ (by first | exact Nat.le_refl _ | (dsimp only; omega) | (simp; done)) _ | refine bt ?_ (by assumption)))⟩
    · have HB := Lib.hid hB
      rw [hB, if_pos rfl] at Hv
      clear hB
      have qF := clock_field r (stampIn ds (r, p)) p
      go_enter Try.func16, Try.ntmps16
      go_wp2_with (first
        | (go_at_call 55; refine (impl_validDirPlace _ _ _ (by omega)).mono ?_; (rintro _ _ ⟨rfl, hb⟩; obtain ⟨hc, hf, hs⟩ := bcell hb); rw [HA.out])
        | (go_at_call 17; refine (impl_ValidDisk _ fs _ _ ds D _ (Hr.out.below (by (repeat (with_reducible first | exact Below.refl _ _ | assumption | refine ba ?_ _ | refine bd ?_ | refine bdN ?_ _ | refine bs ?_ (by first | exact Nat.le_refl _ | (dsimp only; omega) | (simp; done)) _ | refine bt ?_ (by assumption))))) Hz.out).mono ?_; rintro _ w5 ⟨rfl, hb5⟩; rw [HB.out]
           have hx := (BoxC.start w #[.slice aa fs.length ca, .int .i64 c, .slice ab ds.length cb] 28).below (show Below _ _ w5 by (repeat (with_reducible first | exact Below.refl _ _ | assumption | refine ba ?_ _ | refine bd ?_ | refine bdN ?_ _ | refine bs ?_ (by first | exact Nat.le_refl _ | (dsimp only; omega) | (simp; done)) _ | refine bt ?_ (by assumption))))
           have hy := ((BoxC.start (w.alloc (.cells #[.slice aa fs.length ca, .int .i64 c, .slice ab ds.length cb] 28)) #[.int .i64 r, .string (mk p)] 92).below (show Below _ _ w5 by (repeat (with_reducible first | exact Below.refl _ _ | assumption | refine ba ?_ _ | refine bd ?_ | refine bdN ?_ _ | refine bs ?_ (by first | exact Nat.le_refl _ | (dsimp only; omega) | (simp; done)) _ | refine bt ?_ (by assumption))))).at (show _ = w.heap.size + 1 by simp)
           have x0 : w5.cell? ⟨w.heap.size, 0, none⟩ = some (.slice aa fs.length ca) := hx.2 0
           have x1 : w5.cell? ⟨w.heap.size, 1, none⟩ = some (.int .i64 c) := hx.2 1
           have x2 : w5.cell? ⟨w.heap.size, 2, none⟩ = some (.slice ab ds.length cb) := hx.2 2
           have y0 : w5.cell? ⟨w.heap.size + 1, 0, none⟩ = some (.int .i64 r) := hy.2 0
           have y1 : w5.cell? ⟨w.heap.size + 1, 1, none⟩ = some (.string (mk p)) := hy.2 1
           clear hx hy)
        | (go_at_call 56; refine (impl_stampOnDisk _ _ _ ds D r p _ (Hr.out.2.below (by (repeat (with_reducible first | exact Below.refl _ _ | assumption | refine ba ?_ _ | refine bd ?_ | refine bdN ?_ _ | refine bs ?_ (by first | exact Nat.le_refl _ | (dsimp only; omega) | (simp; done)) _ | refine bt ?_ (by assumption)))))).mono ?_; (rintro _ _ ⟨rfl, hb⟩; obtain ⟨hc, hf, hs⟩ := bcell hb)))
      go_ret
      rw [Hv.out]
      exact ⟨rfl, by (repeat (with_reducible first | exact Below.refl _ _ | assumption | refine ba ?_ _ | refine bd ?_ | refine bdN ?_ _ | refine bs ?_ (by first | exact Nat.le_refl _ | (dsimp only; omega) | (simp; done)) _ | refine bt ?_ (by assumption)))⟩

/-! ### Contract of the model's function that says whether directories are valid. -/
theorem still_belowK {P : Program} {f : FuncId} {args : Array Value} {w : World} {v : Value} (h : Calls P f args w fun e w' => e = .returned v ∧ w = w') :
    Calls P f args w fun e w' => e = .returned v ∧ Below w.heap.size w w' := h.mono fun _ _ hh => ⟨hh.1, by rw [← hh.2]; exact Below.refl _ _⟩
/-! ### The model. -/
set_option maxRecDepth 100000 in
set_option maxHeartbeats 2000000 in
theorem spec_validDirs (v : Value) (ds : List Dr) (D : Nat → Prop) (w : World) (hr : DirsIn w D v ds) (hz : ShortD 3000000 ds) :
    Calls Try.prog 86 #[v] w fun e w' => e = .returned (.bool (okDirs ds 200 12)) ∧ Below w.heap.size w w' := by
  have Hr := Lib.hid hr
  have Hz := Lib.hid hz
  obtain ⟨aa, ca, rfl, hl, hm⟩ := hr.len
  unfold maxLen at hm
  clear hr hz
  go_enter Try.func86, Try.ntmps86
  go_wp2_with fail
  go_loopw [3] (fun iv wr => ∃ k : Nat, k ≤ ds.length ∧ iv = .int .i64 k ∧ Below w.heap.size w wr ∧ (∀ i (h : i < ds.length), i < k → okDr 200 12 ds[i] = true) ∧ ∀ i (h : i < ds.length), i < k → (i : Int) ≤ keyAt dplace ds (dplace ds[i])) (fun iv _ => ds.length - (intOf iv).toNat)
  case atStart => exact ⟨0, by omega, rfl, Below.refl _ _, fun i _ h => absurd h (by omega), fun i _ h => absurd h (by omega)⟩
  case round =>
    obtain ⟨k, hk, rfl, hbel, ha, hd⟩ := hrel
    have Ha := Lib.hid ha
    have Hd := Lib.hid hd
    clear ha hd
    by_cases hlt : k < ds.length
    · obtain ⟨b, off, cap, bv, e, hD, hb, hbody, c0, c1, c2, c3⟩ := (Hr.out.below hbel).at_ hlt
      simp only [Value.slice.injEq] at e
      obtain ⟨rfl, _, rfl⟩ := e
      obtain ⟨ba', bc', rfl, hbl, hbm⟩ := hbody.len
      unfold maxLen at hbm
      obtain ⟨z1, z3⟩ := Hz.out _ (List.getElem_mem hlt)
      clear hbody z3
      have Hn := Lib.hid (okDirs_dr (most := 200) (nm := 12) k hlt)
      have Hu := Lib.hid (keys_dup (key := dplace) k hlt)
      obtain ⟨f, hf⟩ : ∃ f, f = ds[k] := ⟨_, rfl⟩
      rw [← hf] at c0 c1 c2 c3 z1 hbl Hn Hu
      have Hf := Lib.hid hf
      clear hf
      obtain ⟨fr, fp, fst, fb⟩ := f
      dsimp only at c0 c1 c2 c3 z1 hbl
      have Hbe := Lib.hid hbel
      have hk1 : (k : Int) < (ds.length : Int) := by omega
      have hk0 : (0 : Int) ≤ (k : Int) := by omega
      have k0 := cell_regrown c0
      have k1 := cell_regrown c1
      have k2 := cell_regrown c2
      have k3 := cell_regrown c3
      clear c0 c1 c2 c3
      have cR : ∀ d os (x lo hi : Int), Calls Try.prog 46 #[.int .i64 x, .int .i64 lo, .int .i64 hi] (grow (redrawn wr d) os) fun e w'' => e = .returned (.bool (inr x lo hi)) ∧ ∃ p : Regrown, w'' = grow (redrawn wr p.d) p.os := fun d os x lo hi =>
        Calls.regrown_of (still_belowK (spec_inRange' x lo hi _))
      have cV : ∀ d os, Calls Try.prog 78 #[.string (mk fp)] (grow (redrawn wr d) os) fun e w'' => e = .returned (.bool (vpk fp)) ∧ ∃ p : Regrown, w'' = grow (redrawn wr p.d) p.os := fun d os =>
        Calls.regrown_of (spec_validPackage fp _ (by omega))
      have cD : ∀ d os, Calls Try.prog 116 #[.slice (some ⟨b, off, none⟩) ds.length ca, .int .i64 fr, .string (mk fp)] (grow (redrawn wr d) os) fun e w'' => e = .returned (.int .i64 (dirAt ds (fr, fp))) ∧ ∃ p : Regrown, w'' = grow (redrawn wr p.d) p.os := fun d os =>
        Calls.regrown_of (spec_dirAt (some ⟨b, off, none⟩) ds.length ca ds D fr fp (grow (redrawn wr d) os) (Hr.out.below (bt Hbe.out (below_regrown wr d os))))
      have hkr := keyAt_range (key := dplace) ds (fr, fp)
      have Hq := Lib.hid (show dirAt ds (fr, fp) = keyAt dplace ds (dplace ⟨fr, fp, fst, fb⟩) from rfl)
      rw [show keyAt dplace ds (fr, fp) = dirAt ds (fr, fp) from rfl] at hkr
      generalize dirAt ds (fr, fp) = n0 at *
      have Hok := Lib.hid (show okDr 200 12 ⟨fr, fp, fst, fb⟩ = (inr fr 0 2 && vpk fp && inr fst 0 200 && decide (fb.length ≤ 12)) from rfl)
      obtain ⟨x1, e1⟩ : ∃ x, inr fr 0 2 = x := ⟨_, rfl⟩
      obtain ⟨x2, e2⟩ : ∃ x, vpk fp = x := ⟨_, rfl⟩
      obtain ⟨x3, e3⟩ : ∃ x, inr fst 0 200 = x := ⟨_, rfl⟩
      rw [e1, e2, e3] at Hok
      by_cases hall : (x1 && x2 && x3) = true ∧ ¬ (n0 < (k : Int)) ∧ ¬ (12 < (fb.length : Int))
      · obtain ⟨h123, h4, h5⟩ := hall
        simp only [Bool.and_eq_true] at h123
        obtain ⟨⟨rfl, rfl⟩, rfl⟩ := h123
        have Hok2 := Lib.hid (show okDr 200 12 ⟨fr, fp, fst, fb⟩ = true by rw [Hok.out]; simp; omega)
        have H4 := Lib.hid (show (k : Int) ≤ n0 by omega)
        have H4b := Lib.hid (show (n0 < (k : Int)) = False from eq_false h4)
        have H5b := Lib.hid (show ((12 : Int) < (fb.length : Int)) = False from eq_false h5)
        go_wp2_with fail
        have h4b := H4b.out
        have h5b := H5b.out
        refine wp_region_quiet_below (by kernel_rfl) (by kernel_rfl) ?_
        repeat (go_big_quiet_step (first | exact cR _ _ _ _ _ | exact cV _ _ | exact cD _ _))
        refine wpQuiet_nil ?_
        intro _ hw'
        obtain ⟨⟨dq, osq⟩, hw2⟩ := hw'
        subst hw2
        have Hb7 := Lib.hid (bt Hbe.out (below_regrown wr dq osq))
        clear cR cV cD k0 k1 k2 k3
        go_wp2_with fail
        go_roundw
        case rel =>
          refine ⟨k + 1, by omega, by go_num, Hb7.out, fun i h1 hi => ?_, fun i h1 hi => ?_⟩
          · by_cases e : i = k
            · subst e; rw [← Hf.out]; exact Hok2.out
            · exact Ha.out i h1 (by omega)
          · by_cases e : i = k
            · subst e; rw [← Hf.out, ← Hq.out]; exact H4.out
            · exact Hd.out i h1 (by omega)
        case measure => simp [intOf]; omega
      · have Hv := Lib.hid (show okDirs ds 200 12 = false by
          by_cases h4 : n0 < (k : Int)
          · exact okDirs_dup (Hu.out (by rw [← Hq.out]; exact h4))
          · refine Hn.out ?_
            rw [Hok.out]
            by_cases h5 : 12 < (fb.length : Int)
            · have : decide (fb.length ≤ 12) = false := by simp only [decide_eq_false_iff_not]; omega
              rw [this, Bool.and_false]
            · have : (x1 && x2 && x3) = false := by
                cases hx : (x1 && x2 && x3)
                · rfl
                · exact absurd ⟨hx, h4, h5⟩ hall
              rw [this, Bool.false_and])
        clear Hok Hq Hn Hu
        have hc : x1 = false ∨ (x1 = true ∧ x2 = false) ∨ (x1 = true ∧ x2 = true ∧ x3 = false) ∨ (x1 = true ∧ x2 = true ∧ x3 = true ∧ n0 < (k : Int)) ∨ (x1 = true ∧ x2 = true ∧ x3 = true ∧ ¬ n0 < (k : Int) ∧ 12 < (fb.length : Int)) := by
          cases x1
          · exact .inl rfl
          cases x2
          · exact .inr (.inl ⟨rfl, rfl⟩)
          cases x3
          · exact .inr (.inr (.inl ⟨rfl, rfl, rfl⟩))
          by_cases h4 : n0 < (k : Int)
          · exact .inr (.inr (.inr (.inl ⟨rfl, rfl, rfl, h4⟩)))
          · refine .inr (.inr (.inr (.inr ⟨rfl, rfl, rfl, h4, ?_⟩)))
            by_cases h5 : 12 < (fb.length : Int)
            · exact h5
            · exact absurd ⟨rfl, h4, h5⟩ hall
        clear hall
        have Hb4 := Lib.hid (fun (h : ¬ n0 < (k : Int)) => eq_false h)
        have Hb5 := Lib.hid (fun (h : 12 < (fb.length : Int)) => eq_true h)
        rcases hc with rfl | ⟨rfl, rfl⟩ | ⟨rfl, rfl, rfl⟩ | ⟨rfl, rfl, rfl, h4⟩ | ⟨rfl, rfl, rfl, h4, h5⟩
        all_goals
          go_wp2_with fail
          try have h4b := Hb4.out (by omega)
          try have h5b := Hb5.out (by omega)
          refine wp_region_quiet_below (by kernel_rfl) (by kernel_rfl) ?_
          repeat (go_big_quiet_step (first | exact cR _ _ _ _ _ | exact cV _ _ | exact cD _ _))
          refine wpQuiet_nil ?_
          intro _ hw'
          obtain ⟨⟨dq, osq⟩, hw2⟩ := hw'
          subst hw2
          have Hb7 := Lib.hid (bt Hbe.out (below_regrown wr dq osq))
          clear cR cV cD k0 k1 k2 k3
          go_wp2_with fail
          go_ret
          rw [Hv.out]
          exact ⟨rfl, Hb7.out⟩
    · have hv := Lib.hid (okDirs_all (most := 200) (nm := 12) (fun i h => Ha.out i h (by omega)) (keys_nodup (fun i h => Hd.out i h (by omega))))
      go_wp2_with fail
      go_ret
      refine ⟨ret_bool ?_, hbel⟩
      rw [hv.out]
      try simp
      try omega

/-! ### Contracts of the model's functions that say whether disks and finders are valid, and of StampOf. -/
set_option maxRecDepth 100000 in
set_option maxHeartbeats 2000000 in
theorem spec_validDisk (v : Value) (fs : List Fil) (c : Int) (u : Value) (ds : List Dr) (D : Nat → Prop) (w : World) (hr : DskIn w D v fs u ds) (hz : ShortK 2000000 fs ds) :
    Calls Try.prog 45 #[.agg #[v, .int .i64 c, u]] w fun e w' => e = .returned (.bool (okDisk ⟨fs, c, ds⟩)) ∧ Below w.heap.size w w' := by
  have Hr := Lib.hid hr
  obtain ⟨⟨aa, ca, rfl, hl, hm⟩, ⟨ab, cb, rfl, hl', hm'⟩⟩ := hr.len
  unfold maxLen at hm'
  have Hz1 := Lib.hid (shortT_mono (B := 3000000) (by omega) hz.1)
  have Hz2 := Lib.hid (shortD_mono (B := 3000000) (by omega) hz.2)
  clear hr hz hm
  go_enter Try.func45, Try.ntmps45
  go_wp2_with fail
  go_loopw [3] (fun iv wr => ∃ k : Nat, k ≤ ds.length ∧ iv = .int .i64 k ∧ Boxed w #[.slice aa fs.length ca, .int .i64 c, .slice ab ds.length cb] 28 wr ∧ ∀ i (h : i < ds.length), i < k → ds[i].stamp ≤ c ∧ ds[i].names.length ≤ 0) (fun iv _ => ds.length - (intOf iv).toNat)
  case atStart => exact ⟨0, by omega, rfl, Boxed.start _ _ _, fun i _ h => absurd h (by omega)⟩
  case round =>
    obtain ⟨k, hk, rfl, hbx, ha⟩ := hrel
    have hbel := hbx.below
    have hA : wr.cell? ⟨w.heap.size, 0, none⟩ = some (.slice aa fs.length ca) := hbx.cell 0
    have hB : wr.cell? ⟨w.heap.size, 1, none⟩ = some (.int .i64 c) := hbx.cell 1
    have hC : wr.cell? ⟨w.heap.size, 2, none⟩ = some (.slice ab ds.length cb) := hbx.cell 2
    have hsz := hbx.lt
    have Hbx := Lib.hid hbx
    have Ha := Lib.hid ha
    clear ha hbx
    by_cases hlt : k < ds.length
    · obtain ⟨b, off, cap, bv, e, hD, hb, hbody, c0, c1, c2, c3⟩ := (Hr.out.2.below hbel).at_ hlt
      simp only [Value.slice.injEq] at e
      obtain ⟨rfl, _, rfl⟩ := e
      obtain ⟨ba', bc', rfl, hbl, hbm⟩ := hbody.len
      unfold maxLen at hbm
      clear hbody
      have Hn := Lib.hid (okDisk_late (fs := fs) (c := c) k hlt)
      obtain ⟨f, hf⟩ : ∃ f, f = ds[k] := ⟨_, rfl⟩
      rw [← hf] at c0 c1 c2 c3 hbl Hn
      have Hf := Lib.hid hf
      clear hf
      obtain ⟨fr, fp, fst, fb⟩ := f
      dsimp only at c0 c1 c2 c3 hbl Hn
      have Hbe := Lib.hid hbel
      have hk1 : (k : Int) < (ds.length : Int) := by omega
      have hk0 : (0 : Int) ≤ (k : Int) := by omega
      by_cases h1 : c < fst
      · have Hv := Lib.hid (Hn.out (.inl h1))
        go_wp2_with fail
        go_quiet (fail)
        go_wp2_with fail
        go_ret
        rw [Hv.out]
        exact ⟨rfl, by have h := Hbe.out; (repeat (with_reducible first | exact Below.refl _ _ | assumption | refine ba ?_ _ | refine bd ?_ | refine bdN ?_ _ | refine bs ?_ (by first | exact Nat.le_refl _ | (dsimp only; omega) | (simp; done)) _ | refine bt ?_ (by assumption)))⟩
      · by_cases h2 : 0 < (fb.length : Int)
        · have Hv := Lib.hid (Hn.out (.inr (by omega)))
          go_wp2_with fail
          go_quiet (fail)
          go_wp2_with fail
          go_ret
          rw [Hv.out]
          exact ⟨rfl, by have h := Hbe.out; (repeat (with_reducible first | exact Below.refl _ _ | assumption | refine ba ?_ _ | refine bd ?_ | refine bdN ?_ _ | refine bs ?_ (by first | exact Nat.le_refl _ | (dsimp only; omega) | (simp; done)) _ | refine bt ?_ (by assumption)))⟩
        · have H1 := Lib.hid h1
          have H2 := Lib.hid h2
          go_wp2_with fail
          go_quiet (fail)
          go_wp2_with fail
          go_roundw
          case rel =>
            refine ⟨k + 1, by omega, by go_num, Hbx.out.step (by (repeat (with_reducible first | exact Below.refl _ _ | assumption | refine ba ?_ _ | refine bd ?_ | refine bdN ?_ _ | refine bs ?_ (by first | exact Nat.le_refl _ | (dsimp only; omega) | (simp; done)) _ | refine bt ?_ (by assumption)))), fun i h1 hi => ?_⟩
            by_cases e : i = k
            · subst e; rw [← Hf.out]; exact ⟨by have := H1.out; dsimp only; omega, by have := H2.out; dsimp only; omega⟩
            · exact Ha.out i h1 (by omega)
          case measure => simp [intOf]; omega
    · have Hv := Lib.hid (okDisk_eq (fs := fs) (c := c) (ds := ds) (fun i h => Ha.out i h (by omega)))
      have hbe := Lib.hid hbel
      go_wp2_with (first
        | (go_at_call 46; refine (spec_inRange' _ _ _ _).mono ?_; rintro _ _ ⟨rfl, rfl⟩)
        | (go_at_call 86; refine (spec_validDirs _ ds D _ (Hr.out.2.below (by (repeat (with_reducible first | exact Below.refl _ _ | assumption | refine ba ?_ _ | refine bd ?_ | refine bdN ?_ _ | refine bs ?_ (by first | exact Nat.le_refl _ | (dsimp only; omega) | (simp; done)) _ | refine bt ?_ (by assumption))))) Hz2.out).mono ?_; (rintro _ _ ⟨rfl, hb⟩; obtain ⟨hc, hf, hs⟩ := bcell hb))
        | (go_at_call 85; refine (spec_validTree _ fs D _ (Hr.out.1.below (by (repeat (with_reducible first | exact Below.refl _ _ | assumption | refine ba ?_ _ | refine bd ?_ | refine bdN ?_ _ | refine bs ?_ (by first | exact Nat.le_refl _ | (dsimp only; omega) | (simp; done)) _ | refine bt ?_ (by assumption))))) Hz1.out).mono ?_; (rintro _ _ ⟨rfl, hb⟩; obtain ⟨hc, hf, hs⟩ := bcell hb)))
      all_goals (go_ret; refine ⟨ret_bool ?_, by (repeat (with_reducible first | exact Below.refl _ _ | assumption | refine ba ?_ _ | refine bd ?_ | refine bdN ?_ _ | refine bs ?_ (by first | exact Nat.le_refl _ | (dsimp only; omega) | (simp; done)) _ | refine bt ?_ (by assumption)))⟩; rw [Hv.out]; simp_all)
set_option maxRecDepth 100000 in
set_option maxHeartbeats 400000 in
theorem spec_ValidDisk (v : Value) (fs : List Fil) (c : Int) (u : Value) (ds : List Dr) (D : Nat → Prop) (w : World) (hr : DskIn w D v fs u ds) (hz : ShortK 2000000 fs ds) :
    Calls Try.prog 37 #[.agg #[v, .int .i64 c, u]] w fun e w' => e = .returned (.bool (okDisk ⟨fs, c, ds⟩)) ∧ Below w.heap.size w w' := by
  have Hr := Lib.hid hr
  obtain ⟨⟨aa, ca, rfl, hl, hm⟩, ⟨ab, cb, rfl, hl', hm'⟩⟩ := hr.len
  have Hz := Lib.hid hz
  clear hr hz hm hm'
  go_enter Try.func37, Try.ntmps37
  go_wp2_with (go_at_call 45; refine (spec_validDisk _ fs c _ ds D _ (Hr.out.below (by (repeat (with_reducible first | exact Below.refl _ _ | assumption | refine ba ?_ _ | refine bd ?_ | refine bdN ?_ _ | refine bs ?_ (by first | exact Nat.le_refl _ | (dsimp only; omega) | (simp; done)) _ | refine bt ?_ (by assumption))))) Hz.out).mono ?_; (rintro _ _ ⟨rfl, hb⟩; obtain ⟨hc, hf, hs⟩ := bcell hb))
  go_ret
  exact ⟨rfl, by (repeat (with_reducible first | exact Below.refl _ _ | assumption | refine ba ?_ _ | refine bd ?_ | refine bdN ?_ _ | refine bs ?_ (by first | exact Nat.le_refl _ | (dsimp only; omega) | (simp; done)) _ | refine bt ?_ (by assumption)))⟩
set_option maxRecDepth 100000 in
set_option maxHeartbeats 1000000 in
theorem spec_validFinder (u : Value) (ds : List Dr) (f h : Int) (D : Nat → Prop) (w : World) (hr : DirsIn w D u ds) (hz : ShortD 2000000 ds) :
    Calls Try.prog 76 #[.agg #[u, .int .i64 f, .int .i64 h]] w fun e w' => e = .returned (.bool (okFnd ⟨ds, f, h⟩)) ∧ Below w.heap.size w w' := by
  have Hr := Lib.hid hr
  obtain ⟨ab, cb, rfl, hl', hm'⟩ := hr.len
  have Hz2 := Lib.hid (shortD_mono (B := 3000000) (by omega) hz)
  have Hv := Lib.hid (show okFnd ⟨ds, f, h⟩ = (inr f 0 1000 && inr h 0 1000 && okDirs ds 200 12) from rfl)
  clear hr hz hm'
  generalize okFnd ⟨ds, f, h⟩ = res at *
  go_enter Try.func76, Try.ntmps76
  go_wp2_with (first
    | (go_at_call 46; refine (spec_inRange' _ _ _ _).mono ?_; rintro _ _ ⟨rfl, rfl⟩)
    | (go_at_call 86; refine (spec_validDirs _ ds D _ (Hr.out.below (by (repeat (with_reducible first | exact Below.refl _ _ | assumption | refine ba ?_ _ | refine bd ?_ | refine bdN ?_ _ | refine bs ?_ (by first | exact Nat.le_refl _ | (dsimp only; omega) | (simp; done)) _ | refine bt ?_ (by assumption))))) Hz2.out).mono ?_; (rintro _ _ ⟨rfl, hb⟩; obtain ⟨hc, hf, hs⟩ := bcell hb)))
  all_goals (go_ret; refine ⟨ret_bool ?_, by (repeat (with_reducible first | exact Below.refl _ _ | assumption | refine ba ?_ _ | refine bd ?_ | refine bdN ?_ _ | refine bs ?_ (by first | exact Nat.le_refl _ | (dsimp only; omega) | (simp; done)) _ | refine bt ?_ (by assumption)))⟩; rw [Hv.out]; simp_all)
set_option maxRecDepth 100000 in
set_option maxHeartbeats 400000 in
theorem spec_ValidFinder (u : Value) (ds : List Dr) (f h : Int) (D : Nat → Prop) (w : World) (hr : DirsIn w D u ds) (hz : ShortD 2000000 ds) :
    Calls Try.prog 39 #[.agg #[u, .int .i64 f, .int .i64 h]] w fun e w' => e = .returned (.bool (okFnd ⟨ds, f, h⟩)) ∧ Below w.heap.size w w' := by
  have Hr := Lib.hid hr
  obtain ⟨ab, cb, rfl, hl', hm'⟩ := hr.len
  have Hz := Lib.hid hz
  clear hr hz hm'
  go_enter Try.func39, Try.ntmps39
  go_wp2_with (go_at_call 76; refine (spec_validFinder _ ds f h D _ (Hr.out.below (by (repeat (with_reducible first | exact Below.refl _ _ | assumption | refine ba ?_ _ | refine bd ?_ | refine bdN ?_ _ | refine bs ?_ (by first | exact Nat.le_refl _ | (dsimp only; omega) | (simp; done)) _ | refine bt ?_ (by assumption))))) Hz.out).mono ?_; (rintro _ _ ⟨rfl, hb⟩; obtain ⟨hc, hf, hs⟩ := bcell hb))
  go_ret
  exact ⟨rfl, by (repeat (with_reducible first | exact Below.refl _ _ | assumption | refine ba ?_ _ | refine bd ?_ | refine bdN ?_ _ | refine bs ?_ (by first | exact Nat.le_refl _ | (dsimp only; omega) | (simp; done)) _ | refine bt ?_ (by assumption)))⟩
set_option maxRecDepth 100000 in
set_option maxHeartbeats 1000000 in
theorem spec_stampOf (v : Value) (c : Int) (u : Value) (ds : List Dr) (D : Nat → Prop) (r : Int) (p : Bs) (w : World) (hr : DirsIn w D u ds) :
    Calls Try.prog 79 #[.agg #[v, .int .i64 c, u], .int .i64 r, .string (mk p)] w fun e w' => e = .returned (.int .i64 (stampIn ds (r, p))) ∧ Below w.heap.size w w' := by
  have Hr := Lib.hid hr
  obtain ⟨ab, cb, rfl, hl', hm'⟩ := hr.len
  unfold maxLen at hm'
  clear hr
  rcases keyAt_is (key := dplace) ds (r, p) with ⟨h1, _⟩ | ⟨k, hk, h1, h2, _⟩
  · have Hs := Lib.hid (stampIn_no (show dirAt ds (r, p) = -1 from h1))
    have H1 := Lib.hid (show dirAt ds (r, p) = -1 from h1)
    clear h1
    go_enter Try.func79, Try.ntmps79
    go_wp2_with (go_at_call 116; refine (spec_dirAt ab ds.length cb ds D r p _ (Hr.out.below (by (repeat (with_reducible first | exact Below.refl _ _ | assumption | refine ba ?_ _ | refine bd ?_ | refine bdN ?_ _ | refine bs ?_ (by first | exact Nat.le_refl _ | (dsimp only; omega) | (simp; done)) _ | refine bt ?_ (by assumption)))))).mono ?_; (rintro _ _ ⟨rfl, hb⟩; obtain ⟨hc, hf, hs⟩ := bcell hb); rw [H1.out])
    go_ret
    rw [Hs.out]
    exact ⟨rfl, by (repeat (with_reducible first | exact Below.refl _ _ | assumption | refine ba ?_ _ | refine bd ?_ | refine bdN ?_ _ | refine bs ?_ (by first | exact Nat.le_refl _ | (dsimp only; omega) | (simp; done)) _ | refine bt ?_ (by assumption)))⟩
  · have Hs := Lib.hid (stampIn_yes hk (show dirAt ds (r, p) = (k : Int) from h1))
    obtain ⟨b, off, cap, bv, e, hD, hb, hbody, c0, c1, c2, c3⟩ := Hr.out.at_ hk
    simp only [Value.slice.injEq] at e
    obtain ⟨rfl, _, rfl⟩ := e
    have H1 := Lib.hid (show dirAt ds (r, p) = (k : Int) from h1)
    generalize ds[k].stamp = st at *
    clear h1 h2 c0 c1 c3 hbody
    go_enter Try.func79, Try.ntmps79
    go_wp2_with (go_at_call 116; refine (spec_dirAt _ ds.length cb ds D r p _ (Hr.out.below (by (repeat (with_reducible first | exact Below.refl _ _ | assumption | refine ba ?_ _ | refine bd ?_ | refine bdN ?_ _ | refine bs ?_ (by first | exact Nat.le_refl _ | (dsimp only; omega) | (simp; done)) _ | refine bt ?_ (by assumption)))))).mono ?_; (rintro _ _ ⟨rfl, hb⟩; obtain ⟨hc, hf, hs⟩ := bcell hb); rw [H1.out])
    go_ret
    rw [Hs.out]
    exact ⟨rfl, by (repeat (with_reducible first | exact Below.refl _ _ | assumption | refine ba ?_ _ | refine bd ?_ | refine bdN ?_ _ | refine bs ?_ (by first | exact Nat.le_refl _ | (dsimp only; omega) | (simp; done)) _ | refine bt ?_ (by assumption)))⟩
set_option maxRecDepth 100000 in
set_option maxHeartbeats 2000000 in
theorem spec_StampOf (v : Value) (fs : List Fil) (c : Int) (u : Value) (ds : List Dr) (D : Nat → Prop) (r : Int) (p : Bs) (w : World) (hr : DskIn w D v fs u ds) (hz : ShortK 2000000 fs ds) (hp : p.length ≤ 2000000) :
    Calls Try.prog 35 #[.agg #[v, .int .i64 c, u], .int .i64 r, .string (mk p)] w fun e w' => e = .returned (.int .i64 (stampOf ⟨fs, c, ds⟩ r p)) ∧ Below w.heap.size w w' := by
  have Hr := Lib.hid hr
  have Hz := Lib.hid hz
  obtain ⟨⟨aa, ca, rfl, hl, hm⟩, ⟨ab, cb, rfl, hl', hm'⟩⟩ := hr.len
  clear hr hz hm hm'
  have Hv := Lib.hid (show stampOf ⟨fs, c, ds⟩ r p = if okDisk ⟨fs, c, ds⟩ && (inr r 0 2 && vpk p) then stampIn ds (r, p) else -1 from rfl)
  generalize stampOf ⟨fs, c, ds⟩ r p = res at *
  cases hB : okDisk ⟨fs, c, ds⟩
  · have HB := Lib.hid hB
    rw [hB, Bool.false_and, if_neg (by simp)] at Hv
    clear hB
    go_enter Try.func35, Try.ntmps35
    go_wp2_with (go_at_call 45; refine (spec_validDisk _ fs c _ ds D _ (Hr.out.below (by (repeat (with_reducible first | exact Below.refl _ _ | assumption | refine ba ?_ _ | refine bd ?_ | refine bdN ?_ _ | refine bs ?_ (by first | exact Nat.le_refl _ | (dsimp only; omega) | (simp; done)) _ | refine bt ?_ (by assumption))))) Hz.out).mono ?_; (rintro _ _ ⟨rfl, hb⟩; obtain ⟨hc, hf, hs⟩ := bcell hb); rw [HB.out])
    go_ret
    rw [Hv.out]
    exact ⟨rfl, by (repeat (with_reducible first | exact Below.refl _ _ | assumption | refine ba ?_ _ | refine bd ?_ | refine bdN ?_ _ | refine bs ?_ (by first | exact Nat.le_refl _ | (dsimp only; omega) | (simp; done)) _ | refine bt ?_ (by assumption)))⟩
  · have HB := Lib.hid hB
    rw [hB, Bool.true_and] at Hv
    clear hB
    cases hA : inr r 0 2
    · have HA := Lib.hid hA
      have HC := Lib.hid (rfl : vpk p = vpk p)
      rw [hA, Bool.false_and, if_neg (by simp)] at Hv
      clear hA
      go_enter Try.func35, Try.ntmps35
      go_wp2_with (first
        | (go_at_call 45; refine (spec_validDisk _ fs c _ ds D _ (Hr.out.below (by (repeat (with_reducible first | exact Below.refl _ _ | assumption | refine ba ?_ _ | refine bd ?_ | refine bdN ?_ _ | refine bs ?_ (by first | exact Nat.le_refl _ | (dsimp only; omega) | (simp; done)) _ | refine bt ?_ (by assumption))))) Hz.out).mono ?_; (rintro _ _ ⟨rfl, hb⟩; obtain ⟨hc, hf, hs⟩ := bcell hb); rw [HB.out])
        | ((go_at_call 46; refine (spec_inRange' _ _ _ _).mono ?_; rintro _ _ ⟨rfl, rfl⟩); rw [HA.out])
        | (go_at_call 78; refine (spec_validPackage _ _ (by omega)).mono ?_; (rintro _ _ ⟨rfl, hb⟩; obtain ⟨hc, hf, hs⟩ := bcell hb); rw [HC.out])
        | (go_at_call 79; refine (spec_stampOf _ _ _ ds D r p _ (Hr.out.2.below (by (repeat (with_reducible first | exact Below.refl _ _ | assumption | refine ba ?_ _ | refine bd ?_ | refine bdN ?_ _ | refine bs ?_ (by first | exact Nat.le_refl _ | (dsimp only; omega) | (simp; done)) _ | refine bt ?_ (by assumption)))))).mono ?_; (rintro _ _ ⟨rfl, hb⟩; obtain ⟨hc, hf, hs⟩ := bcell hb)))
      go_ret
      rw [Hv.out]
      exact ⟨rfl, by (repeat (with_reducible first | exact Below.refl _ _ | assumption | refine ba ?_ _ | refine bd ?_ | refine bdN ?_ _ | refine bs ?_ (by first | exact Nat.le_refl _ | (dsimp only; omega) | (simp; done)) _ | refine bt ?_ (by assumption)))⟩
    · have HA := Lib.hid hA
      rw [hA, Bool.true_and] at Hv
      clear hA
      cases hC : vpk p
      · have HC := Lib.hid hC
        rw [hC, if_neg (by simp)] at Hv
        clear hC
        go_enter Try.func35, Try.ntmps35
        go_wp2_with (first
          | (go_at_call 45; refine (spec_validDisk _ fs c _ ds D _ (Hr.out.below (by (repeat (with_reducible first | exact Below.refl _ _ | assumption | refine ba ?_ _ | refine bd ?_ | refine bdN ?_ _ | refine bs ?_ (by first | exact Nat.le_refl _ | (dsimp only; omega) | (simp; done)) _ | refine bt ?_ (by assumption))))) Hz.out).mono ?_; (rintro _ _ ⟨rfl, hb⟩; obtain ⟨hc, hf, hs⟩ := bcell hb); rw [HB.out])
          | ((go_at_call 46; refine (spec_inRange' _ _ _ _).mono ?_; rintro _ _ ⟨rfl, rfl⟩); rw [HA.out])
          | (go_at_call 78; refine (spec_validPackage _ _ (by omega)).mono ?_; (rintro _ _ ⟨rfl, hb⟩; obtain ⟨hc, hf, hs⟩ := bcell hb); rw [HC.out])
          | (go_at_call 79; refine (spec_stampOf _ _ _ ds D r p _ (Hr.out.2.below (by (repeat (with_reducible first | exact Below.refl _ _ | assumption | refine ba ?_ _ | refine bd ?_ | refine bdN ?_ _ | refine bs ?_ (by first | exact Nat.le_refl _ | (dsimp only; omega) | (simp; done)) _ | refine bt ?_ (by assumption)))))).mono ?_; (rintro _ _ ⟨rfl, hb⟩; obtain ⟨hc, hf, hs⟩ := bcell hb)))
        go_ret
        rw [Hv.out]
        exact ⟨rfl, by (repeat (with_reducible first | exact Below.refl _ _ | assumption | refine ba ?_ _ | refine bd ?_ | refine bdN ?_ _ | refine bs ?_ (by first | exact Nat.le_refl _ | (dsimp only; omega) | (simp; done)) _ | refine bt ?_ (by assumption)))⟩
      · have HC := Lib.hid hC
        rw [hC, if_pos rfl] at Hv
        clear hC
        go_enter Try.func35, Try.ntmps35
        go_wp2_with (first
          | (go_at_call 45; refine (spec_validDisk _ fs c _ ds D _ (Hr.out.below (by (repeat (with_reducible first | exact Below.refl _ _ | assumption | refine ba ?_ _ | refine bd ?_ | refine bdN ?_ _ | refine bs ?_ (by first | exact Nat.le_refl _ | (dsimp only; omega) | (simp; done)) _ | refine bt ?_ (by assumption))))) Hz.out).mono ?_; (rintro _ _ ⟨rfl, hb⟩; obtain ⟨hc, hf, hs⟩ := bcell hb); rw [HB.out])
          | ((go_at_call 46; refine (spec_inRange' _ _ _ _).mono ?_; rintro _ _ ⟨rfl, rfl⟩); rw [HA.out])
          | (go_at_call 78; refine (spec_validPackage _ _ (by omega)).mono ?_; (rintro _ _ ⟨rfl, hb⟩; obtain ⟨hc, hf, hs⟩ := bcell hb); rw [HC.out])
          | (go_at_call 79; refine (spec_stampOf _ _ _ ds D r p _ (Hr.out.2.below (by (repeat (with_reducible first | exact Below.refl _ _ | assumption | refine ba ?_ _ | refine bd ?_ | refine bdN ?_ _ | refine bs ?_ (by first | exact Nat.le_refl _ | (dsimp only; omega) | (simp; done)) _ | refine bt ?_ (by assumption)))))).mono ?_; (rintro _ _ ⟨rfl, hb⟩; obtain ⟨hc, hf, hs⟩ := bcell hb)))
        go_ret
        rw [Hv.out]
        exact ⟨rfl, by (repeat (with_reducible first | exact Below.refl _ _ | assumption | refine ba ?_ _ | refine bd ?_ | refine bdN ?_ _ | refine bs ?_ (by first | exact Nat.le_refl _ | (dsimp only; omega) | (simp; done)) _ | refine bt ?_ (by assumption)))⟩
end Go.Proofs.Ytgecemngfpgcoaa
