/- Contracts of the model's functions that say whether disks and finders are valid, and of StampOf. -/
import Derived.Test.YtgecemngfpgcoaaDisks3
import Derived.Test.YtgecemngfpgcoaaDisks2
set_option linter.unusedVariables false
set_option linter.unusedSimpArgs false
namespace Go.Proofs.Ytgecemngfpgcoaa
open Go.RowKit Go.Proofs.Ytgecemngfpgcoaa.Nm
open Go.Sort (grow)

set_option maxRecDepth 100000 in
set_option maxHeartbeats 2000000 in
theorem spec_validDisk (v : Value) (fs : List Fil) (c : Int) (u : Value) (ds : List Dr) (D : Nat → Prop) (w : World) (hr : DskIn w D v fs u ds) (hz : ShortK 2000000 fs ds) :
    Calls Try.prog 45 #[.agg #[v, .int .i64 c, u]] w fun e w' => e = .returned (.bool (okDisk ⟨fs, c, ds⟩)) ∧ Below w.heap.size w w' := by
  have Hr := Lib.hid hr
  obtain ⟨⟨aa, ca, rfl, hl, hm⟩, ⟨ab, cb, rfl, hl', hm'⟩⟩ := hr.len
  unfold maxLen at hm'
  have Hz1 := Lib.hid (shortT_mono (B := 3000000) (by omega) hz.1)
  have Hz2 := Lib.hid (shortD_mono (B := 3000000) (by omega) hz.2)
  clear hr hz hm
  go_enter Try.func45, Try.ntmps45
  go_wp2_with fail
  go_loopw [3] (fun iv wr => ∃ k : Nat, k ≤ ds.length ∧ iv = .int .i64 k ∧ Boxed w #[.slice aa fs.length ca, .int .i64 c, .slice ab ds.length cb] 28 wr ∧ ∀ i (h : i < ds.length), i < k → ds[i].stamp ≤ c ∧ ds[i].names.length ≤ 0) (fun iv _ => ds.length - (intOf iv).toNat)
  case atStart => exact ⟨0, by omega, rfl, Boxed.start _ _ _, fun i _ h => absurd h (by omega)⟩
  case round =>
    obtain ⟨k, hk, rfl, hbx, ha⟩ := hrel
    have hbel := hbx.below
    have hA : wr.cell? ⟨w.heap.size, 0, none⟩ = some (.slice aa fs.length ca) := hbx.cell 0
    have hB : wr.cell? ⟨w.heap.size, 1, none⟩ = some (.int .i64 c) := hbx.cell 1
    have hC : wr.cell? ⟨w.heap.size, 2, none⟩ = some (.slice ab ds.length cb) := hbx.cell 2
    have hsz := hbx.lt
    have Hbx := Lib.hid hbx
    have Ha := Lib.hid ha
    clear ha hbx
    by_cases hlt : k < ds.length
    · obtain ⟨b, off, cap, bv, e, hD, hb, hbody, c0, c1, c2, c3⟩ := (Hr.out.2.below hbel).at_ hlt
      simp only [Value.slice.injEq] at e
      obtain ⟨rfl, _, rfl⟩ := e
      obtain ⟨ba', bc', rfl, hbl, hbm⟩ := hbody.len
      unfold maxLen at hbm
      clear hbody
      have Hn := Lib.hid (okDisk_late (fs := fs) (c := c) k hlt)
      obtain ⟨f, hf⟩ : ∃ f, f = ds[k] := ⟨_, rfl⟩
      rw [← hf] at c0 c1 c2 c3 hbl Hn
      have Hf := Lib.hid hf
      clear hf
      obtain ⟨fr, fp, fst, fb⟩ := f
      dsimp only at c0 c1 c2 c3 hbl Hn
      have Hbe := Lib.hid hbel
      have hk1 : (k : Int) < (ds.length : Int) := by omega
      have hk0 : (0 : Int) ≤ (k : Int) := by omega
      by_cases h1 : c < fst
      · have Hv := Lib.hid (Hn.out (.inl h1))
        go_wp2_with fail
        go_quiet (fail)
        go_wp2_with fail
        go_ret
        rw [Hv.out]
        exact ⟨rfl, by have h := Hbe.out; (repeat (with_reducible first | exact Below.refl _ _ | assumption | refine ba ?_ _ | refine bd ?_ | refine bdN ?_ _ | refine bs ?_ (by first | exact Nat.le_refl _ | (dsimp only; omega) | (simp; done)) _ | refine bt ?_ (by assumption)))⟩
      · by_cases h2 : 0 < (fb.length : Int)
        · have Hv := Lib.hid (Hn.out (.inr (by omega)))
          go_wp2_with fail
          go_quiet (fail)
          go_wp2_with fail
          go_ret
          rw [Hv.out]
          exact ⟨rfl, by have h := Hbe.out; (repeat (with_reducible first | exact Below.refl _ _ | assumption | refine ba ?_ _ | refine bd ?_ | refine bdN ?_ _ | refine bs ?_ (by first | exact Nat.le_refl _ | (dsimp only; omega) | (simp; done)) _ | refine bt ?_ (by assumption)))⟩
        · have H1 := Lib.hid h1
          have H2 := Lib.hid h2
          go_wp2_with fail
          go_quiet (fail)
          go_wp2_with fail
          go_roundw
          case rel =>
            refine ⟨k + 1, by omega, by go_num, Hbx.out.step (by (repeat (with_reducible first | exact Below.refl _ _ | assumption | refine ba ?_ _ | refine bd ?_ | refine bdN ?_ _ | refine bs ?_ (by first | exact Nat.le_refl _ | (dsimp only; omega) | (simp; done)) _ | refine bt ?_ (by assumption)))), fun i h1 hi => ?_⟩
            by_cases e : i = k
            · subst e; rw [← Hf.out]; exact ⟨by have := H1.out; dsimp only; omega, by have := H2.out; dsimp only; omega⟩
            · exact Ha.out i h1 (by omega)
          case measure => simp [intOf]; omega
    · have Hv := Lib.hid (okDisk_eq (fs := fs) (c := c) (ds := ds) (fun i h => Ha.out i h (by omega)))
      have hbe := Lib.hid hbel
      go_wp2_with (first
        | (go_at_call 46; refine (spec_inRange' _ _ _ _).mono ?_; rintro _ _ ⟨rfl, rfl⟩)
        | (go_at_call 86; refine (spec_validDirs _ ds D _ (Hr.out.2.below (by (repeat (with_reducible first | exact Below.refl _ _ | assumption | refine ba ?_ _ | refine bd ?_ | refine bdN ?_ _ | refine bs ?_ (by first | exact Nat.le_refl _ | (dsimp only; omega) | (simp; done)) _ | refine bt ?_ (by assumption))))) Hz2.out).mono ?_; (rintro _ _ ⟨rfl, hb⟩; obtain ⟨hc, hf, hs⟩ := bcell hb))
        | (go_at_call 85; refine (spec_validTree _ fs D _ (Hr.out.1.below (by (repeat (with_reducible first | exact Below.refl _ _ | assumption | refine ba ?_ _ | refine bd ?_ | refine bdN ?_ _ | refine bs ?_ (by first | exact Nat.le_refl _ | (dsimp only; omega) | (simp; done)) _ | refine bt ?_ (by assumption))))) Hz1.out).mono ?_; (rintro _ _ ⟨rfl, hb⟩; obtain ⟨hc, hf, hs⟩ := bcell hb)))
      all_goals (go_ret; refine ⟨ret_bool ?_, by (repeat (with_reducible first | exact Below.refl _ _ | assumption | refine ba ?_ _ | refine bd ?_ | refine bdN ?_ _ | refine bs ?_ (by first | exact Nat.le_refl _ | (dsimp only; omega) | (simp; done)) _ | refine bt ?_ (by assumption)))⟩; rw [Hv.out]; simp_all)
set_option maxRecDepth 100000 in
set_option maxHeartbeats 400000 in
theorem spec_ValidDisk (v : Value) (fs : List Fil) (c : Int) (u : Value) (ds : List Dr) (D : Nat → Prop) (w : World) (hr : DskIn w D v fs u ds) (hz : ShortK 2000000 fs ds) :
    Calls Try.prog 37 #[.agg #[v, .int .i64 c, u]] w fun e w' => e = .returned (.bool (okDisk ⟨fs, c, ds⟩)) ∧ Below w.heap.size w w' := by
  have Hr := Lib.hid hr
  obtain ⟨⟨aa, ca, rfl, hl, hm⟩, ⟨ab, cb, rfl, hl', hm'⟩⟩ := hr.len
  have Hz := Lib.hid hz
  clear hr hz hm hm'
  go_enter Try.func37, Try.ntmps37
  go_wp2_with (go_at_call 45; refine (spec_validDisk _ fs c _ ds D _ (Hr.out.below (by (repeat (with_reducible first | exact Below.refl _ _ | assumption | refine ba ?_ _ | refine bd ?_ | refine bdN ?_ _ | refine bs ?_ (by first | exact Nat.le_refl _ | (dsimp only; omega) | (simp; done)) _ | refine bt ?_ (by assumption))))) Hz.out).mono ?_; (rintro _ _ ⟨rfl, hb⟩; obtain ⟨hc, hf, hs⟩ := bcell hb))
  go_ret
  exact ⟨rfl, by (repeat (with_reducible first | exact Below.refl _ _ | assumption | refine ba ?_ _ | refine bd ?_ | refine bdN ?_ _ | refine bs ?_ (by first | exact Nat.le_refl _ | (dsimp only; omega) | (simp; done)) _ | refine bt ?_ (by assumption)))⟩
set_option maxRecDepth 100000 in
set_option maxHeartbeats 1000000 in
theorem spec_validFinder (u : Value) (ds : List Dr) (f h : Int) (D : Nat → Prop) (w : World) (hr : DirsIn w D u ds) (hz : ShortD 2000000 ds) :
    Calls Try.prog 76 #[.agg #[u, .int .i64 f, .int .i64 h]] w fun e w' => e = .returned (.bool (okFnd ⟨ds, f, h⟩)) ∧ Below w.heap.size w w' := by
  have Hr := Lib.hid hr
  obtain ⟨ab, cb, rfl, hl', hm'⟩ := hr.len
  have Hz2 := Lib.hid (shortD_mono (B := 3000000) (by omega) hz)
  have Hv := Lib.hid (show okFnd ⟨ds, f, h⟩ = (inr f 0 1000 && inr h 0 1000 && okDirs ds 200 12) from rfl)
  clear hr hz hm'
  generalize okFnd ⟨ds, f, h⟩ = res at *
  go_enter Try.func76, Try.ntmps76
  go_wp2_with (first
    | (go_at_call 46; refine (spec_inRange' _ _ _ _).mono ?_; rintro _ _ ⟨rfl, rfl⟩)
    | (go_at_call 86; refine (spec_validDirs _ ds D _ (Hr.out.below (by (repeat (with_reducible first | exact Below.refl _ _ | assumption | refine ba ?_ _ | refine bd ?_ | refine bdN ?_ _ | refine bs ?_ (by first | exact Nat.le_refl _ | (dsimp only; omega) | (simp; done)) _ | refine bt ?_ (by assumption))))) Hz2.out).mono ?_; (rintro _ _ ⟨rfl, hb⟩; obtain ⟨hc, hf, hs⟩ := bcell hb)))
  all_goals (go_ret; refine ⟨ret_bool ?_, by (repeat (with_reducible first | exact Below.refl _ _ | assumption | refine ba ?_ _ | refine bd ?_ | refine bdN ?_ _ | refine bs ?_ (by first | exact Nat.le_refl _ | (dsimp only; omega) | (simp; done)) _ | refine bt ?_ (by assumption)))⟩; rw [Hv.out]; simp_all)
set_option maxRecDepth 100000 in
set_option maxHeartbeats 400000 in
theorem spec_ValidFinder (u : Value) (ds : List Dr) (f h : Int) (D : Nat → Prop) (w : World) (hr : DirsIn w D u ds) (hz : ShortD 2000000 ds) :
    Calls Try.prog 39 #[.agg #[u, .int .i64 f, .int .i64 h]] w fun e w' => e = .returned (.bool (okFnd ⟨ds, f, h⟩)) ∧ Below w.heap.size w w' := by
  have Hr := Lib.hid hr
  obtain ⟨ab, cb, rfl, hl', hm'⟩ := hr.len
  have Hz := Lib.hid hz
  clear hr hz hm'
  go_enter Try.func39, Try.ntmps39
  go_wp2_with (go_at_call 76; refine (spec_validFinder _ ds f h D _ (Hr.out.below (by (repeat (with_reducible first | exact Below.refl _ _ | assumption | refine ba ?_ _ | refine bd ?_ | refine bdN ?_ _ | refine bs ?_ (by first | exact Nat.le_refl _ | (dsimp only; omega) | (simp; done)) _ | refine bt ?_ (by assumption))))) Hz.out).mono ?_; (rintro _ _ ⟨rfl, hb⟩; obtain ⟨hc, hf, hs⟩ := bcell hb))
  go_ret
  exact ⟨rfl, by (repeat (with_reducible first | exact Below.refl _ _ | assumption | refine ba ?_ _ | refine bd ?_ | refine bdN ?_ _ | refine bs ?_ (by first | exact Nat.le_refl _ | (dsimp only; omega) | (simp; done)) _ | refine bt ?_ (by assumption)))⟩
set_option maxRecDepth 100000 in
set_option maxHeartbeats 1000000 in
theorem spec_stampOf (v : Value) (c : Int) (u : Value) (ds : List Dr) (D : Nat → Prop) (r : Int) (p : Bs) (w : World) (hr : DirsIn w D u ds) :
    Calls Try.prog 79 #[.agg #[v, .int .i64 c, u], .int .i64 r, .string (mk p)] w fun e w' => e = .returned (.int .i64 (stampIn ds (r, p))) ∧ Below w.heap.size w w' := by
  have Hr := Lib.hid hr
  obtain ⟨ab, cb, rfl, hl', hm'⟩ := hr.len
  unfold maxLen at hm'
  clear hr
  rcases keyAt_is (key := dplace) ds (r, p) with ⟨h1, _⟩ | ⟨k, hk, h1, h2, _⟩
  · have Hs := Lib.hid (stampIn_no (show dirAt ds (r, p) = -1 from h1))
    have H1 := Lib.hid (show dirAt ds (r, p) = -1 from h1)
    clear h1
    go_enter Try.func79, Try.ntmps79
    go_wp2_with (go_at_call 116; refine (spec_dirAt ab ds.length cb ds D r p _ (Hr.out.below (by (repeat (with_reducible first | exact Below.refl _ _ | assumption | refine ba ?_ _ | refine bd ?_ | refine bdN ?_ _ | refine bs ?_ (by first | exact Nat.le_refl _ | (dsimp only; omega) | (simp; done)) _ | refine bt ?_ (by assumption)))))).mono ?_; (rintro _ _ ⟨rfl, hb⟩; obtain ⟨hc, hf, hs⟩ := bcell hb); rw [H1.out])
    go_ret
    rw [Hs.out]
    exact ⟨rfl, by (repeat (with_reducible first | exact Below.refl _ _ | assumption | refine ba ?_ _ | refine bd ?_ | refine bdN ?_ _ | refine bs ?_ (by first | exact Nat.le_refl _ | (dsimp only; omega) | (simp; done)) _ | refine bt ?_ (by assumption)))⟩
  · have Hs := Lib.hid (stampIn_yes hk (show dirAt ds (r, p) = (k : Int) from h1))
    obtain ⟨b, off, cap, bv, e, hD, hb, hbody, c0, c1, c2, c3⟩ := Hr.out.at_ hk
    simp only [Value.slice.injEq] at e
    obtain ⟨rfl, _, rfl⟩ := e
    have H1 := Lib.hid (show dirAt ds (r, p) = (k : Int) from h1)
    generalize ds[k].stamp = st at *
    clear h1 h2 c0 c1 c3 hbody
    go_enter Try.func79, Try.ntmps79
    go_wp2_with (go_at_call 116; refine (spec_dirAt _ ds.length cb ds D r p _ (Hr.out.below (by (repeat (with_reducible first | exact Below.refl _ _ | assumption | refine ba ?_ _ | refine bd ?_ | refine bdN ?_ _ | refine bs ?_ (by first | exact Nat.le_refl _ | (dsimp only; omega) | (simp; done)) _ | refine bt ?_ (by assumption)))))).mono ?_; (rintro _ _ ⟨rfl, hb⟩; obtain ⟨hc, hf, hs⟩ := bcell hb); rw [H1.out])
    go_ret
    rw [Hs.out]
    exact ⟨rfl, by (repeat (with_reducible first | exact Below.refl _ _ | assumption | refine ba ?_ _ | refine bd ?_ | refine bdN ?_ _ | refine bs ?_ (by first | exact Nat.le_refl _ | (dsimp only; omega) | (simp; done)) _ | refine bt ?_ (by assumption)))⟩
set_option maxRecDepth 100000 in
set_option maxHeartbeats 2000000 in
theorem spec_StampOf (v : Value) (fs : List Fil) (c : Int) (u : Value) (ds : List Dr) (D : Nat → Prop) (r : Int) (p : Bs) (w : World) (hr : DskIn w D v fs u ds) (hz : ShortK 2000000 fs ds) (hp : p.length ≤ 2000000) :
    Calls Try.prog 35 #[.agg #[v, .int .i64 c, u], .int .i64 r, .string (mk p)] w fun e w' => e = .returned (.int .i64 (stampOf ⟨fs, c, ds⟩ r p)) ∧ Below w.heap.size w w' := by
  have Hr := Lib.hid hr
  have Hz := Lib.hid hz
  obtain ⟨⟨aa, ca, rfl, hl, hm⟩, ⟨ab, cb, rfl, hl', hm'⟩⟩ := hr.len
  clear hr hz hm hm'
  have Hv := Lib.hid (show stampOf ⟨fs, c, ds⟩ r p = if okDisk ⟨fs, c, ds⟩ && (inr r 0 2 && vpk p) then stampIn ds (r, p) else -1 from rfl)
  generalize stampOf ⟨fs, c, ds⟩ r p = res at *
  cases hB : okDisk ⟨fs, c, ds⟩
  · have HB := Lib.hid hB
    rw [hB, Bool.false_and, if_neg (by simp)] at Hv
    clear hB
    go_enter Try.func35, Try.ntmps35
    go_wp2_with (go_at_call 45; refine (spec_validDisk _ fs c _ ds D _ (Hr.out.below (by (repeat (with_reducible first | exact Below.refl _ _ | assumption | refine ba ?_ _ | refine bd ?_ | refine bdN ?_ _ | refine bs ?_ (by first | exact Nat.le_refl _ | (dsimp only; omega) | (simp; done)) _ | refine bt ?_ (by assumption))))) Hz.out).mono ?_; (rintro _ _ ⟨rfl, hb⟩; obtain ⟨hc, hf, hs⟩ := bcell hb); rw [HB.out])
    go_ret
    rw [Hv.out]
    exact ⟨rfl, by (repeat (with_reducible first | exact Below.refl _ _ | assumption | refine ba ?_ _ | refine bd ?_ | refine bdN ?_ _ | refine bs ?_ (by first | exact Nat.le_refl _ | (dsimp only; omega) | (simp; done)) _ | refine bt ?_ (by assumption)))⟩
  · have HB := Lib.hid hB
    rw [hB, Bool.true_and] at Hv
    clear hB
    cases hA : inr r 0 2
    · have HA := Lib.hid hA
      have HC := Lib.hid (rfl : vpk p = vpk p)
      rw [hA, Bool.false_and, if_neg (by simp)] at Hv
      clear hA
      go_enter Try.func35, Try.ntmps35
      go_wp2_with (first
        | (go_at_call 45; refine (spec_validDisk _ fs c _ ds D _ (Hr.out.below (by (repeat (with_reducible first | exact Below.refl _ _ | assumption | refine ba ?_ _ | refine bd ?_ | refine bdN ?_ _ | refine bs ?_ (by first | exact Nat.le_refl _ | (dsimp only; omega) | (simp; done)) _ | refine bt ?_ (by assumption))))) Hz.out).mono ?_; (rintro _ _ ⟨rfl, hb⟩; obtain ⟨hc, hf, hs⟩ := bcell hb); rw [HB.out])
        | ((go_at_call 46; refine (spec_inRange' _ _ _ _).mono ?_; rintro _ _ ⟨rfl, rfl⟩); rw [HA.out])
        | (go_at_call 78; refine (spec_validPackage _ _ (by omega)).mono ?_; (rintro _ _ ⟨rfl, hb⟩; obtain ⟨hc, hf, hs⟩ := bcell hb); rw [HC.out])
        | (go_at_call 79; refine (spec_stampOf _ _ _ ds D r p _ (Hr.out.2.below (by (repeat (with_reducible first | exact Below.refl _ _ | assumption | refine ba ?_ _ | refine bd ?_ | refine bdN ?_ _ | refine bs ?_ (by first | exact Nat.le_refl _ | (dsimp only; omega) | (simp; done)) _ | refine bt ?_ (by assumption)))))).mono ?_; (rintro _ _ ⟨rfl, hb⟩; obtain ⟨hc, hf, hs⟩ := bcell hb)))
      go_ret
      rw [Hv.out]
      exact ⟨rfl, by (repeat (with_reducible first | exact Below.refl _ _ | assumption | refine ba ?_ _ | refine bd ?_ | refine bdN ?_ _ | refine bs ?_ (by first | exact Nat.le_refl _ | (dsimp only; omega) | (simp; done)) _ | refine bt ?_ (by assumption)))⟩
    · have HA := Lib.hid hA
      rw [hA, Bool.true_and] at Hv
      clear hA
      cases hC : vpk p
      · have HC := Lib.hid hC
        rw [hC, if_neg (by simp)] at Hv
        clear hC
        go_enter Try.func35, Try.ntmps35
        go_wp2_with (first
          | (go_at_call 45; refine (spec_validDisk _ fs c _ ds D _ (Hr.out.below (by (repeat (with_reducible first | exact Below.refl _ _ | assumption | refine ba ?_ _ | refine bd ?_ | refine bdN ?_ _ | refine bs ?_ (by first | exact Nat.le_refl _ | (dsimp only; omega) | (simp; done)) _ | refine bt ?_ (by assumption))))) Hz.out).mono ?_; (rintro _ _ ⟨rfl, hb⟩; obtain ⟨hc, hf, hs⟩ := bcell hb); rw [HB.out])
          | ((go_at_call 46; refine (spec_inRange' _ _ _ _).mono ?_; rintro _ _ ⟨rfl, rfl⟩); rw [HA.out])
          | (go_at_call 78; refine (spec_validPackage _ _ (by omega)).mono ?_; (rintro _ _ ⟨rfl, hb⟩; obtain ⟨hc, hf, hs⟩ := bcell hb); rw [HC.out])
          | (go_at_call 79; refine (spec_stampOf _ _ _ ds D r p _ (Hr.out.2.below (by (repeat (with_reducible first | exact Below.refl _ _ | assumption | refine ba ?_ _ | refine bd ?_ | refine bdN ?_ _ | refine bs ?_ (by first | exact Nat.le_refl _ | (dsimp only; omega) | (simp; done)) _ | refine bt ?_ (by assumption)))))).mono ?_; (rintro _ _ ⟨rfl, hb⟩; obtain ⟨hc, hf, hs⟩ := bcell hb)))
        go_ret
        rw [Hv.out]
        exact ⟨rfl, by (repeat (with_reducible first | exact Below.refl _ _ | assumption | refine ba ?_ _ | refine bd ?_ | refine bdN ?_ _ | refine bs ?_ (by first | exact Nat.le_refl _ | (dsimp only; omega) | (simp; done)) _ | refine bt ?_ (by assumption)))⟩
      · have HC := Lib.hid hC
        rw [hC, if_pos rfl] at Hv
        clear hC
        go_enter Try.func35, Try.ntmps35
        go_wp2_with (first
          | (go_at_call 45; refine (spec_validDisk _ fs c _ ds D _ (Hr.out.below (by (repeat (with_reducible first | exact Below.refl _ _ | assumption | refine ba ?_ _ | refine bd ?_ | refine bdN ?_ _ | refine bs ?_ (by first | exact Nat.le_refl _ | (dsimp only; omega) | (simp; done)) _ | refine bt ?_ (by assumption))))) Hz.out).mono ?_; (rintro _ _ ⟨rfl, hb⟩; obtain ⟨hc, hf, hs⟩ := bcell hb); rw [HB.out])
          | ((go_at_call 46; refine (spec_inRange' _ _ _ _).mono ?_; rintro _ _ ⟨rfl, rfl⟩); rw [HA.out])
          | (go_at_call 78; refine (spec_validPackage _ _ (by omega)).mono ?_; (rintro _ _ ⟨rfl, hb⟩; obtain ⟨hc, hf, hs⟩ := bcell hb); rw [HC.out])
          | (go_at_call 79; refine (spec_stampOf _ _ _ ds D r p _ (Hr.out.2.below (by (repeat (with_reducible first | exact Below.refl _ _ | assumption | refine ba ?_ _ | refine bd ?_ | refine bdN ?_ _ | refine bs ?_ (by first | exact Nat.le_refl _ | (dsimp only; omega) | (simp; done)) _ | refine bt ?_ (by assumption)))))).mono ?_; (rintro _ _ ⟨rfl, hb⟩; obtain ⟨hc, hf, hs⟩ := bcell hb)))
        go_ret
        rw [Hv.out]
        exact ⟨rfl, by (repeat (with_reducible first | exact Below.refl _ _ | assumption | refine ba ?_ _ | refine bd ?_ | refine bdN ?_ _ | refine bs ?_ (by first | exact Nat.le_refl _ | (dsimp only; omega) | (simp; done)) _ | refine bt ?_ (by assumption)))⟩
end Go.Proofs.Ytgecemngfpgcoaa
