/- Contracts of the functions that say whether disks and finders are valid, and of StampOf. -/
import Derived.Test.YtgecemngfpgcoaaDisks
import Derived.Test.YtgecemngfpgcoaaExDisk
set_option linter.unusedVariables false
set_option linter.unusedSimpArgs false
namespace Go.Proofs.Ytgecemngfpgcoaa
open Go.RowKit Go.Proofs.Ytgecemngfpgcoaa.Nm
open Go.Sort (grow)

theorem ret_i64' {a b : Int} (h : a = b) : Ending.returned (.int .i64 a) = .returned (.int .i64 b) := by rw [h]
set_option maxRecDepth 100000 in
set_option maxHeartbeats 1000000 in
theorem impl_ValidDisk (v : Value) (fs : List Fil) (c : Int) (u : Value) (ds : List Dr) (D : Nat → Prop) (w : World) (hr : DskIn w D v fs u ds) (hz : ShortK 2000000 fs ds) :
    Calls Try.prog 17 #[.agg #[v, .int .i64 c, u]] w fun e w' => e = .returned (.bool (okDisk ⟨fs, c, ds⟩)) ∧ Below w.heap.size w w' := by
  have Hr := Lib.hid hr
  obtain ⟨⟨aa, ca, rfl, hl, hm⟩, ⟨ab, cb, rfl, hl', hm'⟩⟩ := hr.len
  have Hz1 := Lib.hid (shortT_mono (B := 8000000) (by omega) hz.1)
  have Hz2 := Lib.hid (shortD_mono (B := 8000000) (by omega) hz.2)
  have Hv := Lib.hid (show okDisk ⟨fs, c, ds⟩ = (inr c 0 200 && okDirs ds c 0 && okTree fs) from rfl)
  clear hr hz hm hm'
  generalize okDisk ⟨fs, c, ds⟩ = res at *
  go_enter Try.func17, Try.ntmps17
  go_wp2_with (first
    | (go_at_call 57; refine (impl_inRange _ _ _).mono ?_; rintro _ _ ⟨rfl, rfl⟩)
    | (go_at_call 58; refine (impl_validDirs _ ds D c _ 0 _ rfl (Hr.out.2.below (by (repeat (with_reducible first | exact Below.refl _ _ | assumption | refine ba ?_ _ | refine bd ?_ | refine bdN ?_ _ | refine bs ?_ (by first | exact Nat.le_refl _ | (dsimp only; omega) | (simp; done)) _ | refine bt ?_ (by assumption))))) Hz2.out).mono ?_; (rintro _ _ ⟨rfl, hb⟩; obtain ⟨hc, hf, hs⟩ := bcell hb))
    | (go_at_call 59; refine (impl_ValidTree _ fs D _ (Hr.out.1.below (by (repeat (with_reducible first | exact Below.refl _ _ | assumption | refine ba ?_ _ | refine bd ?_ | refine bdN ?_ _ | refine bs ?_ (by first | exact Nat.le_refl _ | (dsimp only; omega) | (simp; done)) _ | refine bt ?_ (by assumption))))) Hz1.out).mono ?_; (rintro _ _ ⟨rfl, hb⟩; obtain ⟨hc, hf, hs⟩ := bcell hb)))
  all_goals (go_ret; refine ⟨ret_bool ?_, by (repeat (with_reducible first | exact Below.refl _ _ | assumption | refine ba ?_ _ | refine bd ?_ | refine bdN ?_ _ | refine bs ?_ (by first | exact Nat.le_refl _ | (dsimp only; omega) | (simp; done)) _ | refine bt ?_ (by assumption)))⟩; rw [Hv.out]; simp_all)
set_option maxRecDepth 100000 in
set_option maxHeartbeats 1000000 in
theorem impl_ValidFinder (u : Value) (ds : List Dr) (f h : Int) (D : Nat → Prop) (w : World) (hr : DirsIn w D u ds) (hz : ShortD 2000000 ds) :
    Calls Try.prog 33 #[.agg #[u, .int .i64 f, .int .i64 h]] w fun e w' => e = .returned (.bool (okFnd ⟨ds, f, h⟩)) ∧ Below w.heap.size w w' := by
  have Hr := Lib.hid hr
  obtain ⟨ab, cb, rfl, hl', hm'⟩ := hr.len
  have Hz2 := Lib.hid (shortD_mono (B := 8000000) (by omega) hz)
  have Hv := Lib.hid (show okFnd ⟨ds, f, h⟩ = (inr f 0 1000 && inr h 0 1000 && okDirs ds 200 12) from rfl)
  clear hr hz hm'
  generalize okFnd ⟨ds, f, h⟩ = res at *
  go_enter Try.func33, Try.ntmps33
  go_wp2_with (first
    | (go_at_call 57; refine (impl_inRange _ _ _).mono ?_; rintro _ _ ⟨rfl, rfl⟩)
    | (go_at_call 58; refine (impl_validDirs _ ds D 200 _ 12 _ rfl (Hr.out.below (by (repeat (with_reducible first | exact Below.refl _ _ | assumption | refine ba ?_ _ | refine bd ?_ | refine bdN ?_ _ | refine bs ?_ (by first | exact Nat.le_refl _ | (dsimp only; omega) | (simp; done)) _ | refine bt ?_ (by assumption))))) Hz2.out).mono ?_; (rintro _ _ ⟨rfl, hb⟩; obtain ⟨hc, hf, hs⟩ := bcell hb)))
  all_goals (go_ret; refine ⟨ret_bool ?_, by (repeat (with_reducible first | exact Below.refl _ _ | assumption | refine ba ?_ _ | refine bd ?_ | refine bdN ?_ _ | refine bs ?_ (by first | exact Nat.le_refl _ | (dsimp only; omega) | (simp; done)) _ | refine bt ?_ (by assumption)))⟩; rw [Hv.out]; simp_all)
set_option maxRecDepth 100000 in
set_option maxHeartbeats 2000000 in
theorem impl_stampOnDisk (v : Value) (c : Int) (u : Value) (ds : List Dr) (D : Nat → Prop) (r : Int) (p : Bs) (w : World) (hr : DirsIn w D u ds) :
    Calls Try.prog 56 #[.agg #[v, .int .i64 c, u], dpVal (r, p)] w fun e w' => e = .returned (.agg #[.int .i64 r, .string (mk p), .int .i64 (stampIn ds (r, p))]) ∧ Below w.heap.size w w' := by
  have Hr := Lib.hid hr
  obtain ⟨ab, cb, rfl, hl', hm'⟩ := hr.len
  clear hr hm'
  unfold dpVal
  dsimp only
  rcases keyAt_is (key := dplace) ds (r, p) with ⟨h1, _⟩ | ⟨k, hk, h1, h2, _⟩
  · have Hs := Lib.hid (stampIn_no (show dirAt ds (r, p) = -1 from h1))
    have H1 := Lib.hid (show dirPtr ab (dirAt ds (r, p)) = .pointer none by rw [show dirAt ds (r, p) = -1 from h1]; rfl)
    clear h1
    go_enter Try.func56, Try.ntmps56
    go_wp2_with (go_at_call 94; refine (impl_dirAt ab ds.length cb ds D (r, p) _ (Hr.out.below (by (repeat (with_reducible first | exact Below.refl _ _ | assumption | refine ba ?_ _ | refine bd ?_ | refine bdN ?_ _ | refine bs ?_ (by first | exact Nat.le_refl _ | (dsimp only; omega) | (simp; done)) _ | refine bt ?_ (by assumption)))))).mono ?_; (rintro _ _ ⟨rfl, hb⟩; obtain ⟨hc, hf, hs⟩ := bcell hb); rw [H1.out])
    refine bodyPost_ret (v := .agg #[.int .i64 r, .string (mk p), .int .i64 0]) (by simp [results, Try.results56, go_sem, *]) rfl ⟨?_, by (repeat (with_reducible first | exact Below.refl _ _ | assumption | refine ba ?_ _ | refine bd ?_ | refine bdN ?_ _ | refine bs ?_ (by first | exact Nat.le_refl _ | (dsimp only; omega) | (simp; done)) _ | refine bt ?_ (by assumption)))⟩
    rw [Hs.out]
  · have Hs := Lib.hid (stampIn_yes hk (show dirAt ds (r, p) = (k : Int) from h1))
    obtain ⟨b, off, cap, bv, e, hD, hb, hbody, c0, c1, c2, c3⟩ := Hr.out.at_ hk
    simp only [Value.slice.injEq] at e
    obtain ⟨rfl, _, rfl⟩ := e
    have H1 := Lib.hid (show dirPtr (some ⟨b, off, none⟩) (dirAt ds (r, p)) = .pointer (some ⟨b, off + k * 4, none⟩) by rw [show dirAt ds (r, p) = (k : Int) from h1]; exact dirPtr_yes b off k)
    generalize ds[k].stamp = st at *
    clear h1 h2 c0 c1 c3 hbody
    go_enter Try.func56, Try.ntmps56
    go_wp2_with (go_at_call 94; refine (impl_dirAt _ ds.length cb ds D (r, p) _ (Hr.out.below (by (repeat (with_reducible first | exact Below.refl _ _ | assumption | refine ba ?_ _ | refine bd ?_ | refine bdN ?_ _ | refine bs ?_ (by first | exact Nat.le_refl _ | (dsimp only; omega) | (simp; done)) _ | refine bt ?_ (by assumption)))))).mono ?_; rintro _ w5 ⟨rfl, hb5⟩; obtain ⟨hc, hf, hs⟩ := bcell hb5; rw [H1.out]; have e2 := ((show Below w.heap.size w w5 by (repeat (with_reducible first | exact Below.refl _ _ | assumption | refine ba ?_ _ | refine bd ?_ | refine bdN ?_ _ | refine bs ?_ (by first | exact Nat.le_refl _ | (dsimp only; omega) | (simp; done)) _ | refine bt ?_ (by assumption)))).cell (p := ⟨b, off + k * 4 + 2, none⟩) hb).trans c2)
    refine bodyPost_ret (v := .agg #[.int .i64 r, .string (mk p), .int .i64 st]) (by simp [results, Try.results56, go_sem, *]) rfl ⟨?_, by (repeat (with_reducible first | exact Below.refl _ _ | assumption | refine ba ?_ _ | refine bd ?_ | refine bdN ?_ _ | refine bs ?_ (by first | exact Nat.le_refl _ | (dsimp only; omega) | (simp; done)) _ | refine bt ?_ (by assumption)))⟩
    rw [Hs.out]
theorem clock_field (r st : Int) (p : Bs) (w : World) : (Instr.field 95 (.agg #[.int .i64 r, .string (mk p), .int .i64 st]) 1).run Try.prog w = .ok (.int .i64 st) w := by
  simp [Instr.field, go_sem, Try.underlying95, Try.underlying3, asAgg]
set_option maxRecDepth 100000 in
set_option maxHeartbeats 2000000 in
theorem impl_StampOf (v : Value) (fs : List Fil) (c : Int) (u : Value) (ds : List Dr) (D : Nat → Prop) (r : Int) (p : Bs) (w : World) (hr : DskIn w D v fs u ds) (hz : ShortK 2000000 fs ds) (hp : p.length ≤ 2000000) :
    Calls Try.prog 16 #[.agg #[v, .int .i64 c, u], .int .i64 r, .string (mk p)] w fun e w' => e = .returned (.int .i64 (stampOf ⟨fs, c, ds⟩ r p)) ∧ Below w.heap.size w w' := by
  have Hr := Lib.hid hr
  have Hz := Lib.hid hz
  obtain ⟨⟨aa, ca, rfl, hl, hm⟩, ⟨ab, cb, rfl, hl', hm'⟩⟩ := hr.len
  clear hr hz hm hm'
  have Hv := Lib.hid (show stampOf ⟨fs, c, ds⟩ r p = if okDisk ⟨fs, c, ds⟩ && (inr r 0 2 && vpk p) then stampIn ds (r, p) else -1 from rfl)
  generalize stampOf ⟨fs, c, ds⟩ r p = res at *
  cases hA : (inr r 0 2 && vpk p)
  · have HA := Lib.hid hA
    rw [hA, Bool.and_false, if_neg (by simp)] at Hv
    clear hA
    go_enter Try.func16, Try.ntmps16
    go_wp2_with (go_at_call 55; refine (impl_validDirPlace _ _ _ (by omega)).mono ?_; (rintro _ _ ⟨rfl, hb⟩; obtain ⟨hc, hf, hs⟩ := bcell hb); rw [HA.out])
    go_ret
    rw [Hv.out]
    exact ⟨rfl, by (repeat (with_reducible first | exact Below.refl _ _ | assumption | refine ba ?_ _ | refine bd ?_ | refine bdN ?_ _ | refine bs ?_ (by first | exact Nat.le_refl _ | (dsimp only; omega) | (simp; done)) _ | refine bt ?_ (by assumption)))⟩
  · have HA := Lib.hid hA
    rw [hA, Bool.and_true] at Hv
    clear hA
    cases hB : okDisk ⟨fs, c, ds⟩
    · have HB := Lib.hid hB
      rw [hB, if_neg (by simp)] at Hv
      clear hB
      go_enter Try.func16, Try.ntmps16
      go_wp2_with (first
        | (go_at_call 55; refine (impl_validDirPlace _ _ _ (by omega)).mono ?_; (rintro _ _ ⟨rfl, hb⟩; obtain ⟨hc, hf, hs⟩ := bcell hb); rw [HA.out])
        | (go_at_call 17; refine (impl_ValidDisk _ fs _ _ ds D _ (Hr.out.below (by (repeat (with_reducible first | exact Below.refl _ _ | assumption | refine ba ?_ _ | refine bd ?_ | refine bdN ?_ _ | refine bs ?_ (by first | exact Nat.le_refl _ | (dsimp only; omega) | (simp; done)) _ | refine bt ?_ (by assumption))))) Hz.out).mono ?_; (rintro _ _ ⟨rfl, hb⟩; obtain ⟨hc, hf, hs⟩ := bcell hb); rw [HB.out]))
      go_ret
      rw [Hv.out]
      exact ⟨rfl, by (repeat (with_reducible first | exact Below.refl _ _ | assumption | refine ba ?_ _ | refine bd ?_ | refine bdN ?_ _ | refine bs ?_ (by first | exact Nat.le_refl _ | (dsimp only; omega) | (simp; done)) _ | refine bt ?_ (by assumption)))⟩
    · have HB := Lib.hid hB
      rw [hB, if_pos rfl] at Hv
      clear hB
      have qF := clock_field r (stampIn ds (r, p)) p
      go_enter Try.func16, Try.ntmps16
      go_wp2_with (first
        | (go_at_call 55; refine (impl_validDirPlace _ _ _ (by omega)).mono ?_; (rintro _ _ ⟨rfl, hb⟩; obtain ⟨hc, hf, hs⟩ := bcell hb); rw [HA.out])
        | (go_at_call 17; refine (impl_ValidDisk _ fs _ _ ds D _ (Hr.out.below (by (repeat (with_reducible first | exact Below.refl _ _ | assumption | refine ba ?_ _ | refine bd ?_ | refine bdN ?_ _ | refine bs ?_ (by first | exact Nat.le_refl _ | (dsimp only; omega) | (simp; done)) _ | refine bt ?_ (by assumption))))) Hz.out).mono ?_; rintro _ w5 ⟨rfl, hb5⟩; rw [HB.out]
           have hx := (BoxC.start w #[.slice aa fs.length ca, .int .i64 c, .slice ab ds.length cb] 28).below (show Below _ _ w5 by (repeat (with_reducible first | exact Below.refl _ _ | assumption | refine ba ?_ _ | refine bd ?_ | refine bdN ?_ _ | refine bs ?_ (by first | exact Nat.le_refl _ | (dsimp only; omega) | (simp; done)) _ | refine bt ?_ (by assumption))))
           have hy := ((BoxC.start (w.alloc (.cells #[.slice aa fs.length ca, .int .i64 c, .slice ab ds.length cb] 28)) #[.int .i64 r, .string (mk p)] 92).below (show Below _ _ w5 by (repeat (with_reducible first | exact Below.refl _ _ | assumption | refine ba ?_ _ | refine bd ?_ | refine bdN ?_ _ | refine bs ?_ (by first | exact Nat.le_refl _ | (dsimp only; omega) | (simp; done)) _ | refine bt ?_ (by assumption))))).at (show _ = w.heap.size + 1 by simp)
           have x0 : w5.cell? ⟨w.heap.size, 0, none⟩ = some (.slice aa fs.length ca) := hx.2 0
           have x1 : w5.cell? ⟨w.heap.size, 1, none⟩ = some (.int .i64 c) := hx.2 1
           have x2 : w5.cell? ⟨w.heap.size, 2, none⟩ = some (.slice ab ds.length cb) := hx.2 2
           have y0 : w5.cell? ⟨w.heap.size + 1, 0, none⟩ = some (.int .i64 r) := hy.2 0
           have y1 : w5.cell? ⟨w.heap.size + 1, 1, none⟩ = some (.string (mk p)) := hy.2 1
           clear hx hy)
        | (go_at_call 56; refine (impl_stampOnDisk _ _ _ ds D r p _ (Hr.out.2.below (by (repeat (with_reducible first | exact Below.refl _ _ | assumption | refine ba ?_ _ | refine bd ?_ | refine bdN ?_ _ | refine bs ?_ (by first | exact Nat.le_refl _ | (dsimp only; omega) | (simp; done)) _ | refine bt ?_ (by assumption)))))).mono ?_; (rintro _ _ ⟨rfl, hb⟩; obtain ⟨hc, hf, hs⟩ := bcell hb)))
      go_ret
      rw [Hv.out]
      exact ⟨rfl, by (repeat (with_reducible first | exact Below.refl _ _ | assumption | refine ba ?_ _ | refine bd ?_ | refine bdN ?_ _ | refine bs ?_ (by first | exact Nat.le_refl _ | (dsimp only; omega) | (simp; done)) _ | refine bt ?_ (by assumption)))⟩

end Go.Proofs.Ytgecemngfpgcoaa
