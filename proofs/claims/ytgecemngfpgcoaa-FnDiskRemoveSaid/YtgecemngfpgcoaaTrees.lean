/- Contracts of the functions that say whether a tree is valid. -/
import Derived.Test.YtgecemngfpgcoaaPlaces
import Derived.Deep.RegionHeld3
import Derived.Deep.RegionLaw
import Derived.StillTailTactics
import Derived.Lib.QuietBelow
import Derived.BigQuiet
set_option linter.unusedVariables false
set_option linter.unusedSimpArgs false
namespace Go.Proofs.Ytgecemngfpgcoaa
open Go.RowKit Go.Proofs.Ytgecemngfpgcoaa.Nm
open Go.Sort (grow)

theorem okTree_no (fs : List Fil) (k : Nat) (h : k < fs.length) (hv : okFil fs[k] = false) : okTree fs = false := by
  have : fs.all okFil = false := by rw [List.all_eq_false]; exact ⟨_, List.getElem_mem h, by simp [hv]⟩
  simp [okTree, this]
theorem all_okFil (fs : List Fil) (ha : ∀ i (h : i < fs.length), okFil fs[i] = true) : fs.all okFil = true := by
  rw [List.all_eq_true]; intro s hs
  obtain ⟨i, hi, rfl⟩ := List.getElem_of_mem hs
  exact ha i hi
theorem okTree_long (fs : List Fil) (h : 12 < fs.length) : okTree fs = false := by
  simp [okTree]; omega

theorem okFil_pl {f : Fil} (h : okFil f = true) : okPl (place f) := by
  unfold okFil at h
  simp only [Bool.and_eq_true, inr, decide_eq_true_eq] at h
  obtain ⟨⟨⟨⟨h1, _⟩, h2⟩, _⟩, h3⟩ := h
  refine ⟨h1, ?_, ?_⟩
  · have := vpk_len h2; show f.pack.length ≤ _; omega
  · show f.name.length ≤ _
    split at h3
    · simp only [Bool.and_eq_true] at h3
      have : f.name = [] := by simpa using h3.2
      rw [this]; simp
    · simp only [Bool.and_eq_true] at h3
      have := (vp_len h3.1).2; omega
theorem okPls_of {fs : List Fil} (h : fs.all okFil = true) : OkPls fs := fun f hf => okFil_pl (List.all_eq_true.1 h f hf)
theorem okTree_dedup {fs : List Fil} (h : fs.all okFil = true) (hl : fs.length ≤ 12) : ((((dedup (fs.map place)).length : Nat) : Int) == ((fs.length : Nat) : Int)) = okTree fs := by
  have e := dedup_len (fs.map place)
  rw [List.length_map] at e
  have : okTree fs = decide (fs.map place).Nodup := by simp [okTree, h, hl]
  rw [this, Bool.eq_iff_iff]
  simp only [beq_iff_eq, decide_eq_true_eq, ← e]
  omega

set_option maxRecDepth 100000 in
set_option maxHeartbeats 1000000 in
theorem impl_ValidTree (v : Value) (fs : List Fil) (D : Nat → Prop) (w : World) (hr : FilsIn w D v fs) (hz : ShortT 8000000 fs) :
    Calls Try.prog 59 #[.agg #[v]] w fun e w' => e = .returned (.bool (okTree fs)) ∧ Below w.heap.size w w' := by
  have Hr := Lib.hid hr
  obtain ⟨aa, ca, rfl, hl, hm⟩ := hr.len
  unfold maxLen at hm
  have Hz := Lib.hid hz
  clear hr hz
  by_cases h12 : (12 : Int) < (fs.length : Int)
  · have Hv := Lib.hid (okTree_long fs (by omega))
    go_enter Try.func59, Try.ntmps59
    go_wp2_with fail
    go_ret
    rw [Hv.out]
    exact ⟨rfl, by (repeat (with_reducible first | exact Below.refl _ _ | assumption | refine ba ?_ _ | refine bd ?_ | refine bdN ?_ _ | refine bs ?_ (by first | exact Nat.le_refl _ | (dsimp only; omega) | (simp; done)) _ | refine bt ?_ (by assumption)))⟩
  · go_enter Try.func59, Try.ntmps59
    go_wp2_with fail
    go_loopw [12] (fun iv wr => ∃ k : Nat, k ≤ fs.length ∧ iv = .int .i64 k ∧ Boxed w #[.slice aa fs.length ca] 25 wr ∧ ∀ i (h : i < fs.length), i < k → okFil fs[i] = true) (fun iv _ => fs.length - (intOf iv).toNat)
    case atStart => exact ⟨0, by omega, rfl, Boxed.start _ _ _, fun i _ h => absurd h (by omega)⟩
    case round =>
      obtain ⟨k, hk, rfl, hbx, ha⟩ := hrel
      have hbel := hbx.below
      have Hbx := Lib.hid hbx
      clear hbx
      have Ha := Lib.hid ha
      clear ha
      by_cases hlt : k < fs.length
      · obtain ⟨b, off, cap, bv, e, hD, hb, hbody, c0, c1, c2, c3, c4, c5⟩ := (Hr.out.below hbel).at_ hlt
        simp only [Value.slice.injEq] at e
        obtain ⟨rfl, _, rfl⟩ := e
        obtain ⟨ba', bc', rfl, hbl, hbm⟩ := hbody.len
        obtain ⟨z1, z2, z3⟩ := Hz.out _ (List.getElem_mem hlt)
        have Hz3 := Lib.hid z3
        have Hbody := Lib.hid hbody
        have Hn := Lib.hid (okTree_no fs k hlt)
        obtain ⟨f, hf⟩ : ∃ f, f = fs[k] := ⟨_, rfl⟩
        rw [← hf] at c0 c1 c2 c3 c4 c5 z1 z2 Hz3 Hn Hbody
        have Hy := Lib.hid (fun (h : okFil f = true) => (show okFil fs[k] = true by rw [← hf]; exact h))
        clear hf hbody hbm hbl z3
        obtain ⟨fr, fp, fn, fi, fst, fb⟩ := f
        dsimp only at c0 c1 c2 c3 c4 c5 z1 z2
        go_wp2_with (go_at_call 96; refine (impl_validFile _ _ _ _ _ _ fb D _ z1 z2 (Hbody.out.below (by (repeat (with_reducible first | exact Below.refl _ _ | assumption | refine ba ?_ _ | refine bd ?_ | refine bdN ?_ _ | refine bs ?_ (by first | exact Nat.le_refl _ | (dsimp only; omega) | (simp; done)) _ | refine bt ?_ (by assumption))))) Hz3.out).mono ?_; (rintro _ _ ⟨rfl, hb⟩; obtain ⟨hc, hf, hs⟩ := bcell hb))
        · have h : (!okFil ⟨fr, fp, fn, fi, fst, fb⟩) = true := by assumption
          go_ret
          rw [Hn.out (by simpa using h)]
          exact ⟨rfl, by (repeat (with_reducible first | exact Below.refl _ _ | assumption | refine ba ?_ _ | refine bd ?_ | refine bdN ?_ _ | refine bs ?_ (by first | exact Nat.le_refl _ | (dsimp only; omega) | (simp; done)) _ | refine bt ?_ (by assumption)))⟩
        · have h : (!okFil ⟨fr, fp, fn, fi, fst, fb⟩) = false := by assumption
          go_roundw
          case rel =>
            refine ⟨k + 1, by omega, by go_num, Hbx.out.step (by (repeat (with_reducible first | exact Below.refl _ _ | assumption | refine ba ?_ _ | refine bd ?_ | refine bdN ?_ _ | refine bs ?_ (by first | exact Nat.le_refl _ | (dsimp only; omega) | (simp; done)) _ | refine bt ?_ (by assumption)))), fun i h1 hi => ?_⟩
            by_cases e : i = k
            · subst e; exact Hy.out (by simpa using h)
            · exact Ha.out i h1 (by omega)
          case measure => simp [intOf]; omega
      · have hall := all_okFil fs (fun i h => Ha.out i h (by omega))
        have Ho := Lib.hid (okPls_of hall)
        have Hv := Lib.hid (okTree_dedup hall (by omega))
        have hbox : wr.cell? ⟨w.heap.size, 0, none⟩ = some (.slice aa fs.length ca) := Hbx.out.cell 0
        have hsz := Hbx.out.lt
        have hbe := Lib.hid hbel
        clear hall
        go_wp2_with fail
        go_region_law (first
          | (refine step_plLen _ rfl _ rfl _ _ _ rfl hpl ?_)
          | (go_simp; go_at_call 51; refine (impl_placesOf _ fs D _ (Hr.out.below (by have h := hbe.out; (repeat (with_reducible first | exact Below.refl _ _ | assumption | refine ba ?_ _ | refine bd ?_ | refine bdN ?_ _ | refine bs ?_ (by first | exact Nat.le_refl _ | (dsimp only; omega) | (simp; done)) _ | refine bt ?_ (by assumption))))) Ho.out (by omega)).mono ?_; rintro e w' ⟨mb, rfl, hmb, hpl, hbm⟩; have hbox2 := (hbm.cell (p := ⟨w.heap.size, 0, none⟩) hsz).trans hbox))
        all_goals
          go_wp2_with fail
          go_ret
          refine ⟨ret_bool ?_, by have h := hbe.out; (repeat (with_reducible first | exact Below.refl _ _ | assumption | refine ba ?_ _ | refine bd ?_ | refine bdN ?_ _ | refine bs ?_ (by first | exact Nat.le_refl _ | (dsimp only; omega) | (simp; done)) _ | refine bt ?_ (by assumption)))⟩
          exact Hv.out

/-! ### Contracts of the model's functions that say whether a tree is valid. -/
theorem beq_bs (a b : Bs) : (a == b) = decide (a = b) := by rw [Bool.eq_iff_iff]; simp

/-- Two blocks of the call's own that stand first among the new ones, and have not turned. -/
def Boxed2 (w : World) (cs : Array Value) (T : TypeId) (ds : Array Value) (U : TypeId) (wr : World) : Prop := Below ((w.alloc (.cells cs T)).alloc (.cells ds U)).heap.size ((w.alloc (.cells cs T)).alloc (.cells ds U)) wr
theorem Boxed2.start (w : World) (cs : Array Value) (T : TypeId) (ds : Array Value) (U : TypeId) : Boxed2 w cs T ds U ((w.alloc (.cells cs T)).alloc (.cells ds U)) := Below.refl _ _
theorem Boxed2.lt {w wr : World} {cs ds : Array Value} {T U : TypeId} (h : Boxed2 w cs T ds U wr) : w.heap.size + 1 < wr.heap.size := by
  have := h.size; simp at this; omega
theorem Boxed2.one {w wr : World} {cs ds : Array Value} {T U : TypeId} (h : Boxed2 w cs T ds U wr) : Boxed w cs T wr := (ba (Below.refl _ _) _).trans (h.mono (by simp))
theorem Boxed2.two {w wr : World} {cs ds : Array Value} {T U : TypeId} (h : Boxed2 w cs T ds U wr) : Boxed (w.alloc (.cells cs T)) ds U wr := h
theorem Boxed2.cell {w wr : World} {cs ds : Array Value} {T U : TypeId} (h : Boxed2 w cs T ds U wr) (i : Nat) : wr.cell? ⟨w.heap.size + 1, i, none⟩ = ds[i]? := by
  have := h.two.cell i
  simpa using this
theorem Boxed2.below {w wr : World} {cs ds : Array Value} {T U : TypeId} (h : Boxed2 w cs T ds U wr) : Below w.heap.size w wr := h.one.below
theorem Boxed2.step {w wr w' : World} {cs ds : Array Value} {T U : TypeId} (h : Boxed2 w cs T ds U wr) (hb : Below wr.heap.size wr w') : Boxed2 w cs T ds U w' := bt h hb


def samePl (a b : Pl) : Bool := decide (a = b)
set_option maxRecDepth 100000 in
set_option maxHeartbeats 1000000 in
theorem spec_sameFile (r st : Int) (p n : Bs) (i : Bool) (bv : Value) (r' st' : Int) (p' n' : Bs) (i' : Bool) (bv' : Value) (w : World) :
    Calls Try.prog 145 #[.agg #[.int .i64 r, .string (mk p), .string (mk n), .bool i, .int .i64 st, bv], .agg #[.int .i64 r', .string (mk p'), .string (mk n'), .bool i', .int .i64 st', bv']] w
      fun e w' => e = .returned (.bool (samePl (r, p, n, i) (r', p', n', i'))) ∧ Below w.heap.size w w' := by
  go_enter Try.func145, Try.ntmps145
  go_wp2_with fail
  all_goals (go_ret; refine ⟨ret_bool ?_, by (repeat (with_reducible first | exact Below.refl _ _ | assumption | refine ba ?_ _ | refine bd ?_ | refine bdN ?_ _ | refine bs ?_ (by first | exact Nat.le_refl _ | (dsimp only; omega) | (simp; done)) _ | refine bt ?_ (by assumption)))⟩; simp_all [samePl, Prod.ext_iff, beq_bs])

set_option maxRecDepth 100000 in
set_option maxHeartbeats 1000000 in
theorem spec_fileAt (v : Value) (fs : List Fil) (D : Nat → Prop) (r st : Int) (p n : Bs) (i : Bool) (ba : Option Addr) (bn bc : Nat) (w : World) (hr : FilsIn w D v fs) :
    Calls Try.prog 123 #[.agg #[v], .agg #[.int .i64 r, .string (mk p), .string (mk n), .bool i, .int .i64 st, .slice ba bn bc]] w
      fun e w' => e = .returned (.int .i64 (firstAt fs (r, p, n, i))) ∧ Below w.heap.size w w' := by
  have Hr := Lib.hid hr
  obtain ⟨aa, ca, rfl, hl, hm⟩ := hr.len
  unfold maxLen at hm
  clear hr
  go_enter Try.func123, Try.ntmps123
  go_wp2_with fail
  go_loopw [5] (fun iv wr => ∃ k : Nat, k ≤ fs.length ∧ iv = .int .i64 k ∧ Boxed2 w #[.slice aa fs.length ca] 25 #[.int .i64 r, .string (mk p), .string (mk n), .bool i, .int .i64 st, .slice ba bn bc] 36 wr ∧ ∀ j (h : j < fs.length), j < k → place fs[j] ≠ (r, p, n, i)) (fun iv _ => fs.length - (intOf iv).toNat)
  case atStart => exact ⟨0, by omega, rfl, Boxed2.start _ _ _ _ _, fun i _ h => absurd h (by omega)⟩
  case round =>
    obtain ⟨k, hk, rfl, hbx, ha⟩ := hrel
    have hbel := hbx.below
    have hA : wr.cell? ⟨w.heap.size, 0, none⟩ = some (.slice aa fs.length ca) := hbx.one.cell 0
    have hB0 : wr.cell? ⟨w.heap.size + 1, 0, none⟩ = some (.int .i64 r) := hbx.cell 0
    have hB1 : wr.cell? ⟨w.heap.size + 1, 1, none⟩ = some (.string (mk p)) := hbx.cell 1
    have hB2 : wr.cell? ⟨w.heap.size + 1, 2, none⟩ = some (.string (mk n)) := hbx.cell 2
    have hB3 : wr.cell? ⟨w.heap.size + 1, 3, none⟩ = some (.bool i) := hbx.cell 3
    have hB4 : wr.cell? ⟨w.heap.size + 1, 4, none⟩ = some (.int .i64 st) := hbx.cell 4
    have hB5 : wr.cell? ⟨w.heap.size + 1, 5, none⟩ = some (.slice ba bn bc) := hbx.cell 5
    have Hbx := Lib.hid hbx
    have Ha := Lib.hid ha
    clear ha hbx
    by_cases hlt : k < fs.length
    · obtain ⟨b, off, cap, bv, e, hD, hb, hbody, c0, c1, c2, c3, c4, c5⟩ := (Hr.out.below hbel).at_ hlt
      simp only [Value.slice.injEq] at e
      obtain ⟨rfl, _, rfl⟩ := e
      obtain ⟨ba', bc', rfl, hbl, hbm⟩ := hbody.len
      clear hbody hbl hbm
      obtain ⟨bn', hbn⟩ : ∃ bn', bn' = fs[k].body.length := ⟨_, rfl⟩
      rw [← hbn] at c5
      clear hbn
      have Hy := Lib.hid (firstAt_yes fs k hlt (r, p, n, i) (fun j h1 h2 => Ha.out j h1 h2))
      obtain ⟨f, hf⟩ : ∃ f, f = fs[k] := ⟨_, rfl⟩
      rw [← hf] at c0 c1 c2 c3 c4 Hy
      have Hn := Lib.hid (fun (h : place f ≠ (r, p, n, i)) => (show place fs[k] ≠ (r, p, n, i) by rw [← hf]; exact h))
      clear hf
      obtain ⟨fr, fp, fn, fi, fst, fb⟩ := f
      dsimp only at c0 c1 c2 c3 c4
      have hk1 : (k : Int) < (fs.length : Int) := by omega
      have hk0 : (0 : Int) ≤ (k : Int) := by omega
      go_wp2_with fail
      go_still_tail 6, (by kernel_rfl)
      go_wp2_with (go_at_call 145; refine (spec_sameFile _ _ _ _ _ _ _ _ _ _ _ _ _).mono ?_; (rintro _ _ ⟨rfl, hb⟩; obtain ⟨hc, hf, hs⟩ := bcell hb))
      · have h : samePl (fr, fp, fn, fi) (r, p, n, i) = true := by assumption
        go_ret
        rw [Hy.out (of_decide_eq_true h)]
        exact ⟨rfl, by (repeat (with_reducible first | exact Below.refl _ _ | assumption | refine ba ?_ _ | refine bd ?_ | refine bdN ?_ _ | refine bs ?_ (by first | exact Nat.le_refl _ | (dsimp only; omega) | (simp; done)) _ | refine bt ?_ (by assumption)))⟩
      · have h : ¬ samePl (fr, fp, fn, fi) (r, p, n, i) = true := by first | assumption | (rw [Bool.not_eq_true]; assumption)
        go_roundw
        case rel =>
          refine ⟨k + 1, by omega, by go_num, Hbx.out.step (by (repeat (with_reducible first | exact Below.refl _ _ | assumption | refine ba ?_ _ | refine bd ?_ | refine bdN ?_ _ | refine bs ?_ (by first | exact Nat.le_refl _ | (dsimp only; omega) | (simp; done)) _ | refine bt ?_ (by assumption)))), fun i' h1 hi => ?_⟩
          by_cases e : i' = k
          · subst e; exact Hn.out (fun h' => h (decide_eq_true h'))
          · exact Ha.out i' h1 (by omega)
        case measure => simp [intOf]; omega
    · have hv := Lib.hid (firstAt_no fs (r, p, n, i) (fun j h1 => Ha.out j h1 (by omega)))
      go_wp2_with fail
      go_ret
      rw [hv.out]
      exact ⟨rfl, Hbx.out.below⟩
theorem okTree_dup {fs : List Fil} {k j : Nat} (h : k < fs.length) (hj : j < fs.length) (hjk : j < k) (he : place fs[j] = place fs[k]) : okTree fs = false := by
  have : ¬ (fs.map place).Nodup := fun hn => by
    rw [List.nodup_iff_pairwise_ne, List.pairwise_iff_getElem] at hn
    have := hn j k (by simpa using hj) (by simpa using h) hjk
    simp at this
    exact this he
  simp [okTree, this]
theorem okTree_fine {fs : List Fil} (ha : ∀ i (h : i < fs.length), okFil fs[i] = true) (hn : ∀ i (h : i < fs.length) j (hj : j < fs.length), j < i → place fs[j] ≠ place fs[i]) : okTree fs = decide (fs.length ≤ 12) := by
  have h1 := all_okFil fs ha
  have h2 : (fs.map place).Nodup := by
    rw [List.nodup_iff_pairwise_ne, List.pairwise_iff_getElem]
    intro i j hi hj hij
    simp only [List.getElem_map]
    exact hn j (by simpa using hj) i (by simpa using hi) hij
  simp [okTree, h1, h2]
set_option maxRecDepth 100000 in
set_option maxHeartbeats 1000000 in
theorem spec_validTree (v : Value) (fs : List Fil) (D : Nat → Prop) (w : World) (hr : FilsIn w D v fs) (hz : ShortT 3000000 fs) :
    Calls Try.prog 85 #[.agg #[v]] w fun e w' => e = .returned (.bool (okTree fs)) ∧ Below w.heap.size w w' := by
  have Hr := Lib.hid hr
  obtain ⟨aa, ca, rfl, hl, hm⟩ := hr.len
  unfold maxLen at hm
  have Hz := Lib.hid hz
  clear hr hz
  go_enter Try.func85, Try.ntmps85
  go_wp2_with fail
  go_loopw [3] (fun iv wr => ∃ k : Nat, k ≤ fs.length ∧ iv = .int .i64 k ∧ Boxed w #[.slice aa fs.length ca] 25 wr ∧ (∀ i (h : i < fs.length), i < k → okFil fs[i] = true) ∧ ∀ i (h : i < fs.length) j (hj : j < fs.length), i < k → j < i → place fs[j] ≠ place fs[i]) (fun iv _ => fs.length - (intOf iv).toNat)
  case atStart => exact ⟨0, by omega, rfl, Boxed.start _ _ _, fun i _ h => absurd h (by omega), fun i _ _ _ h => absurd h (by omega)⟩
  case round =>
    obtain ⟨k, hk, rfl, hbx, ha, hd⟩ := hrel
    have hbel := hbx.below
    have hA : wr.cell? ⟨w.heap.size, 0, none⟩ = some (.slice aa fs.length ca) := hbx.cell 0
    have hsz := hbx.lt
    have Hbx := Lib.hid hbx
    have Ha := Lib.hid ha
    have Hd := Lib.hid hd
    clear ha hbx hd
    by_cases hlt : k < fs.length
    · obtain ⟨b, off, cap, bv, e, hD, hb, hbody, c0, c1, c2, c3, c4, c5⟩ := (Hr.out.below hbel).at_ hlt
      simp only [Value.slice.injEq] at e
      obtain ⟨rfl, _, rfl⟩ := e
      obtain ⟨ba', bc', rfl, hbl, hbm⟩ := hbody.len
      obtain ⟨z1, z2, z3⟩ := Hz.out _ (List.getElem_mem hlt)
      have Hz3 := Lib.hid (show Short 8000000 fs[k].body from fun s hs => ⟨by have := (z3 s hs).1; omega, by have := (z3 s hs).2; omega⟩)
      have Hbody := Lib.hid hbody
      have Hn := Lib.hid (okTree_no fs k hlt)
      have Hlt := Lib.hid (firstAt_lt fs k hlt)
      obtain ⟨f, hf⟩ : ∃ f, f = fs[k] := ⟨_, rfl⟩
      rw [← hf] at c0 c1 c2 c3 c4 c5 z1 z2 Hz3 Hn Hbody
      have Hf := Lib.hid hf
      have hk1 : (k : Int) < (fs.length : Int) := by omega
      have hk0 : (0 : Int) ≤ (k : Int) := by omega
      clear hf hbody hbm hbl z3
      obtain ⟨fr, fp, fn, fi, fst, fb⟩ := f
      dsimp only at c0 c1 c2 c3 c4 c5 z1 z2
      have hb2 : b < wr.heap.size := hb
      obtain ⟨p0, hp0⟩ : ∃ p0 : Pl, p0 = (fr, fp, fn, fi) := ⟨_, rfl⟩
      have Hp0 := Lib.hid hp0
      clear hp0
      have hbe := Lib.hid hbel
      have kA := cell_regrown hA
      have k0 := cell_regrown c0
      have k1 := cell_regrown c1
      have k2 := cell_regrown c2
      have k3 := cell_regrown c3
      have k4 := cell_regrown c4
      have k5 := cell_regrown c5
      clear c0 c1 c2 c3 c4 c5
      cases hok : okFil ⟨fr, fp, fn, fi, fst, fb⟩
      · have hOk := Lib.hid hok
        clear hok
        have cV : ∀ d os, Calls Try.prog 122 #[.agg #[.int .i64 fr, .string (mk fp), .string (mk fn), .bool fi, .int .i64 fst, .slice ba' fb.length bc']] (grow (redrawn wr d) os) fun e w'' => e = .returned (.bool false) ∧ ∃ p : Regrown, w'' = grow (redrawn wr p.d) p.os := fun d os =>
          Calls.regrown_of (by have h := spec_validFile fr fst fp fn fi (.slice ba' fb.length bc') fb D (grow (redrawn wr d) os) z1 z2 (Hbody.out.below (below_regrown wr d os)) Hz3.out; rw [hOk.out] at h; exact h)
        go_wp2_with fail
        refine wp_region_quiet_below (by kernel_rfl) (by kernel_rfl) ?_
        repeat (go_big_quiet_step (exact cV _ _))
        refine wpQuiet_nil ?_
        intro _ hw'
        obtain ⟨⟨dq, osq⟩, hw2⟩ := hw'
        subst hw2
        have Hb7 := Lib.hid (bt hbe.out (below_regrown wr dq osq))
        have Hb8 := Lib.hid (below_regrown wr dq osq)
        clear cV kA k0 k1 k2 k3 k4 k5 hA
        go_wp2_with fail
        go_ret
        rw [Hn.out hOk.out]
        exact ⟨rfl, Hb7.out⟩
      · have hOk := Lib.hid hok
        clear hok
        have cV : ∀ d os, Calls Try.prog 122 #[.agg #[.int .i64 fr, .string (mk fp), .string (mk fn), .bool fi, .int .i64 fst, .slice ba' fb.length bc']] (grow (redrawn wr d) os) fun e w'' => e = .returned (.bool true) ∧ ∃ p : Regrown, w'' = grow (redrawn wr p.d) p.os := fun d os =>
          Calls.regrown_of (by have h := spec_validFile fr fst fp fn fi (.slice ba' fb.length bc') fb D (grow (redrawn wr d) os) z1 z2 (Hbody.out.below (below_regrown wr d os)) Hz3.out; rw [hOk.out] at h; exact h)
        have cF : ∀ d os, Calls Try.prog 123 #[.agg #[.slice (some ⟨b, off, none⟩) fs.length ca], .agg #[.int .i64 fr, .string (mk fp), .string (mk fn), .bool fi, .int .i64 fst, .slice ba' fb.length bc']] (grow (redrawn wr d) os) fun e w'' => e = .returned (.int .i64 (firstAt fs (fr, fp, fn, fi))) ∧ ∃ p : Regrown, w'' = grow (redrawn wr p.d) p.os := fun d os =>
          Calls.regrown_of (spec_fileAt _ fs D _ _ _ _ _ _ _ _ (grow (redrawn wr d) os) (Hr.out.below (bt hbe.out (below_regrown wr d os))))
        rw [← Hf.out] at Hlt
        have Hl2 := Lib.hid (show (firstAt fs (fr, fp, fn, fi) < (k : Int)) ↔ ∃ j, ∃ hj : j < fs.length, j < k ∧ place fs[j] = place fs[k] by rw [← Hf.out]; exact Hlt.out)
        generalize firstAt fs (fr, fp, fn, fi) = n0 at *
        by_cases hlt0 : n0 < (k : Int)
        · obtain ⟨j, hj, hjk, hje⟩ := Hl2.out.1 hlt0
          have Hdup := Lib.hid (okTree_dup hlt hj hjk hje)
          clear hje hjk hj
          go_wp2_with fail
          refine wp_region_quiet_below (by kernel_rfl) (by kernel_rfl) ?_
          repeat (go_big_quiet_step (first | exact cV _ _ | exact cF _ _))
          refine wpQuiet_nil ?_
          intro _ hw'
          obtain ⟨⟨dq, osq⟩, hw2⟩ := hw'
          subst hw2
          have Hb7 := Lib.hid (bt hbe.out (below_regrown wr dq osq))
          have Hb8 := Lib.hid (below_regrown wr dq osq)
          clear cV kA k0 k1 k2 k3 k4 k5 hA
          go_wp2_with fail
          go_ret
          rw [Hdup.out]
          exact ⟨rfl, Hb7.out⟩
        · have Hnd := Lib.hid (fun j (hj : j < fs.length) (hjk : j < k) (he : place fs[j] = place fs[k]) => hlt0 (Hl2.out.2 ⟨j, hj, hjk, he⟩))
          go_wp2_with fail
          refine wp_region_quiet_below (by kernel_rfl) (by kernel_rfl) ?_
          repeat (go_big_quiet_step (first | exact cV _ _ | exact cF _ _))
          refine wpQuiet_nil ?_
          intro _ hw'
          obtain ⟨⟨dq, osq⟩, hw2⟩ := hw'
          subst hw2
          have Hb7 := Lib.hid (bt hbe.out (below_regrown wr dq osq))
          have Hb8 := Lib.hid (below_regrown wr dq osq)
          clear cV kA k0 k1 k2 k3 k4 k5 hA
          go_wp2_with fail
          go_roundw
          case rel =>
            refine ⟨k + 1, by omega, by go_num, Hbx.out.step Hb8.out, fun i h1 hi => ?_, fun i h1 j hj hi hji => ?_⟩
            · by_cases e : i = k
              · subst e; rw [← Hf.out]; exact hOk.out
              · exact Ha.out i h1 (by omega)
            · by_cases e : i = k
              · subst e; exact Hnd.out j hj hji
              · exact Hd.out i h1 j hj (by omega) hji
          case measure => simp [intOf]; omega
    · have hv := Lib.hid (okTree_fine (fun i h => Ha.out i h (by omega)) (fun i h j hj hji => Hd.out i h j hj (by omega) hji))
      go_wp2_with fail
      go_ret
      refine ⟨ret_bool ?_, hbel⟩
      rw [hv.out]
      try simp
      try omega
end Go.Proofs.Ytgecemngfpgcoaa
