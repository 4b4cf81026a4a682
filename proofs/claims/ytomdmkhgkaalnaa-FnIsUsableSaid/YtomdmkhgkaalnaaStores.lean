/- Contracts of the program's functions that say whether a store is valid. -/
import Derived.Test.YtomdmkhgkaalnaaStoreMem
import Derived.Test.YtomdmkhgkaalnaaPlaceM
import Derived.Test.YtomdmkhgkaalnaaSizes
import Derived.Test.YtomdmkhgkaalnaaPlaces
import Derived.Test.YtomdmkhgkaalnaaTrees
import Derived.Test.YtomdmkhgkaalnaaKin
set_option linter.unusedVariables false
set_option linter.unusedSimpArgs false
namespace Go.Proofs.Ytomdmkhgkaalnaa
open Go.RowKit Go.Proofs.Ytomdmkhgkaalnaa.Nm
open Go.Sort (grow)

theorem still_belowC {P : Program} {f : FuncId} {args : Array Value} {w : World} {v : Value} (h : Calls P f args w fun e w' => e = .returned v ∧ w = w') :
    Calls P f args w fun e w' => e = .returned v ∧ Below w.heap.size w w' := h.mono fun _ _ hh => ⟨hh.1, by rw [← hh.2]; exact Below.refl _ _⟩
theorem impl_placeOfModule (r : Int) (n : Bs) (i : Bool) (w : World) (hn : n.length ≤ 8000000) :
    Calls Try.prog 123 #[.int .i64 r, .string (mk n), .bool i] w fun e w' => e = .returned (plVal (srcPlace (r, n, i))) ∧ Below w.heap.size w w' := by
  cases i
  · exact impl_placeOfModuleM r n w hn
  · exact impl_placeOfModuleI r n w
set_option maxRecDepth 100000 in
set_option maxHeartbeats 1000000 in
theorem impl_placeOfSource (x0 : Int) (x1 : Bs) (x2 : Bool) (x3 x4 x5 x6 : Int) (bv : Value) (w : World) (hn : x1.length ≤ 8000000) :
    Calls Try.prog 68 #[.agg #[.int .i64 x0, .string (mk x1), .bool x2, .int .i64 x3, .int .i64 x4, .int .i64 x5, .int .i64 x6, bv]] w
      fun e w' => e = .returned (plVal (srcPlace (x0, x1, x2))) ∧ Below w.heap.size w w' := by
  have Hm := Lib.hid (fun W => impl_placeOfModule x0 x1 x2 W hn)
  obtain ⟨⟨pr, pp, pn, pi⟩, hpl⟩ : ∃ p, p = srcPlace (x0, x1, x2) := ⟨_, rfl⟩
  rw [← hpl] at Hm ⊢
  clear hpl
  unfold plVal at Hm ⊢
  dsimp only at Hm ⊢
  go_enter Try.func68, Try.ntmps68
  go_wp2_with (go_at_call 123; refine (Hm.out _).mono ?_; (rintro _ _ ⟨rfl, hb⟩; obtain ⟨hc, hf, hs⟩ := bcell hb))
  exact bodyPost_ret (v := .agg #[.int .i64 pr, .string (mk pp), .string (mk pn), .bool pi]) (by simp [results, Try.results68, go_sem, *]) rfl ⟨rfl, by (repeat (with_reducible first | exact Below.refl _ _ | assumption | refine ba ?_ _ | refine bd ?_ | refine bdN ?_ _ | refine bs ?_ (by first | exact Nat.le_refl _ | (dsimp only; omega) | (simp; done)) _ | refine bt ?_ (by assumption)))⟩
theorem plEqC (x y : Pl) (w : World) : (binOp .eql 90 (plVal x) (plVal y)).run Try.prog w = .ok (.bool (decide (x = y))) w := by
  obtain ⟨a, b, c, d⟩ := x
  obtain ⟨a', b', c', d'⟩ := y
  by_cases h1 : a = a' <;> by_cases h2 : b = b' <;> by_cases h3 : c = c' <;> by_cases h4 : d = d' <;> simp [plVal, go_sem, h1, h2, h3, h4, Try.underlying90, Try.underlying3, Try.underlying9, Try.underlying4]
/-- The place that a closure has captured. -/
def PlAtC (w : World) (B : Nat) (p : Pl) : Prop := B < w.heap.size ∧ w.cell? ⟨B, 0, none⟩ = some (.int .i64 p.1) ∧ w.cell? ⟨B, 1, none⟩ = some (.string (mk p.2.1)) ∧ w.cell? ⟨B, 2, none⟩ = some (.string (mk p.2.2.1)) ∧ w.cell? ⟨B, 3, none⟩ = some (.bool p.2.2.2)
theorem PlAtC.below {w w' : World} {B : Nat} {p : Pl} (h : PlAtC w B p) (hb : Below w.heap.size w w') : PlAtC w' B p := by
  obtain ⟨h0, h1, h2, h3, h4⟩ := h
  exact ⟨Nat.lt_of_lt_of_le h0 hb.size, (hb.cell (p := ⟨B, 0, none⟩) h0).trans h1, (hb.cell (p := ⟨B, 1, none⟩) h0).trans h2, (hb.cell (p := ⟨B, 2, none⟩) h0).trans h3, (hb.cell (p := ⟨B, 3, none⟩) h0).trans h4⟩
set_option maxRecDepth 100000 in
set_option maxHeartbeats 1000000 in
theorem impl_compiledAt1 (x0 : Int) (x1 : Bs) (x2 : Bool) (x3 x4 x5 x6 : Int) (bv : Value) (B : Nat) (p : Pl) (w : World) (hp : PlAtC w B p) (hn : x1.length ≤ 8000000) :
    Calls Try.prog 129 #[.agg #[.int .i64 x0, .string (mk x1), .bool x2, .int .i64 x3, .int .i64 x4, .int .i64 x5, .int .i64 x6, bv], .pointer (some ⟨B, 0, none⟩)] w
      fun e w' => e = .returned (.bool (decide (srcPlace (x0, x1, x2) = p))) ∧ Below w.heap.size w w' := by
  have Hm := Lib.hid (fun W => impl_placeOfSource x0 x1 x2 x3 x4 x5 x6 bv W hn)
  obtain ⟨⟨sr, sp, sn, si⟩, hsp⟩ : ∃ s, s = srcPlace (x0, x1, x2) := ⟨_, rfl⟩
  rw [← hsp] at Hm ⊢
  clear hsp
  obtain ⟨pr, pp, pn, pi⟩ := p
  obtain ⟨h0, h1, h2, h3, h4⟩ := hp
  dsimp only at h1 h2 h3 h4
  have qE := fun w => plEqC (sr, sp, sn, si) (pr, pp, pn, pi) w
  unfold plVal at qE Hm
  dsimp only at qE Hm
  generalize decide ((sr, sp, sn, si) = (pr, pp, pn, pi)) = c at *
  go_enter Try.func129, Try.ntmps129
  go_wp2_with fail
  have hx := Boxed.start w #[.int .i64 x0, .string (mk x1), .bool x2, .int .i64 x3, .int .i64 x4, .int .i64 x5, .int .i64 x6, bv] 53
  obtain ⟨W1, hW1⟩ : ∃ W1, W1 = w.alloc (.cells #[.int .i64 x0, .string (mk x1), .bool x2, .int .i64 x3, .int .i64 x4, .int .i64 x5, .int .i64 x6, bv] 53) := ⟨_, rfl⟩
  rw [← hW1] at hx ⊢
  have hb := hx.below
  have k0 := cell_regrown (show W1.cell? ⟨w.heap.size, 0, none⟩ = some (.int .i64 x0) from hx.cell 0)
  have k1 := cell_regrown (show W1.cell? ⟨w.heap.size, 1, none⟩ = some (.string (mk x1)) from hx.cell 1)
  have k2 := cell_regrown (show W1.cell? ⟨w.heap.size, 2, none⟩ = some (.bool x2) from hx.cell 2)
  have k3 := cell_regrown (show W1.cell? ⟨w.heap.size, 3, none⟩ = some (.int .i64 x3) from hx.cell 3)
  have k4 := cell_regrown (show W1.cell? ⟨w.heap.size, 4, none⟩ = some (.int .i64 x4) from hx.cell 4)
  have k5 := cell_regrown (show W1.cell? ⟨w.heap.size, 5, none⟩ = some (.int .i64 x5) from hx.cell 5)
  have k6 := cell_regrown (show W1.cell? ⟨w.heap.size, 6, none⟩ = some (.int .i64 x6) from hx.cell 6)
  have k7 := cell_regrown (show W1.cell? ⟨w.heap.size, 7, none⟩ = some bv from hx.cell 7)
  have j1 := cell_regrown ((hb.cell (p := ⟨B, 0, none⟩) h0).trans h1)
  have j2 := cell_regrown ((hb.cell (p := ⟨B, 1, none⟩) h0).trans h2)
  have j3 := cell_regrown ((hb.cell (p := ⟨B, 2, none⟩) h0).trans h3)
  have j4 := cell_regrown ((hb.cell (p := ⟨B, 3, none⟩) h0).trans h4)
  have Hb := Lib.hid hb
  clear hx hb hW1 h1 h2 h3 h4
  have cP : ∀ d os, Calls Try.prog 68 #[.agg #[.int .i64 x0, .string (mk x1), .bool x2, .int .i64 x3, .int .i64 x4, .int .i64 x5, .int .i64 x6, bv]] (grow (redrawn W1 d) os) fun e w'' => e = .returned (.agg #[.int .i64 sr, .string (mk sp), .string (mk sn), .bool si]) ∧ ∃ p : Regrown, w'' = grow (redrawn W1 p.d) p.os := fun d os =>
    Calls.regrown_of (Hm.out (grow (redrawn W1 d) os))
  refine wp_region_quiet_below (by kernel_rfl) (by kernel_rfl) ?_
  repeat (go_big_quiet_step (exact cP _ _))
  refine wpQuiet_nil ?_
  intro _ hw'
  obtain ⟨⟨dq, osq⟩, hw2⟩ := hw'
  subst hw2
  have Hb7 := Lib.hid (bt Hb.out (below_regrown W1 dq osq))
  clear cP k0 k1 k2 k3 k4 k5 k6 k7 j1 j2 j3 j4 qE
  go_wp2_with fail
  go_ret
  exact ⟨rfl, Hb7.out⟩
/-- The place of the file of what is compiled. -/
def sourceOf (c : Cmp) : Pl := srcPlace (cplace c)
set_option maxRecDepth 100000 in
set_option maxHeartbeats 1000000 in
theorem slices_IndexFuncC (v : Value) (cs : List Cmp) (D : Nat → Prop) (B : Nat) (p : Pl) (w : World) (hr : CmpsIn w D v cs) (hz : ShortCs 8000000 cs) (hp : PlAtC w B p) :
    Calls Try.prog 122 #[v, .func (.func 129) #[] #[.pointer (some ⟨B, 0, none⟩)]] w
      fun e w' => e = .returned (.int .i64 (keyAt sourceOf cs p)) ∧ Below w.heap.size w w' := by
  have Hr := Lib.hid hr
  have Hp := Lib.hid hp
  have Hz := Lib.hid hz
  obtain ⟨aa, ca, rfl, hl, hm⟩ := hr.len
  unfold maxLen at hm
  clear hr hp hz
  go_enter Try.func122, Try.ntmps122
  go_wp2_with fail
  go_loopw [8] (fun iv wr => ∃ k : Nat, k ≤ cs.length ∧ iv = .int .i64 k ∧ Below w.heap.size w wr ∧ ∀ j (h : j < cs.length), j < k → sourceOf cs[j] ≠ p) (fun iv _ => cs.length - (intOf iv).toNat)
  case atStart => exact ⟨0, by omega, rfl, Below.refl _ _, fun i _ h => absurd h (by omega)⟩
  case round =>
    obtain ⟨k, hk, rfl, hbel, ha⟩ := hrel
    have Ha := Lib.hid ha
    clear ha
    by_cases hlt : k < cs.length
    · obtain ⟨b, off, cap, bv, e, hD, hb, hbody, c0, c1, c2, c3, c4, c5, c6, c7⟩ := (Hr.out.below hbel).at_ hlt
      simp only [Value.slice.injEq] at e
      obtain ⟨rfl, _, rfl⟩ := e
      obtain ⟨ba', bc', rfl, hbl, hbm⟩ := hbody.len
      clear hbody hbl hbm
      obtain ⟨z1, _⟩ := Hz.out _ (List.getElem_mem hlt)
      obtain ⟨bn', hbn⟩ : ∃ bn', bn' = cs[k].body.length := ⟨_, rfl⟩
      rw [← hbn] at c7
      clear hbn
      have Hy := Lib.hid (keyAt_yes (key := sourceOf) cs k hlt p (fun j h1 h2 => Ha.out j h1 h2))
      have Hq := Lib.hid (Hp.out.below hbel)
      obtain ⟨f, hf⟩ : ∃ f, f = cs[k] := ⟨_, rfl⟩
      rw [← hf] at c0 c1 c2 c3 c4 c5 c6 Hy z1
      have Hn := Lib.hid (fun (h : sourceOf f ≠ p) => (show sourceOf cs[k] ≠ p by rw [← hf]; exact h))
      clear hf
      obtain ⟨x0, x1, x2, x3, x4, x5, x6, fb⟩ := f
      dsimp only at c0 c1 c2 c3 c4 c5 c6 z1
      by_cases he : srcPlace (x0, x1, x2) = p
      · have He := Lib.hid (decide_eq_true he)
        have Hv := Lib.hid (Hy.out he)
        clear he
        go_wp2_with (go_at_call 129; refine (impl_compiledAt1 _ _ _ _ _ _ _ _ B p _ (Hq.out.below (by (repeat (with_reducible first | exact Below.refl _ _ | assumption | refine ba ?_ _ | refine bd ?_ | refine bdN ?_ _ | refine bs ?_ (by first | exact Nat.le_refl _ | (dsimp only; omega) | (simp; done)) _ | refine bt ?_ (by assumption))))) z1).mono ?_; (rintro _ _ ⟨rfl, hb⟩; obtain ⟨hc, hf, hs⟩ := bcell hb); rw [He.out])
        go_ret
        rw [Hv.out]
        exact ⟨rfl, by (repeat (with_reducible first | exact Below.refl _ _ | assumption | refine ba ?_ _ | refine bd ?_ | refine bdN ?_ _ | refine bs ?_ (by first | exact Nat.le_refl _ | (dsimp only; omega) | (simp; done)) _ | refine bt ?_ (by assumption)))⟩
      · have He := Lib.hid (decide_eq_false he)
        have He2 := Lib.hid he
        clear he
        go_wp2_with (go_at_call 129; refine (impl_compiledAt1 _ _ _ _ _ _ _ _ B p _ (Hq.out.below (by (repeat (with_reducible first | exact Below.refl _ _ | assumption | refine ba ?_ _ | refine bd ?_ | refine bdN ?_ _ | refine bs ?_ (by first | exact Nat.le_refl _ | (dsimp only; omega) | (simp; done)) _ | refine bt ?_ (by assumption))))) z1).mono ?_; (rintro _ _ ⟨rfl, hb⟩; obtain ⟨hc, hf, hs⟩ := bcell hb); rw [He.out])
        go_roundw
        case rel =>
          refine ⟨k + 1, by omega, by go_num, by (repeat (with_reducible first | exact Below.refl _ _ | assumption | refine ba ?_ _ | refine bd ?_ | refine bdN ?_ _ | refine bs ?_ (by first | exact Nat.le_refl _ | (dsimp only; omega) | (simp; done)) _ | refine bt ?_ (by assumption))), fun j h hj => ?_⟩
          by_cases e : j = k
          · subst e; exact Hn.out He2.out
          · exact Ha.out j h (by omega)
        case measure => simp [intOf]; omega
    · have Hv := Lib.hid (keyAt_no (key := sourceOf) cs p (fun j h => Ha.out j h (by omega)))
      go_wp2_with fail
      go_ret
      rw [Hv.out]
      exact ⟨rfl, hbel⟩
set_option maxRecDepth 100000 in
set_option maxHeartbeats 1000000 in
theorem impl_compiledAt (v : Value) (cs : List Cmp) (D : Nat → Prop) (pv : Value) (p : Pl) (w : World) (hpv : pv = plVal p) (hr : CmpsIn w D v cs) (hz : ShortCs 8000000 cs) :
    Calls Try.prog 83 #[v, pv] w fun e w' => e = .returned (.int .i64 (keyAt sourceOf cs p)) ∧ Below w.heap.size w w' := by
  obtain ⟨pr, pp, pn, pi⟩ := p
  subst hpv
  unfold plVal
  dsimp only
  have Hr := Lib.hid hr
  have Hz := Lib.hid hz
  obtain ⟨aa, ca, rfl, hl, hm⟩ := hr.len
  clear hr hl hm hz
  have hmf : ∀ (fn : Fn) (first cap : Array Value) (w : World), (Instr.makeFunc fn first cap).run Try.prog w = .ok (.func fn first cap) w := fun _ _ _ _ => rfl
  have Hx := Lib.hid (Boxed.start w #[.int .i64 pr, .string (mk pp), .string (mk pn), .bool pi] 90)
  have Hp := Lib.hid (show PlAtC (w.alloc (.cells #[.int .i64 pr, .string (mk pp), .string (mk pn), .bool pi] 90)) w.heap.size (pr, pp, pn, pi) from
    ⟨Hx.out.lt, Hx.out.cell 0, Hx.out.cell 1, Hx.out.cell 2, Hx.out.cell 3⟩)
  have Hr2 := Lib.hid (Hr.out.below Hx.out.below)
  go_enter Try.func83, Try.ntmps83
  go_wp2_with (go_at_call 122; refine (slices_IndexFuncC _ cs D w.heap.size (pr, pp, pn, pi) _ Hr2.out Hz.out Hp.out).mono ?_; (rintro _ _ ⟨rfl, hb⟩; obtain ⟨hc, hf, hs⟩ := bcell hb))
  go_ret
  exact ⟨rfl, by (repeat (with_reducible first | exact Below.refl _ _ | assumption | refine ba ?_ _ | refine bd ?_ | refine bdN ?_ _ | refine bs ?_ (by first | exact Nat.le_refl _ | (dsimp only; omega) | (simp; done)) _ | refine bt ?_ (by assumption)))⟩

/-! ### Contracts of the functions that say whether a store is valid. -/
set_option maxRecDepth 100000 in
set_option maxHeartbeats 400000 in
theorem impl_validMode (n : Int) (w : World) : Calls Try.prog 100 #[.int .i64 n] w fun e w' => e = .returned (.bool (inr n 0 2)) ∧ w = w' := by
  go_enter Try.func100, Try.ntmps100
  go_wp2_with (go_at_call 128; refine (impl_inRange _ _ _).mono ?_; rintro _ _ ⟨rfl, rfl⟩)
  go_ret
  exact ⟨rfl, rfl⟩
theorem size_eq {b : List Stm} (h : okBody b = true) : bodySize b = (sizeSum b : Int) := by unfold bodySize; rw [if_pos h]
set_option maxRecDepth 100000 in
set_option maxHeartbeats 2000000 in
theorem impl_validCompiled (x0 : Int) (x1 : Bs) (x2 : Bool) (x3 x4 x5 x6 : Int) (bv : Value) (fb : List Stm) (D : Nat → Prop) (w : World) (hr : StmsIn w D bv fb) (hz : Short 8000000 fb) (hn : x1.length ≤ 8000000) :
    Calls Try.prog 82 #[.agg #[.int .i64 x0, .string (mk x1), .bool x2, .int .i64 x3, .int .i64 x4, .int .i64 x5, .int .i64 x6, bv]] w fun e w' => e = .returned (.bool (okCmp ⟨x0, x1, x2, x3, x4, x5, x6, fb⟩)) ∧ Below w.heap.size w w' := by
  have Hr := Lib.hid hr
  have Hz := Lib.hid hz
  obtain ⟨ba, ca, rfl, hl, hm⟩ := hr.len
  clear hr hz hm
  have Hok := Lib.hid (show okCmp ⟨x0, x1, x2, x3, x4, x5, x6, fb⟩ = (inr x0 0 2 && vn x1 && inr x3 0 2 && inr x4 0 99 && okBody fb && decide (x5 = (sizeSum fb : Int)) && decide (x6 = hashOf fb)) from rfl)
  generalize okCmp ⟨x0, x1, x2, x3, x4, x5, x6, fb⟩ = ok at *
  go_enter Try.func82, Try.ntmps82
  go_wp2_with fail
  have hx := Boxed.start w #[.int .i64 x0, .string (mk x1), .bool x2, .int .i64 x3, .int .i64 x4, .int .i64 x5, .int .i64 x6, .slice ba fb.length ca] 53
  obtain ⟨W1, hW1⟩ : ∃ W1, W1 = w.alloc (.cells #[.int .i64 x0, .string (mk x1), .bool x2, .int .i64 x3, .int .i64 x4, .int .i64 x5, .int .i64 x6, .slice ba fb.length ca] 53) := ⟨_, rfl⟩
  rw [← hW1] at hx ⊢
  have hb := hx.below
  have Hb := Lib.hid hb
  have k0 := cell_regrown (show W1.cell? ⟨w.heap.size, 0, none⟩ = some (.int .i64 x0) from hx.cell 0)
  have k1 := cell_regrown (show W1.cell? ⟨w.heap.size, 1, none⟩ = some (.string (mk x1)) from hx.cell 1)
  have k2 := cell_regrown (show W1.cell? ⟨w.heap.size, 2, none⟩ = some (.bool x2) from hx.cell 2)
  have k3 := cell_regrown (show W1.cell? ⟨w.heap.size, 3, none⟩ = some (.int .i64 x3) from hx.cell 3)
  have k4 := cell_regrown (show W1.cell? ⟨w.heap.size, 4, none⟩ = some (.int .i64 x4) from hx.cell 4)
  have k5 := cell_regrown (show W1.cell? ⟨w.heap.size, 5, none⟩ = some (.int .i64 x5) from hx.cell 5)
  have k6 := cell_regrown (show W1.cell? ⟨w.heap.size, 6, none⟩ = some (.int .i64 x6) from hx.cell 6)
  have k7 := cell_regrown (show W1.cell? ⟨w.heap.size, 7, none⟩ = some (.slice ba fb.length ca) from hx.cell 7)
  clear hx hb hW1
  have cR1 : ∀ d os, Calls Try.prog 128 #[.int .i64 x0, .int .i64 2] (grow (redrawn W1 d) os) fun e w'' => e = .returned (.bool (inr x0 0 2)) ∧ ∃ p : Regrown, w'' = grow (redrawn W1 p.d) p.os := fun d os =>
    Calls.regrown_of (still_belowC (impl_inRange x0 2 _))
  have cR4 : ∀ d os, Calls Try.prog 128 #[.int .i64 x4, .int .i64 99] (grow (redrawn W1 d) os) fun e w'' => e = .returned (.bool (inr x4 0 99)) ∧ ∃ p : Regrown, w'' = grow (redrawn W1 p.d) p.os := fun d os =>
    Calls.regrown_of (still_belowC (impl_inRange x4 99 _))
  have cM : ∀ d os, Calls Try.prog 100 #[.int .i64 x3] (grow (redrawn W1 d) os) fun e w'' => e = .returned (.bool (inr x3 0 2)) ∧ ∃ p : Regrown, w'' = grow (redrawn W1 p.d) p.os := fun d os =>
    Calls.regrown_of (still_belowC (impl_validMode x3 _))
  have cV : ∀ d os, Calls Try.prog 126 #[.string (mk x1)] (grow (redrawn W1 d) os) fun e w'' => e = .returned (.bool (vn x1)) ∧ ∃ p : Regrown, w'' = grow (redrawn W1 p.d) p.os := fun d os =>
    Calls.regrown_of (impl_ValidName x1 _ hn)
  have cB : ∀ d os, Calls Try.prog 97 #[.slice ba fb.length ca] (grow (redrawn W1 d) os) fun e w'' => e = .returned (.bool (okBody fb)) ∧ ∃ p : Regrown, w'' = grow (redrawn W1 p.d) p.os := fun d os =>
    Calls.regrown_of (impl_ValidBody _ fb D _ (Hr.out.below (bt Hb.out (below_regrown W1 d os))) Hz.out)
  have cS : ∀ d os, Calls Try.prog 38 #[.slice ba fb.length ca] (grow (redrawn W1 d) os) fun e w'' => e = .returned (.int .i64 (bodySize fb)) ∧ ∃ p : Regrown, w'' = grow (redrawn W1 p.d) p.os := fun d os =>
    Calls.regrown_of (impl_SizeOf _ fb D _ (Hr.out.below (bt Hb.out (below_regrown W1 d os))) Hz.out)
  have cH : ∀ d os, Calls Try.prog 37 #[.slice ba fb.length ca] (grow (redrawn W1 d) os) fun e w'' => e = .returned (.int .i64 (hashOf fb)) ∧ ∃ p : Regrown, w'' = grow (redrawn W1 p.d) p.os := fun d os =>
    Calls.regrown_of (impl_HashOf _ fb D _ (Hr.out.below (bt Hb.out (below_regrown W1 d os))) Hz.out)
  obtain ⟨b1, e1⟩ : ∃ x, inr x0 0 2 = x := ⟨_, rfl⟩
  obtain ⟨b2, e2⟩ : ∃ x, vn x1 = x := ⟨_, rfl⟩
  obtain ⟨b3, e3⟩ : ∃ x, inr x3 0 2 = x := ⟨_, rfl⟩
  obtain ⟨b4, e4⟩ : ∃ x, inr x4 0 99 = x := ⟨_, rfl⟩
  obtain ⟨b5, e5⟩ : ∃ x, okBody fb = x := ⟨_, rfl⟩
  rw [e1, e2, e3, e4, e5] at Hok
  rw [e1] at cR1
  rw [e4] at cR4
  rw [e2] at cV
  rw [e3] at cM
  rw [e5] at cB
  have hc : (ok = false ∧ (b1 = false ∨ (b1 = true ∧ b2 = false) ∨ (b1 = true ∧ b2 = true ∧ b3 = false) ∨ (b1 = true ∧ b2 = true ∧ b3 = true ∧ b4 = false) ∨ (b1 = true ∧ b2 = true ∧ b3 = true ∧ b4 = true ∧ b5 = false) ∨
      (b1 = true ∧ b2 = true ∧ b3 = true ∧ b4 = true ∧ b5 = true ∧ ¬ x5 = bodySize fb) ∨ (b1 = true ∧ b2 = true ∧ b3 = true ∧ b4 = true ∧ b5 = true ∧ x5 = bodySize fb ∧ ¬ x6 = hashOf fb))) ∨
      (ok = true ∧ b1 = true ∧ b2 = true ∧ b3 = true ∧ b4 = true ∧ b5 = true ∧ x5 = bodySize fb ∧ x6 = hashOf fb) := by
    have ho := Hok.out
    cases b1
    · exact .inl ⟨ho, .inl rfl⟩
    cases b2
    · exact .inl ⟨ho, .inr (.inl ⟨rfl, rfl⟩)⟩
    cases b3
    · exact .inl ⟨ho, .inr (.inr (.inl ⟨rfl, rfl, rfl⟩))⟩
    cases b4
    · exact .inl ⟨ho, .inr (.inr (.inr (.inl ⟨rfl, rfl, rfl, rfl⟩)))⟩
    cases b5
    · exact .inl ⟨ho, .inr (.inr (.inr (.inr (.inl ⟨rfl, rfl, rfl, rfl, rfl⟩))))⟩
    rw [← size_eq e5] at ho
    by_cases h6 : x5 = bodySize fb
    · by_cases h7 : x6 = hashOf fb
      · exact .inr ⟨by rw [ho]; simp [h6, h7], rfl, rfl, rfl, rfl, rfl, h6, h7⟩
      · exact .inl ⟨by rw [ho]; simp [h7], .inr (.inr (.inr (.inr (.inr (.inr ⟨rfl, rfl, rfl, rfl, rfl, h6, h7⟩)))))⟩
    · exact .inl ⟨by rw [ho]; simp [h6], .inr (.inr (.inr (.inr (.inr (.inl ⟨rfl, rfl, rfl, rfl, rfl, h6⟩)))))⟩
  clear Hok
  rcases hc with ⟨rfl, hc⟩ | ⟨rfl, rfl, rfl, rfl, rfl, rfl, h6, h7⟩
  · rcases hc with rfl | ⟨rfl, rfl⟩ | ⟨rfl, rfl, rfl⟩ | ⟨rfl, rfl, rfl, rfl⟩ | ⟨rfl, rfl, rfl, rfl, rfl⟩ | ⟨rfl, rfl, rfl, rfl, rfl, h6⟩ | ⟨rfl, rfl, rfl, rfl, rfl, h6, h7⟩
    all_goals
      try have h6b := eq_false h6
      try have h7b := eq_false h7
      try have h6c : (x5 == bodySize fb) = false := by simp [h6]
      try have h7c : (x6 == hashOf fb) = false := by simp [h7]
      refine wp_region_quiet_below (by kernel_rfl) (by kernel_rfl) ?_
      repeat (go_big_quiet_step (first | with_reducible exact cR1 _ _ | with_reducible exact cR4 _ _ | exact cV _ _ | exact cM _ _ | exact cB _ _ | exact cS _ _ | exact cH _ _))
      refine wpQuiet_nil ?_
      intro _ hw'
      obtain ⟨⟨dq, osq⟩, hw2⟩ := hw'
      subst hw2
      have Hb7 := Lib.hid (bt Hb.out (below_regrown W1 dq osq))
      clear cR1 cR4 cV cM cB cS cH k0 k1 k2 k3 k4 k5 k6 k7
      go_wp2_with fail
      go_ret
      exact ⟨rfl, Hb7.out⟩
  · refine wp_region_quiet_below (by kernel_rfl) (by kernel_rfl) ?_
    repeat (go_big_quiet_step (first | with_reducible exact cR1 _ _ | with_reducible exact cR4 _ _ | exact cV _ _ | exact cM _ _ | exact cB _ _ | exact cS _ _ | exact cH _ _))
    refine wpQuiet_nil ?_
    intro _ hw'
    obtain ⟨⟨dq, osq⟩, hw2⟩ := hw'
    subst hw2
    have Hb7 := Lib.hid (bt Hb.out (below_regrown W1 dq osq))
    clear cR1 cR4 cV cM cB cS cH k0 k1 k2 k3 k4 k5 k6 k7
    go_wp2_with fail
    go_ret
    exact ⟨rfl, Hb7.out⟩
theorem sourceOf_at {l : List Cmp} {c : Cmp} (hl : ∀ x ∈ l, vn x.module = true) (hc : vn c.module = true) : keyAt sourceOf l (sourceOf c) = keyAt cplace l (cplace c) :=
  keyAt_map (key := cplace) (f := srcPlace) (fun x hx => srcPlace_iff (hl x hx) hc)
set_option maxRecDepth 100000 in
set_option maxHeartbeats 2000000 in
theorem impl_ValidStore (v : Value) (cs : List Cmp) (D : Nat → Prop) (w : World) (hr : CmpsIn w D v cs) (hz : ShortCs 2000000 cs) :
    Calls Try.prog 31 #[v] w fun e w' => e = .returned (.bool (okStore cs)) ∧ Below w.heap.size w w' := by
  have Hr := Lib.hid hr
  have Hz := Lib.hid (shortCs_mono (B := 8000000) (by omega) hz)
  obtain ⟨aa, ca, rfl, hl, hm⟩ := hr.len
  unfold maxLen at hm
  clear hr hz
  by_cases h12 : (12 : Int) < (cs.length : Int)
  · have Hv := Lib.hid (okStore_long (show 12 < cs.length by omega))
    go_enter Try.func31, Try.ntmps31
    go_wp2_with fail
    go_ret
    rw [Hv.out]
    exact ⟨rfl, by (repeat (with_reducible first | exact Below.refl _ _ | assumption | refine ba ?_ _ | refine bd ?_ | refine bdN ?_ _ | refine bs ?_ (by first | exact Nat.le_refl _ | (dsimp only; omega) | (simp; done)) _ | refine bt ?_ (by assumption)))⟩
  · go_enter Try.func31, Try.ntmps31
    go_wp2_with fail
    go_loopw [10] (fun iv wr => ∃ k : Nat, k ≤ cs.length ∧ iv = .int .i64 k ∧ Below w.heap.size w wr ∧ (∀ i (h : i < cs.length), i < k → okCmp cs[i] = true) ∧ ∀ i (h : i < cs.length), i < k → keyAt cplace (cs.take i) (cplace cs[i]) = -1) (fun iv _ => cs.length - (intOf iv).toNat)
    case atStart => exact ⟨0, by omega, rfl, Below.refl _ _, fun i _ h => absurd h (by omega), fun i _ h => absurd h (by omega)⟩
    case round =>
      obtain ⟨k, hk, rfl, hbel, ha, hd⟩ := hrel
      have Ha := Lib.hid ha
      have Hd := Lib.hid hd
      clear ha hd
      by_cases hlt : k < cs.length
      · have Htk := Lib.hid ((Hr.out.below hbel).take k hk)
        have Hzt := Lib.hid (show ShortCs 8000000 (cs.take k) from fun c hc => Hz.out c (List.mem_of_mem_take hc))
        obtain ⟨b, off, cap, bv, e, hD, hb, hbody, c0, c1, c2, c3, c4, c5, c6, c7⟩ := (Hr.out.below hbel).at_ hlt
        simp only [Value.slice.injEq] at e
        obtain ⟨rfl, _, rfl⟩ := e
        obtain ⟨ba, bc, rfl, hbl, hbm⟩ := hbody.len
        obtain ⟨z1, z3⟩ := Hz.out _ (List.getElem_mem hlt)
        have Hbody := Lib.hid hbody
        have Hz3 := Lib.hid z3
        have Hn := Lib.hid (okStore_no k hlt)
        have Hu := Lib.hid (keys_dup' (key := cplace) k hlt)
        have Hvn := Lib.hid (show ∀ x ∈ cs.take k, vn x.module = true from fun x hx => by
          obtain ⟨i, hi, rfl⟩ := List.getElem_of_mem hx
          rw [List.length_take] at hi
          rw [List.getElem_take]
          exact okCmp_vn (Ha.out i (by omega) (by omega)))
        obtain ⟨f, hf⟩ : ∃ f, f = cs[k] := ⟨_, rfl⟩
        rw [← hf] at c0 c1 c2 c3 c4 c5 c6 c7 z1 Hz3 Hbody Hn Hu
        have Hf := Lib.hid hf
        have Hbe := Lib.hid hbel
        clear hf hbody z3 hbm hbl
        obtain ⟨x0, x1, x2, x3, x4, x5, x6, fb⟩ := f
        dsimp only at c0 c1 c2 c3 c4 c5 c6 c7 z1
        go_wp2_with fail
        have hx := Boxed.start wr #[.int .i64 x0, .string (mk x1), .bool x2, .int .i64 x3, .int .i64 x4, .int .i64 x5, .int .i64 x6, .slice ba fb.length bc] 53
        obtain ⟨W1, hW1⟩ : ∃ W1, W1 = wr.alloc (.cells #[.int .i64 x0, .string (mk x1), .bool x2, .int .i64 x3, .int .i64 x4, .int .i64 x5, .int .i64 x6, .slice ba fb.length bc] 53) := ⟨_, rfl⟩
        rw [← hW1] at hx ⊢
        have hb1 := hx.below
        have Hb1 := Lib.hid hb1
        have k0 := cell_regrown (show W1.cell? ⟨wr.heap.size, 0, none⟩ = some (.int .i64 x0) from hx.cell 0)
        have k1 := cell_regrown (show W1.cell? ⟨wr.heap.size, 1, none⟩ = some (.string (mk x1)) from hx.cell 1)
        have k2 := cell_regrown (show W1.cell? ⟨wr.heap.size, 2, none⟩ = some (.bool x2) from hx.cell 2)
        have k3 := cell_regrown (show W1.cell? ⟨wr.heap.size, 3, none⟩ = some (.int .i64 x3) from hx.cell 3)
        have k4 := cell_regrown (show W1.cell? ⟨wr.heap.size, 4, none⟩ = some (.int .i64 x4) from hx.cell 4)
        have k5 := cell_regrown (show W1.cell? ⟨wr.heap.size, 5, none⟩ = some (.int .i64 x5) from hx.cell 5)
        have k6 := cell_regrown (show W1.cell? ⟨wr.heap.size, 6, none⟩ = some (.int .i64 x6) from hx.cell 6)
        have k7 := cell_regrown (show W1.cell? ⟨wr.heap.size, 7, none⟩ = some (.slice ba fb.length bc) from hx.cell 7)
        clear hx hb1 hW1 c0 c1 c2 c3 c4 c5 c6 c7
        have cV : ∀ d os, Calls Try.prog 82 #[.agg #[.int .i64 x0, .string (mk x1), .bool x2, .int .i64 x3, .int .i64 x4, .int .i64 x5, .int .i64 x6, .slice ba fb.length bc]] (grow (redrawn W1 d) os) fun e w'' => e = .returned (.bool (okCmp ⟨x0, x1, x2, x3, x4, x5, x6, fb⟩)) ∧ ∃ p : Regrown, w'' = grow (redrawn W1 p.d) p.os := fun d os =>
          Calls.regrown_of (impl_validCompiled _ _ _ _ _ _ _ _ fb D _ (Hbody.out.below (bt Hb1.out (below_regrown W1 d os))) Hz3.out z1)
        have cP : ∀ d os, Calls Try.prog 68 #[.agg #[.int .i64 x0, .string (mk x1), .bool x2, .int .i64 x3, .int .i64 x4, .int .i64 x5, .int .i64 x6, .slice ba fb.length bc]] (grow (redrawn W1 d) os) fun e w'' => e = .returned (plVal (srcPlace (x0, x1, x2))) ∧ ∃ p : Regrown, w'' = grow (redrawn W1 p.d) p.os := fun d os =>
          Calls.regrown_of (impl_placeOfSource _ _ _ _ _ _ _ _ _ z1)
        have cA : ∀ d os, Calls Try.prog 83 #[.slice (some ⟨b, off, none⟩) k ca, plVal (srcPlace (x0, x1, x2))] (grow (redrawn W1 d) os) fun e w'' => e = .returned (.int .i64 (keyAt sourceOf (cs.take k) (srcPlace (x0, x1, x2)))) ∧ ∃ p : Regrown, w'' = grow (redrawn W1 p.d) p.os := fun d os =>
          Calls.regrown_of (impl_compiledAt _ (cs.take k) D _ _ _ rfl (Htk.out.below (bt Hb1.out (below_regrown W1 d os))) Hzt.out)
        have Hsrc := Lib.hid (fun (h : vn x1 = true) => (show keyAt sourceOf (cs.take k) (srcPlace (x0, x1, x2)) = keyAt cplace (cs.take k) (cplace ⟨x0, x1, x2, x3, x4, x5, x6, fb⟩) from sourceOf_at (c := ⟨x0, x1, x2, x3, x4, x5, x6, fb⟩) Hvn.out h))
        have hk1 : (k : Int) < (cs.length : Int) := by omega
        have hk0 : (0 : Int) ≤ (k : Int) := by omega
        generalize keyAt sourceOf (cs.take k) (srcPlace (x0, x1, x2)) = n0 at *
        cases hok : okCmp ⟨x0, x1, x2, x3, x4, x5, x6, fb⟩
        · have Hv := Lib.hid (Hn.out hok)
          rw [hok] at cV
          clear hok
          refine wp_region_quiet_below (by kernel_rfl) (by kernel_rfl) ?_
          repeat (go_big_quiet_step (first | exact cV _ _ | exact cP _ _ | exact cA _ _))
          refine wpQuiet_nil ?_
          intro _ hw'
          obtain ⟨⟨dq, osq⟩, hw2⟩ := hw'
          subst hw2
          have Hb7 := Lib.hid (bt (bt Hbe.out Hb1.out) (below_regrown W1 dq osq))
          clear cV cP cA k0 k1 k2 k3 k4 k5 k6 k7
          go_wp2_with fail
          go_ret
          rw [Hv.out]
          exact ⟨rfl, Hb7.out⟩
        · have Hok := Lib.hid hok
          have Hs := Lib.hid (Hsrc.out (okCmp_vn hok))
          rw [hok] at cV
          clear hok
          by_cases hn : n0 = -1
          · subst hn
            refine wp_region_quiet_below (by kernel_rfl) (by kernel_rfl) ?_
            repeat (go_big_quiet_step (first | exact cV _ _ | exact cP _ _ | exact cA _ _))
            refine wpQuiet_nil ?_
            intro _ hw'
            obtain ⟨⟨dq, osq⟩, hw2⟩ := hw'
            subst hw2
            have Hb7 := Lib.hid (bt (bt Hbe.out Hb1.out) (below_regrown W1 dq osq))
            clear cV cP cA k0 k1 k2 k3 k4 k5 k6 k7
            go_wp2_with fail
            go_roundw
            case rel =>
              refine ⟨k + 1, by omega, by go_num, Hb7.out, fun i h1 hi => ?_, fun i h1 hi => ?_⟩
              · by_cases e : i = k
                · subst e; rw [← Hf.out]; exact Hok.out
                · exact Ha.out i h1 (by omega)
              · by_cases e : i = k
                · subst e; rw [← Hf.out]; exact Hs.out.symm
                · exact Hd.out i h1 (by omega)
            case measure => simp [intOf]; omega
          · have hnb : (n0 == -1) = false := by rw [beq_eq_false_iff_ne]; exact hn
            have hnc := eq_false hn
            have Hv := Lib.hid (okStore_dup (Hu.out (by rw [← Hs.out]; exact hn)))
            refine wp_region_quiet_below (by kernel_rfl) (by kernel_rfl) ?_
            repeat (go_big_quiet_step (first | exact cV _ _ | exact cP _ _ | exact cA _ _))
            refine wpQuiet_nil ?_
            intro _ hw'
            obtain ⟨⟨dq, osq⟩, hw2⟩ := hw'
            subst hw2
            have Hb7 := Lib.hid (bt (bt Hbe.out Hb1.out) (below_regrown W1 dq osq))
            clear cV cP cA k0 k1 k2 k3 k4 k5 k6 k7
            go_wp2_with fail
            go_ret
            rw [Hv.out]
            exact ⟨rfl, Hb7.out⟩
      · have hv := Lib.hid (okStore_all (fun i h => Ha.out i h (by omega)) (keys_nodup' (fun i h => Hd.out i h (by omega))))
        have hlen : cs.length ≤ 12 := by omega
        have Hlen := Lib.hid (decide_eq_true hlen)
        go_wp2_with fail
        go_ret
        rw [hv.out, Hlen.out]
        exact ⟨rfl, hbel⟩

/-! ### Contracts of the model's functions that say whether a store is valid. -/
set_option maxRecDepth 100000 in
set_option maxHeartbeats 1000000 in
theorem spec_compiledAt (a : Option Addr) (n cap : Nat) (cs : List Cmp) (D : Nat → Prop) (r : Int) (p : Bs) (i : Bool) (w : World) (hr : CmpsIn w D (.slice a n cap) cs) :
    Calls Try.prog 109 #[.slice a n cap, .int .i64 r, .string (mk p), .bool i] w fun e w' => e = .returned (.int .i64 (keyAt cplace cs (r, p, i))) ∧ Below w.heap.size w w' := by
  have Hr := Lib.hid hr
  obtain ⟨aa, ca, e, hl, hm⟩ := hr.len
  simp only [Value.slice.injEq] at e
  obtain ⟨rfl, rfl, rfl⟩ := e
  unfold maxLen at hm
  clear hr
  go_enter Try.func109, Try.ntmps109
  go_wp2_with fail
  go_loopw [9] (fun iv wr => ∃ k : Nat, k ≤ cs.length ∧ iv = .int .i64 k ∧ Below w.heap.size w wr ∧ ∀ j (h : j < cs.length), j < k → cplace cs[j] ≠ (r, p, i)) (fun iv _ => cs.length - (intOf iv).toNat)
  case atStart => exact ⟨0, by omega, rfl, Below.refl _ _, fun i _ h => absurd h (by omega)⟩
  case round =>
    obtain ⟨k, hk, rfl, hbel, ha⟩ := hrel
    have Ha := Lib.hid ha
    clear ha
    by_cases hlt : k < cs.length
    · obtain ⟨b, off, cap, bv, e, hD, hb, hbody, c0, c1, c2, c3, c4, c5, c6, c7⟩ := (Hr.out.below hbel).at_ hlt
      simp only [Value.slice.injEq] at e
      obtain ⟨rfl, _, rfl⟩ := e
      clear hbody
      have Hy := Lib.hid (keyAt_yes (key := cplace) cs k hlt (r, p, i) (fun j h1 h2 => Ha.out j h1 h2))
      obtain ⟨f, hf⟩ : ∃ f, f = cs[k] := ⟨_, rfl⟩
      rw [← hf] at c0 c1 c2 Hy
      have Hn := Lib.hid (fun (h : cplace f ≠ (r, p, i)) => (show cplace cs[k] ≠ (r, p, i) by rw [← hf]; exact h))
      clear hf c3 c4 c5 c6 c7
      obtain ⟨x0, x1, x2, x3, x4, x5, x6, fb⟩ := f
      dsimp only at c0 c1 c2
      go_wp2_with fail
      all_goals first
        | (go_ret
           refine ⟨ret_i64 ?_, by (repeat (with_reducible first | exact Below.refl _ _ | assumption | refine ba ?_ _ | refine bd ?_ | refine bdN ?_ _ | refine bs ?_ (by first | exact Nat.le_refl _ | (dsimp only; omega) | (simp; done)) _ | refine bt ?_ (by assumption)))⟩
           exact (show keyAt cplace cs (r, p, i) = (k : Int) from Hy.out (by simp_all [cplace])).symm)
        | (go_roundw
           case rel =>
             refine ⟨k + 1, by omega, by go_num, by (repeat (with_reducible first | exact Below.refl _ _ | assumption | refine ba ?_ _ | refine bd ?_ | refine bdN ?_ _ | refine bs ?_ (by first | exact Nat.le_refl _ | (dsimp only; omega) | (simp; done)) _ | refine bt ?_ (by assumption))), fun i h1 hi => ?_⟩
             by_cases e : i = k
             · subst e; exact Hn.out (by simp_all [cplace])
             · exact Ha.out i h1 (by omega)
           case measure => simp [intOf]; omega)
    · have hv := Lib.hid (keyAt_no (key := cplace) cs (r, p, i) (fun j h => Ha.out j h (by omega)))
      go_wp2_with fail
      go_ret
      rw [hv.out]
      exact ⟨rfl, hbel⟩
set_option maxRecDepth 100000 in
set_option maxHeartbeats 3000000 in
theorem spec_validStore (v : Value) (cs : List Cmp) (D : Nat → Prop) (w : World) (hr : CmpsIn w D v cs) (hz : ShortCs 2000000 cs) :
    Calls Try.prog 58 #[v] w fun e w' => e = .returned (.bool (okStore cs)) ∧ Below w.heap.size w w' := by
  have Hr := Lib.hid hr
  have Hz := Lib.hid (shortCs_mono (B := 8000000) (by omega) hz)
  obtain ⟨aa, ca, rfl, hl, hm⟩ := hr.len
  unfold maxLen at hm
  clear hr hz
  go_enter Try.func58, Try.ntmps58
  go_wp2_with fail
  go_loopw [3] (fun iv wr => ∃ k : Nat, k ≤ cs.length ∧ iv = .int .i64 k ∧ Below w.heap.size w wr ∧ (∀ i (h : i < cs.length), i < k → okCmp cs[i] = true) ∧ ∀ i (h : i < cs.length), i < k → (i : Int) ≤ keyAt cplace cs (cplace cs[i])) (fun iv _ => cs.length - (intOf iv).toNat)
  case atStart => exact ⟨0, by omega, rfl, Below.refl _ _, fun i _ h => absurd h (by omega), fun i _ h => absurd h (by omega)⟩
  case round =>
    obtain ⟨k, hk, rfl, hbel, ha, hd⟩ := hrel
    have Ha := Lib.hid ha
    have Hd := Lib.hid hd
    clear ha hd
    by_cases hlt : k < cs.length
    · obtain ⟨b, off, cap, bv, e, hD, hb, hbody, c0, c1, c2, c3, c4, c5, c6, c7⟩ := (Hr.out.below hbel).at_ hlt
      simp only [Value.slice.injEq] at e
      obtain ⟨rfl, _, rfl⟩ := e
      obtain ⟨ba, bc, rfl, hbl, hbm⟩ := hbody.len
      obtain ⟨z1, z3⟩ := Hz.out _ (List.getElem_mem hlt)
      have Hbody := Lib.hid hbody
      have Hz3 := Lib.hid z3
      have Hn := Lib.hid (okStore_no k hlt)
      have Hu := Lib.hid (keys_dup (key := cplace) k hlt)
      obtain ⟨f, hf⟩ : ∃ f, f = cs[k] := ⟨_, rfl⟩
      rw [← hf] at c0 c1 c2 c3 c4 c5 c6 c7 z1 Hz3 Hbody Hn Hu
      have Hf := Lib.hid hf
      have Hbe := Lib.hid hbel
      clear hf hbody z3 hbm hbl
      obtain ⟨x0, x1, x2, x3, x4, x5, x6, fb⟩ := f
      dsimp only at c0 c1 c2 c3 c4 c5 c6 c7 z1
      go_wp2_with fail
      have hx := Boxed.start wr #[.int .i64 x0, .string (mk x1), .bool x2, .int .i64 x3, .int .i64 x4, .int .i64 x5, .int .i64 x6, .slice ba fb.length bc] 53
      obtain ⟨W1, hW1⟩ : ∃ W1, W1 = wr.alloc (.cells #[.int .i64 x0, .string (mk x1), .bool x2, .int .i64 x3, .int .i64 x4, .int .i64 x5, .int .i64 x6, .slice ba fb.length bc] 53) := ⟨_, rfl⟩
      rw [← hW1] at hx ⊢
      have hb1 := hx.below
      have Hb1 := Lib.hid hb1
      have k0 := cell_regrown (show W1.cell? ⟨wr.heap.size, 0, none⟩ = some (.int .i64 x0) from hx.cell 0)
      have k1 := cell_regrown (show W1.cell? ⟨wr.heap.size, 1, none⟩ = some (.string (mk x1)) from hx.cell 1)
      have k2 := cell_regrown (show W1.cell? ⟨wr.heap.size, 2, none⟩ = some (.bool x2) from hx.cell 2)
      have k3 := cell_regrown (show W1.cell? ⟨wr.heap.size, 3, none⟩ = some (.int .i64 x3) from hx.cell 3)
      have k4 := cell_regrown (show W1.cell? ⟨wr.heap.size, 4, none⟩ = some (.int .i64 x4) from hx.cell 4)
      have k5 := cell_regrown (show W1.cell? ⟨wr.heap.size, 5, none⟩ = some (.int .i64 x5) from hx.cell 5)
      have k6 := cell_regrown (show W1.cell? ⟨wr.heap.size, 6, none⟩ = some (.int .i64 x6) from hx.cell 6)
      have k7 := cell_regrown (show W1.cell? ⟨wr.heap.size, 7, none⟩ = some (.slice ba fb.length bc) from hx.cell 7)
      clear hx hb1 hW1 c0 c1 c2 c3 c4 c5 c6 c7
      have cR : ∀ d os (x lo hi : Int), Calls Try.prog 104 #[.int .i64 x, .int .i64 lo, .int .i64 hi] (grow (redrawn W1 d) os) fun e w'' => e = .returned (.bool (inr x lo hi)) ∧ ∃ p : Regrown, w'' = grow (redrawn W1 p.d) p.os := fun d os x lo hi =>
        Calls.regrown_of (still_belowC (spec_inRange' x lo hi _))
      have cV : ∀ d os, Calls Try.prog 114 #[.string (mk x1)] (grow (redrawn W1 d) os) fun e w'' => e = .returned (.bool (vn x1)) ∧ ∃ p : Regrown, w'' = grow (redrawn W1 p.d) p.os := fun d os =>
        Calls.regrown_of (spec_validName x1 _ z1)
      have cB : ∀ d os, Calls Try.prog 115 #[.slice ba fb.length bc] (grow (redrawn W1 d) os) fun e w'' => e = .returned (.bool (okBody fb)) ∧ ∃ p : Regrown, w'' = grow (redrawn W1 p.d) p.os := fun d os =>
        Calls.regrown_of (spec_validBody _ fb D _ (Hbody.out.below (bt Hb1.out (below_regrown W1 d os))) Hz3.out)
      have cA : ∀ d os, Calls Try.prog 109 #[.slice (some ⟨b, off, none⟩) cs.length ca, .int .i64 x0, .string (mk x1), .bool x2] (grow (redrawn W1 d) os) fun e w'' => e = .returned (.int .i64 (keyAt cplace cs (x0, x1, x2))) ∧ ∃ p : Regrown, w'' = grow (redrawn W1 p.d) p.os := fun d os =>
        Calls.regrown_of (spec_compiledAt _ cs.length ca cs D x0 x1 x2 _ (Hr.out.below (bt (bt Hbe.out Hb1.out) (below_regrown W1 d os))))
      have Hq := Lib.hid (show keyAt cplace cs (x0, x1, x2) = keyAt cplace cs (cplace ⟨x0, x1, x2, x3, x4, x5, x6, fb⟩) from rfl)
      have hk1 : (k : Int) < (cs.length : Int) := by omega
      have hk0 : (0 : Int) ≤ (k : Int) := by omega
      generalize keyAt cplace cs (x0, x1, x2) = n0 at *
      have Hok := Lib.hid (show okCmp ⟨x0, x1, x2, x3, x4, x5, x6, fb⟩ = (inr x0 0 2 && vn x1 && inr x3 0 2 && inr x4 0 99 && okBody fb && decide (x5 = (sizeSum fb : Int)) && decide (x6 = hashOf fb)) from rfl)
      obtain ⟨b1, e1⟩ : ∃ x, inr x0 0 2 = x := ⟨_, rfl⟩
      obtain ⟨b2, e2⟩ : ∃ x, vn x1 = x := ⟨_, rfl⟩
      obtain ⟨b3, e3⟩ : ∃ x, inr x3 0 2 = x := ⟨_, rfl⟩
      obtain ⟨b4, e4⟩ : ∃ x, inr x4 0 99 = x := ⟨_, rfl⟩
      obtain ⟨b5, e5⟩ : ∃ x, okBody fb = x := ⟨_, rfl⟩
      rw [e1, e2, e3, e4, e5] at Hok
      have hc : (okStore cs = false ∧ (b1 = false ∨ (b1 = true ∧ b2 = false) ∨ (b1 = true ∧ b2 = true ∧ b3 = false) ∨ (b1 = true ∧ b2 = true ∧ b3 = true ∧ b4 = false) ∨ (b1 = true ∧ b2 = true ∧ b3 = true ∧ b4 = true ∧ b5 = false))) ∨
          (b1 = true ∧ b2 = true ∧ b3 = true ∧ b4 = true ∧ b5 = true) := by
        have ho := Hok.out
        cases b1
        · exact .inl ⟨Hn.out ho, .inl rfl⟩
        cases b2
        · exact .inl ⟨Hn.out ho, .inr (.inl ⟨rfl, rfl⟩)⟩
        cases b3
        · exact .inl ⟨Hn.out ho, .inr (.inr (.inl ⟨rfl, rfl, rfl⟩))⟩
        cases b4
        · exact .inl ⟨Hn.out ho, .inr (.inr (.inr (.inl ⟨rfl, rfl, rfl, rfl⟩)))⟩
        cases b5
        · exact .inl ⟨Hn.out ho, .inr (.inr (.inr (.inr ⟨rfl, rfl, rfl, rfl, rfl⟩)))⟩
        exact .inr ⟨rfl, rfl, rfl, rfl, rfl⟩
      rcases hc with ⟨hv, hc⟩ | ⟨rfl, rfl, rfl, rfl, rfl⟩
      · have Hv := Lib.hid hv
        have cS : True := trivial
        have cH : True := trivial
        clear hv Hok
        rcases hc with rfl | ⟨rfl, rfl⟩ | ⟨rfl, rfl, rfl⟩ | ⟨rfl, rfl, rfl, rfl⟩ | ⟨rfl, rfl, rfl, rfl, rfl⟩
        all_goals
          refine wp_region_quiet_below (by kernel_rfl) (by kernel_rfl) ?_
          repeat (go_big_quiet_step (first | exact cR _ _ _ _ _ | exact cV _ _ | exact cB _ _ | exact cA _ _))
          refine wpQuiet_nil ?_
          intro _ hw'
          obtain ⟨⟨dq, osq⟩, hw2⟩ := hw'
          subst hw2
          have Hb7 := Lib.hid (bt (bt Hbe.out Hb1.out) (below_regrown W1 dq osq))
          clear cR cV cB cA k0 k1 k2 k3 k4 k5 k6 k7
          go_wp2_with fail
          go_ret
          rw [Hv.out]
          exact ⟨rfl, Hb7.out⟩
      · have cS : ∀ d os, Calls Try.prog 116 #[.slice ba fb.length bc] (grow (redrawn W1 d) os) fun e w'' => e = .returned (.int .i64 (sizeSum fb : Nat)) ∧ ∃ p : Regrown, w'' = grow (redrawn W1 p.d) p.os := fun d os =>
          Calls.regrown_of (spec_sizeOf _ fb D _ (Hbody.out.below (bt Hb1.out (below_regrown W1 d os))) Hz3.out e5)
        have cH : ∀ d os, Calls Try.prog 117 #[.slice ba fb.length bc] (grow (redrawn W1 d) os) fun e w'' => e = .returned (.int .i64 (hashOf fb)) ∧ ∃ p : Regrown, w'' = grow (redrawn W1 p.d) p.os := fun d os =>
          Calls.regrown_of (spec_hashOf _ fb D _ (Hbody.out.below (bt Hb1.out (below_regrown W1 d os))) Hz3.out e5)
        generalize ((sizeSum fb : Nat) : Int) = sz at *
        generalize hashOf fb = hs at *
        by_cases hgood : x5 = sz ∧ x6 = hs ∧ ¬ n0 < (k : Int)
        · obtain ⟨h6, h7, h8⟩ := hgood
          have Hok2 := Lib.hid (show okCmp ⟨x0, x1, x2, x3, x4, x5, x6, fb⟩ = true by rw [Hok.out]; simp [h6, h7])
          have H8 := Lib.hid (show (k : Int) ≤ n0 by omega)
          have h8b := eq_false h8
          clear Hok h8
          refine wp_region_quiet_below (by kernel_rfl) (by kernel_rfl) ?_
          repeat (go_big_quiet_step (first | exact cR _ _ _ _ _ | exact cV _ _ | exact cB _ _ | exact cS _ _ | exact cH _ _ | exact cA _ _))
          refine wpQuiet_nil ?_
          intro _ hw'
          obtain ⟨⟨dq, osq⟩, hw2⟩ := hw'
          subst hw2
          have Hb7 := Lib.hid (bt (bt Hbe.out Hb1.out) (below_regrown W1 dq osq))
          clear cR cV cB cA cS cH k0 k1 k2 k3 k4 k5 k6 k7
          go_wp2_with fail
          go_roundw
          case rel =>
            refine ⟨k + 1, by omega, by go_num, Hb7.out, fun i h1 hi => ?_, fun i h1 hi => ?_⟩
            · by_cases e : i = k
              · subst e; rw [← Hf.out]; exact Hok2.out
              · exact Ha.out i h1 (by omega)
            · by_cases e : i = k
              · subst e; rw [← Hf.out, ← Hq.out]; exact H8.out
              · exact Hd.out i h1 (by omega)
          case measure => simp [intOf]; omega
        · have Hv := Lib.hid (show okStore cs = false by
            by_cases h8 : n0 < (k : Int)
            · exact okStore_dup (Hu.out (by rw [← Hq.out]; exact h8))
            · refine Hn.out ?_
              rw [Hok.out]
              by_cases h6 : x5 = sz
              · by_cases h7 : x6 = hs
                · exact absurd ⟨h6, h7, h8⟩ hgood
                · simp [h7]
              · simp [h6])
          have hc : ¬ x5 = sz ∨ (x5 = sz ∧ ¬ x6 = hs) ∨ (x5 = sz ∧ x6 = hs ∧ n0 < (k : Int)) := by
            by_cases h6 : x5 = sz
            · by_cases h7 : x6 = hs
              · by_cases h8 : n0 < (k : Int)
                · exact .inr (.inr ⟨h6, h7, h8⟩)
                · exact absurd ⟨h6, h7, h8⟩ hgood
              · exact .inr (.inl ⟨h6, h7⟩)
            · exact .inl h6
          clear Hok hgood
          rcases hc with h6 | ⟨h6, h7⟩ | ⟨h6, h7, h8⟩
          all_goals
            try have h6b := eq_false h6
            try have h7b := eq_false h7
            try have h6c : (x5 != sz) = true := by simp [h6]
            try have h7c : (x6 != hs) = true := by simp [h7]
            try have h8b := eq_true h8
            refine wp_region_quiet_below (by kernel_rfl) (by kernel_rfl) ?_
            repeat (go_big_quiet_step (first | exact cR _ _ _ _ _ | exact cV _ _ | exact cB _ _ | exact cS _ _ | exact cH _ _ | exact cA _ _))
            refine wpQuiet_nil ?_
            intro _ hw'
            obtain ⟨⟨dq, osq⟩, hw2⟩ := hw'
            subst hw2
            have Hb7 := Lib.hid (bt (bt Hbe.out Hb1.out) (below_regrown W1 dq osq))
            clear cR cV cB cA cS cH k0 k1 k2 k3 k4 k5 k6 k7
            go_wp2_with fail
            go_ret
            rw [Hv.out]
            exact ⟨rfl, Hb7.out⟩
    · have hv := Lib.hid (okStore_all (fun i h => Ha.out i h (by omega)) (keys_nodup (fun i h => Hd.out i h (by omega))))
      go_wp2_with fail
      go_ret
      refine ⟨ret_bool ?_, hbel⟩
      rw [hv.out]
      try simp
      try omega
set_option maxRecDepth 100000 in
set_option maxHeartbeats 400000 in
theorem spec_ValidStore (v : Value) (cs : List Cmp) (D : Nat → Prop) (w : World) (hr : CmpsIn w D v cs) (hz : ShortCs 2000000 cs) :
    Calls Try.prog 32 #[v] w fun e w' => e = .returned (.bool (okStore cs)) ∧ Below w.heap.size w w' := by
  have Hr := Lib.hid hr
  obtain ⟨aa, ca, rfl, hl, hm⟩ := hr.len
  have Hz := Lib.hid hz
  clear hr hz hm
  go_enter Try.func32, Try.ntmps32
  go_wp2_with (go_at_call 58; refine (spec_validStore _ cs D _ (Hr.out.below (by (repeat (with_reducible first | exact Below.refl _ _ | assumption | refine ba ?_ _ | refine bd ?_ | refine bdN ?_ _ | refine bs ?_ (by first | exact Nat.le_refl _ | (dsimp only; omega) | (simp; done)) _ | refine bt ?_ (by assumption))))) Hz.out).mono ?_; (rintro _ _ ⟨rfl, hb⟩; obtain ⟨hc, hf, hs⟩ := bcell hb))
  go_ret
  exact ⟨rfl, by (repeat (with_reducible first | exact Below.refl _ _ | assumption | refine ba ?_ _ | refine bd ?_ | refine bdN ?_ _ | refine bs ?_ (by first | exact Nat.le_refl _ | (dsimp only; omega) | (simp; done)) _ | refine bt ?_ (by assumption)))⟩
end Go.Proofs.Ytomdmkhgkaalnaa
