/- Contracts of the program's functions that say whether a store is valid. -/
import Derived.Test.YtomdmkhgkaalnaaStoreMem
import Derived.Test.YtomdmkhgkaalnaaPlaceM
import Derived.Test.YtomdmkhgkaalnaaSizes
import Derived.Test.YtomdmkhgkaalnaaPlaces
import Derived.Test.YtomdmkhgkaalnaaTrees
import Derived.Test.YtomdmkhgkaalnaaKin
set_option linter.unusedVariables false
set_option linter.unusedSimpArgs false
namespace Go.Proofs.Ytomdmkhgkaalnaa
open Go.RowKit Go.Proofs.Ytomdmkhgkaalnaa.Nm
open Go.Sort (grow)

theorem still_belowC {P : Program} {f : FuncId} {args : Array Value} {w : World} {v : Value} (h : Calls P f args w fun e w' => e = .returned v ∧ w = w') :
    Calls P f args w fun e w' => e = .returned v ∧ Below w.heap.size w w' := h.mono fun _ _ hh => ⟨hh.1, by rw [← hh.2]; exact Below.refl _ _⟩
theorem impl_placeOfModule (r : Int) (n : Bs) (i : Bool) (w : World) (hn : n.length ≤ 8000000) :
    Calls Try.prog 123 #[.int .i64 r, .string (mk n), .bool i] w fun e w' => e = .returned (plVal (srcPlace (r, n, i))) ∧ Below w.heap.size w w' := by
  cases i
  · exact impl_placeOfModuleM r n w hn
  · exact impl_placeOfModuleI r n w
set_option maxRecDepth 100000 in
set_option maxHeartbeats 1000000 in
theorem impl_placeOfSource (x0 : Int) (x1 : Bs) (x2 : Bool) (x3 x4 x5 x6 : Int) (bv : Value) (w : World) (hn : x1.length ≤ 8000000) :
    Calls Try.prog 68 #[.agg #[.int .i64 x0, .string (mk x1), .bool x2, .int .i64 x3, .int .i64 x4, .int .i64 x5, .int .i64 x6, bv]] w
      fun e w' => e = .returned (plVal (srcPlace (x0, x1, x2))) ∧ Below w.heap.size w w' := by
  have Hm := Lib.hid (fun W => impl_placeOfModule x0 x1 x2 W hn)
  obtain ⟨⟨pr, pp, pn, pi⟩, hpl⟩ : ∃ p, p = srcPlace (x0, x1, x2) := ⟨_, rfl⟩
  rw [← hpl] at Hm ⊢
  clear hpl
  unfold plVal at Hm ⊢
  dsimp only at Hm ⊢
  go_enter Try.func68, Try.ntmps68
  go_wp2_with (go_at_call 123; refine (Hm.out _).mono ?_; (rintro _ _ ⟨rfl, hb⟩; obtain ⟨hc, hf, hs⟩ := bcell hb))
  exact bodyPost_ret (v := .agg #[.int .i64 pr, .string (mk pp), .string (mk pn), .bool pi]) (by simp [results, Try.results68, go_sem, *]) rfl ⟨rfl, by (repeat (with_reducible first | exact Below.refl _ _ | assumption | refine ba ?_ _ | refine bd ?_ | refine bdN ?_ _ | refine bs ?_ (by first | exact Nat.le_refl _ | (dsimp only; omega) | (simp; done)) _ | refine bt ?_ (by assumption)))⟩
theorem plEqC (x y : Pl) (w : World) : (binOp .eql 90 (plVal x) (plVal y)).run Try.prog w = .ok (.bool (decide (x = y))) w := by
  obtain ⟨a, b, c, d⟩ := x
  obtain ⟨a', b', c', d'⟩ := y
  by_cases h1 : a = a' <;> by_cases h2 : b = b' <;> by_cases h3 : c = c' <;> by_cases h4 : d = d' <;> simp [plVal, go_sem, h1, h2, h3, h4, Try.underlying90, Try.underlying3, Try.underlying9, Try.underlying4]
/-- The place that a closure has captured. -/
def PlAtC (w : World) (B : Nat) (p : Pl) : Prop := B < w.heap.size ∧ w.cell? ⟨B, 0, none⟩ = some (.int .i64 p.1) ∧ w.cell? ⟨B, 1, none⟩ = some (.string (mk p.2.1)) ∧ w.cell? ⟨B, 2, none⟩ = some (.string (mk p.2.2.1)) ∧ w.cell? ⟨B, 3, none⟩ = some (.bool p.2.2.2)
theorem PlAtC.below {w w' : World} {B : Nat} {p : Pl} (h : PlAtC w B p) (hb : Below w.heap.size w w') : PlAtC w' B p := by
  obtain ⟨h0, h1, h2, h3, h4⟩ := h
  exact ⟨Nat.lt_of_lt_of_le h0 hb.size, (hb.cell (p := ⟨B, 0, none⟩) h0).trans h1, (hb.cell (p := ⟨B, 1, none⟩) h0).trans h2, (hb.cell (p := ⟨B, 2, none⟩) h0).trans h3, (hb.cell (p := ⟨B, 3, none⟩) h0).trans h4⟩
set_option maxRecDepth 100000 in
set_option maxHeartbeats 1000000 in
theorem impl_compiledAt1 (x0 : Int) (x1 : Bs) (x2 : Bool) (x3 x4 x5 x6 : Int) (bv : Value) (B : Nat) (p : Pl) (w : World) (hp : PlAtC w B p) (hn : x1.length ≤ 8000000) :
    Calls Try.prog 129 #[.agg #[.int .i64 x0, .string (mk x1), .bool x2, .int .i64 x3, .int .i64 x4, .int .i64 x5, .int .i64 x6, bv], .pointer (some ⟨B, 0, none⟩)] w
      fun e w' => e = .returned (.bool (decide (srcPlace (x0, x1, x2) = p))) ∧ Below w.heap.size w w' := by
  have Hm := Lib.hid (fun W => impl_placeOfSource x0 x1 x2 x3 x4 x5 x6 bv W hn)
  obtain ⟨⟨sr, sp, sn, si⟩, hsp⟩ : ∃ s, s = srcPlace (x0, x1, x2) := ⟨_, rfl⟩
  rw [← hsp] at Hm ⊢
  clear hsp
  obtain ⟨pr, pp, pn, pi⟩ := p
  obtain ⟨h0, h1, h2, h3, h4⟩ := hp
  dsimp only at h1 h2 h3 h4
  have qE := fun w => plEqC (sr, sp, sn, si) (pr, pp, pn, pi) w
  unfold plVal at qE Hm
  dsimp only at qE Hm
  generalize decide ((sr, sp, sn, si) = (pr, pp, pn, pi)) = c at *
  go_enter Try.func129, Try.ntmps129
  go_wp2_with fail
  have hx := Boxed.start w #[.int .i64 x0, .string (mk x1), .bool x2, .int .i64 x3, .int .i64 x4, .int .i64 x5, .int .i64 x6, bv] 53
  obtain ⟨W1, hW1⟩ : ∃ W1, W1 = w.alloc (.cells #[.int .i64 x0, .string (mk x1), .bool x2, .int .i64 x3, .int .i64 x4, .int .i64 x5, .int .i64 x6, bv] 53) := ⟨_, rfl⟩
  rw [← hW1] at hx ⊢
  have hb := hx.below
  have k0 := cell_regrown (show W1.cell? ⟨w.heap.size, 0, none⟩ = some (.int .i64 x0) from hx.cell 0)
  have k1 := cell_regrown (show W1.cell? ⟨w.heap.size, 1, none⟩ = some (.string (mk x1)) from hx.cell 1)
  have k2 := cell_regrown (show W1.cell? ⟨w.heap.size, 2, none⟩ = some (.bool x2) from hx.cell 2)
  have k3 := cell_regrown (show W1.cell? ⟨w.heap.size, 3, none⟩ = some (.int .i64 x3) from hx.cell 3)
  have k4 := cell_regrown (show W1.cell? ⟨w.heap.size, 4, none⟩ = some (.int .i64 x4) from hx.cell 4)
  have k5 := cell_regrown (show W1.cell? ⟨w.heap.size, 5, none⟩ = some (.int .i64 x5) from hx.cell 5)
  have k6 := cell_regrown (show W1.cell? ⟨w.heap.size, 6, none⟩ = some (.int .i64 x6) from hx.cell 6)
  have k7 := cell_regrown (show W1.cell? ⟨w.heap.size, 7, none⟩ = some bv from hx.cell 7)
  have j1 := cell_regrown ((hb.cell (p := ⟨B, 0, none⟩) h0).trans h1)
  have j2 := cell_regrown ((hb.cell (p := ⟨B, 1, none⟩) h0).trans h2)
  have j3 := cell_regrown ((hb.cell (p := ⟨B, 2, none⟩) h0).trans h3)
  have j4 := cell_regrown ((hb.cell (p := ⟨B, 3, none⟩) h0).trans h4)
  have Hb := Lib.hid hb
  clear hx hb hW1 h1 h2 h3 h4
  have cP : ∀ d os, Calls Try.prog 68 #[.agg #[.int .i64 x0, .string (mk x1), .bool x2, .int .i64 x3, .int .i64 x4, .int .i64 x5, .int .i64 x6, bv]] (grow (redrawn W1 d) os) fun e w'' => e = .returned (.agg #[.int .i64 sr, .string (mk sp), .string (mk sn), .bool si]) ∧ ∃ p : Regrown, w'' = grow (redrawn W1 p.d) p.os := fun d os =>
    Calls.regrown_of (Hm.out (grow (redrawn W1 d) os))
  refine wp_region_quiet_below (by kernel_rfl) (by kernel_rfl) ?_
  repeat (go_big_quiet_step (exact cP _ _))
  refine wpQuiet_nil ?_
  intro _ hw'
  obtain ⟨⟨dq, osq⟩, hw2⟩ := hw'
  subst hw2
  have Hb7 := Lib.hid (bt Hb.out (below_regrown W1 dq osq))
  clear cP k0 k1 k2 k3 k4 k5 k6 k7 j1 j2 j3 j4 qE
  go_wp2_with fail
  go_ret
  exact ⟨rfl, Hb7.out⟩
/-- The place of the file of what is compiled. -/
def sourceOf (c : Cmp) : Pl := srcPlace (cplace c)
set_option maxRecDepth 100000 in
set_option maxHeartbeats 1000000 in
theorem slices_IndexFuncC (v : Value) (cs : List Cmp) (D : Nat → Prop) (B : Nat) (p : Pl) (w : World) (hr : CmpsIn w D v cs) (hz : ShortCs 8000000 cs) (hp : PlAtC w B p) :
    Calls Try.prog 122 #[v, .func (.func 129) #[] #[.pointer (some ⟨B, 0, none⟩)]] w
      fun e w' => e = .returned (.int .i64 (keyAt sourceOf cs p)) ∧ Below w.heap.size w w' := by
  have Hr := Lib.hid hr
  have Hp := Lib.hid hp
  have Hz := Lib.hid hz
  obtain ⟨aa, ca, rfl, hl, hm⟩ := hr.len
  unfold maxLen at hm
  clear hr hp hz
  go_enter Try.func122, Try.ntmps122
  go_wp2_with fail
  go_loopw [8] (fun iv wr => ∃ k : Nat, k ≤ cs.length ∧ iv = .int .i64 k ∧ Below w.heap.size w wr ∧ ∀ j (h : j < cs.length), j < k → sourceOf cs[j] ≠ p) (fun iv _ => cs.length - (intOf iv).toNat)
  case atStart => exact ⟨0, by omega, rfl, Below.refl _ _, fun i _ h => absurd h (by omega)⟩
  case round =>
    obtain ⟨k, hk, rfl, hbel, ha⟩ := hrel
    have Ha := Lib.hid ha
    clear ha
    by_cases hlt : k < cs.length
    · obtain ⟨b, off, cap, bv, e, hD, hb, hbody, c0, c1, c2, c3, c4, c5, c6, c7⟩ := (Hr.out.below hbel).at_ hlt
      simp only [Value.slice.injEq] at e
      obtain ⟨rfl, _, rfl⟩ := e
      obtain ⟨ba', bc', rfl, hbl, hbm⟩ := hbody.len
      clear hbody hbl hbm
      obtain ⟨z1, _⟩ := Hz.out _ (List.getElem_mem hlt)
      obtain ⟨bn', hbn⟩ : ∃ bn', bn' = cs[k].body.length := ⟨_, rfl⟩
      rw [← hbn] at c7
      clear hbn
      have Hy := Lib.hid (keyAt_yes (key := sourceOf) cs k hlt p (fun j h1 h2 => Ha.out j h1 h2))
      have Hq := Lib.hid (Hp.out.below hbel)
      obtain ⟨f, hf⟩ : ∃ f, f = cs[k] := ⟨_, rfl⟩
      rw [← hf] at c0 c1 c2 c3 c4 c5 c6 Hy z1
      have Hn := Lib.hid (fun (h : sourceOf f ≠ p) => (show sourceOf cs[k] ≠ p by rw [← hf]; exact h))
      clear hf
      obtain ⟨x0, x1, x2, x3, x4, x5, x6, fb⟩ := f
      dsimp only at c0 c1 c2 c3 c4 c5 c6 z1
      by_cases he : srcPlace (x0, x1, x2) = p
      · have He := Lib.hid (decide_eq_true he)
        have Hv := Lib.hid (Hy.out he)
        clear he
        go_wp2_with (go_at_call 129; refine (impl_compiledAt1 _ _ _ _ _ _ _ _ B p _ (Hq.out.below (by (repeat (with_reducible first | exact Below.refl _ _ | assumption | refine ba ?_ _ | refine bd ?_ | refine bdN ?_ _ | refine bs ?_ (by first | exact Nat.le_refl _ | (dsimp only; omega) | (simp; done)) _ | refine bt ?_ (by assumption))))) z1).mono ?_; (rintro _ _ ⟨rfl, hb⟩; obtain ⟨hc, hf, hs⟩ := bcell hb); rw [He.out])
        go_ret
        rw [Hv.out]
        exact ⟨rfl, by (repeat (with_reducible first | exact Below.refl _ _ | assumption | refine ba ?_ _ | refine bd ?_ | refine bdN ?_ _ | refine bs ?_ (by first | exact Nat.le_refl _ | (dsimp only; omega) | (simp; done)) _ | refine bt ?_ (by assumption)))⟩
      · have He := Lib.hid (decide_eq_false he)
        have He2 := Lib.hid he
        clear he
        go_wp2_with (go_at_call 129; refine (impl_compiledAt1 _ _ _ _ _ _ _ _ B p _ (Hq.out.below (by (repeat (with_reducible first | exact Below.refl _ _ | assumption | refine ba ?_ _ | refine bd ?_ | refine bdN ?_ _ | refine bs ?_ (by first | exact Nat.le_refl _ | (dsimp only; omega) | (simp; done)) _ | refine bt ?_ (by assumption))))) z1).mono ?_; (rintro _ _ ⟨rfl, hb⟩; obtain ⟨hc, hf, hs⟩ := bcell hb); rw [He.out])
        go_roundw
        case rel =>
          refine ⟨k + 1, by omega, by go_num, by (repeat (with_reducible first | exact Below.refl _ _ | assumption | refine ba ?_ _ | refine bd ?_ | refine bdN ?_ _ | refine bs ?_ (by first | exact Nat.le_refl _ | (dsimp only; omega) | (simp; done)) _ | refine bt ?_ (by assumption))), fun j h hj => ?_⟩
          by_cases e : j = k
          · subst e; exact Hn.out He2.out
          · exact Ha.out j h (by omega)
        case measure => simp [intOf]; omega
    · have Hv := Lib.hid (keyAt_no (key := sourceOf) cs p (fun j h => Ha.out j h (by omega)))
      go_wp2_with fail
      go_ret
      rw [Hv.out]
      exact ⟨rfl, hbel⟩
set_option maxRecDepth 100000 in
set_option maxHeartbeats 1000000 in
theorem impl_compiledAt (v : Value) (cs : List Cmp) (D : Nat → Prop) (pv : Value) (p : Pl) (w : World) (hpv : pv = plVal p) (hr : CmpsIn w D v cs) (hz : ShortCs 8000000 cs) :
    Calls Try.prog 83 #[v, pv] w fun e w' => e = .returned (.int .i64 (keyAt sourceOf cs p)) ∧ Below w.heap.size w w' := by
  obtain ⟨pr, pp, pn, pi⟩ := p
  subst hpv
  unfold plVal
  dsimp only
  have Hr := Lib.hid hr
  have Hz := Lib.hid hz
  obtain ⟨aa, ca, rfl, hl, hm⟩ := hr.len
  clear hr hl hm hz
  have hmf : ∀ (fn : Fn) (first cap : Array Value) (w : World), (Instr.makeFunc fn first cap).run Try.prog w = .ok (.func fn first cap) w := fun _ _ _ _ => rfl
  have Hx := Lib.hid (Boxed.start w #[.int .i64 pr, .string (mk pp), .string (mk pn), .bool pi] 90)
  have Hp := Lib.hid (show PlAtC (w.alloc (.cells #[.int .i64 pr, .string (mk pp), .string (mk pn), .bool pi] 90)) w.heap.size (pr, pp, pn, pi) from
    ⟨Hx.out.lt, Hx.out.cell 0, Hx.out.cell 1, Hx.out.cell 2, Hx.out.cell 3⟩)
  have Hr2 := Lib.hid (Hr.out.below Hx.out.below)
  go_enter Try.func83, Try.ntmps83
  go_wp2_with (go_at_call 122; refine (slices_IndexFuncC _ cs D w.heap.size (pr, pp, pn, pi) _ Hr2.out Hz.out Hp.out).mono ?_; (rintro _ _ ⟨rfl, hb⟩; obtain ⟨hc, hf, hs⟩ := bcell hb))
  go_ret
  exact ⟨rfl, by (repeat (with_reducible first | exact Below.refl _ _ | assumption | refine ba ?_ _ | refine bd ?_ | refine bdN ?_ _ | refine bs ?_ (by first | exact Nat.le_refl _ | (dsimp only; omega) | (simp; done)) _ | refine bt ?_ (by assumption)))⟩
end Go.Proofs.Ytomdmkhgkaalnaa
