/- Contracts of the program's finders: what one root has, what some roots have, and what is found part by part. -/
import Derived.Test.YtcmnldomcpjlcaaGreatPaths
import Derived.Test.YtcmnldomcpjlcaaGreatDirs2
import Derived.Test.YtcmnldomcpjlcaaGreatPlaceM
import Derived.Test.YtcmnldomcpjlcaaGreatSzTree
import Derived.Test.YtcmnldomcpjlcaaGreatPlainG
set_option linter.unusedVariables false
set_option linter.unusedSimpArgs false
namespace Go.Proofs.YtcmnldomcpjlcaaGreat
open Go.RowKit Go.Proofs.YtcmnldomcpjlcaaGreat.Nm
open Go.Sort (grow)

theorem still_below {P : Program} {f : FuncId} {args : Array Value} {w : World} {v : Value} (h : Calls P f args w fun e w' => e = .returned v ∧ w = w') :
    Calls P f args w fun e w' => e = .returned v ∧ Below w.heap.size w w' := h.mono fun _ _ hh => ⟨hh.1, by rw [← hh.2]; exact Below.refl _ _⟩

set_option maxRecDepth 100000 in
set_option maxHeartbeats 400000 in
theorem impl_nothing (w : World) :
    Calls Tryz.prog 133 #[] w fun e w' => e = .returned (.agg #[.int .i64 0, .int .i64 (-1), .slice none 0 0]) ∧ Below w.heap.size w w' := by
  go_enter Tryz.func133, Tryz.ntmps133
  go_wp2_with fail
  exact bodyPost_ret (v := .agg #[.int .i64 0, .int .i64 (-1), .slice none 0 0]) (by simp [results, Tryz.results133, go_sem]) rfl ⟨rfl, by (repeat (with_reducible first | exact Below.refl _ _ | assumption | refine ba ?_ _ | refine bd ?_ | refine bdN ?_ _ | refine bs ?_ (by first | exact Nat.le_refl _ | (dsimp only; omega) | (simp; done)) _ | refine bt ?_ (by assumption)))⟩

theorem plEq (x y : Pl) (w : World) : (binOp .eql 132 (plVal x) (plVal y)).run Tryz.prog w = .ok (.bool (decide (x = y))) w := by
  obtain ⟨a, b, c, d⟩ := x
  obtain ⟨a', b', c', d'⟩ := y
  by_cases h1 : a = a' <;> by_cases h2 : b = b' <;> by_cases h3 : c = c' <;> by_cases h4 : d = d' <;> simp [plVal, go_sem, h1, h2, h3, h4, Tryz.underlying132, Tryz.underlying3, Tryz.underlying9, Tryz.underlying4]
theorem lit_own {W : World} {g base e : Nat} (cs : Array Value) (n : Nat) (hg : g = W.heap.size) (hb : base ≤ g) (hm : n ≤ maxLen) (hs : cs.size = n) : (W.alloc (.cells cs e)).ownsRow base e 1 (.slice (some ⟨g, 0, none⟩) n n) n cs.toList := by
  subst hg
  exact World.ownsRow_lit (size := 1) W cs n hb hm (by rw [hs]; simp)

/-- The place that a closure has captured. -/
def PlAt (w : World) (B : Nat) (p : Pl) : Prop := B < w.heap.size ∧ w.cell? ⟨B, 0, none⟩ = some (.int .i64 p.1) ∧ w.cell? ⟨B, 1, none⟩ = some (.string (mk p.2.1)) ∧ w.cell? ⟨B, 2, none⟩ = some (.string (mk p.2.2.1)) ∧ w.cell? ⟨B, 3, none⟩ = some (.bool p.2.2.2)
theorem PlAt.below {w w' : World} {B : Nat} {p : Pl} (h : PlAt w B p) (hb : Below w.heap.size w w') : PlAt w' B p := by
  obtain ⟨h0, h1, h2, h3, h4⟩ := h
  exact ⟨Nat.lt_of_lt_of_le h0 hb.size, (hb.cell (p := ⟨B, 0, none⟩) h0).trans h1, (hb.cell (p := ⟨B, 1, none⟩) h0).trans h2, (hb.cell (p := ⟨B, 2, none⟩) h0).trans h3, (hb.cell (p := ⟨B, 3, none⟩) h0).trans h4⟩
set_option maxRecDepth 100000 in
set_option maxHeartbeats 1000000 in
theorem impl_fileAt1 (r st : Int) (pk n : Bs) (i : Bool) (bv : Value) (B : Nat) (p : Pl) (w : World) (hp : PlAt w B p) :
    Calls Tryz.prog 230 #[.agg #[.int .i64 r, .string (mk pk), .string (mk n), .bool i, .int .i64 st, bv], .pointer (some ⟨B, 0, none⟩)] w
      fun e w' => e = .returned (.bool (decide ((r, pk, n, i) = p))) ∧ Below w.heap.size w w' := by
  obtain ⟨pr, pp, pn, pi⟩ := p
  obtain ⟨h0, h1, h2, h3, h4⟩ := hp
  dsimp only at h1 h2 h3 h4
  have qE := fun w => plEq (r, pk, n, i) (pr, pp, pn, pi) w
  unfold plVal at qE
  dsimp only at qE
  generalize decide ((r, pk, n, i) = (pr, pp, pn, pi)) = c at *
  go_enter Tryz.func230, Tryz.ntmps230
  go_wp2_with fail
  have hx := Boxed.start w #[.int .i64 r, .string (mk pk), .string (mk n), .bool i, .int .i64 st, bv] 79
  obtain ⟨W1, hW1⟩ : ∃ W1, W1 = w.alloc (.cells #[.int .i64 r, .string (mk pk), .string (mk n), .bool i, .int .i64 st, bv] 79) := ⟨_, rfl⟩
  rw [← hW1] at hx ⊢
  have hb := hx.below
  have k0 := cell_regrown (show W1.cell? ⟨w.heap.size, 0, none⟩ = some (.int .i64 r) from hx.cell 0)
  have k1 := cell_regrown (show W1.cell? ⟨w.heap.size, 1, none⟩ = some (.string (mk pk)) from hx.cell 1)
  have k2 := cell_regrown (show W1.cell? ⟨w.heap.size, 2, none⟩ = some (.string (mk n)) from hx.cell 2)
  have k3 := cell_regrown (show W1.cell? ⟨w.heap.size, 3, none⟩ = some (.bool i) from hx.cell 3)
  have k4 := cell_regrown (show W1.cell? ⟨w.heap.size, 4, none⟩ = some (.int .i64 st) from hx.cell 4)
  have k5 := cell_regrown (show W1.cell? ⟨w.heap.size, 5, none⟩ = some bv from hx.cell 5)
  have j1 := cell_regrown ((hb.cell (p := ⟨B, 0, none⟩) h0).trans h1)
  have j2 := cell_regrown ((hb.cell (p := ⟨B, 1, none⟩) h0).trans h2)
  have j3 := cell_regrown ((hb.cell (p := ⟨B, 2, none⟩) h0).trans h3)
  have j4 := cell_regrown ((hb.cell (p := ⟨B, 3, none⟩) h0).trans h4)
  have Hb := Lib.hid hb
  clear hx hb hW1 h1 h2 h3 h4
  have cP : ∀ d os, Calls Tryz.prog 141 #[.agg #[.int .i64 r, .string (mk pk), .string (mk n), .bool i, .int .i64 st, bv]] (grow (redrawn W1 d) os) fun e w'' => e = .returned (.agg #[.int .i64 r, .string (mk pk), .string (mk n), .bool i]) ∧ ∃ p : Regrown, w'' = grow (redrawn W1 p.d) p.os := fun d os =>
    Calls.regrown_of (impl_placeOf r st pk n i bv (grow (redrawn W1 d) os))
  refine wp_region_quiet_below (by kernel_rfl) (by kernel_rfl) ?_
  repeat (go_big_quiet_step (exact cP _ _))
  refine wpQuiet_nil ?_
  intro _ hw'
  obtain ⟨⟨dq, osq⟩, hw2⟩ := hw'
  subst hw2
  have Hb7 := Lib.hid (bt Hb.out (below_regrown W1 dq osq))
  clear cP k0 k1 k2 k3 k4 k5 j1 j2 j3 j4 qE
  go_wp2_with fail
  go_ret
  exact ⟨rfl, Hb7.out⟩

set_option maxRecDepth 100000 in
set_option maxHeartbeats 1000000 in
theorem slices_IndexFunc (v : Value) (fs : List Fil) (D : Nat → Prop) (B : Nat) (p : Pl) (w : World) (hr : FilsIn w D v fs) (hp : PlAt w B p) :
    Calls Tryz.prog 229 #[v, .func (.func 230) #[] #[.pointer (some ⟨B, 0, none⟩)]] w
      fun e w' => e = .returned (.int .i64 (firstAt fs p)) ∧ Below w.heap.size w w' := by
  have Hr := Lib.hid hr
  have Hp := Lib.hid hp
  obtain ⟨aa, ca, rfl, hl, hm⟩ := hr.len
  unfold maxLen at hm
  clear hr hp
  go_enter Tryz.func229, Tryz.ntmps229
  go_wp2_with fail
  go_loopw [8] (fun iv wr => ∃ k : Nat, k ≤ fs.length ∧ iv = .int .i64 k ∧ Below w.heap.size w wr ∧ ∀ j (h : j < fs.length), j < k → place fs[j] ≠ p) (fun iv _ => fs.length - (intOf iv).toNat)
  case atStart => exact ⟨0, by omega, rfl, Below.refl _ _, fun i _ h => absurd h (by omega)⟩
  case round =>
    obtain ⟨k, hk, rfl, hbel, ha⟩ := hrel
    have Ha := Lib.hid ha
    clear ha
    by_cases hlt : k < fs.length
    · obtain ⟨b, off, cap, bv, e, hD, hb, hbody, c0, c1, c2, c3, c4, c5⟩ := (Hr.out.below hbel).at_ hlt
      simp only [Value.slice.injEq] at e
      obtain ⟨rfl, _, rfl⟩ := e
      obtain ⟨ba', bc', rfl, hbl, hbm⟩ := hbody.len
      clear hbody hbl hbm
      obtain ⟨bn', hbn⟩ : ∃ bn', bn' = fs[k].body.length := ⟨_, rfl⟩
      rw [← hbn] at c5
      clear hbn
      have Hy := Lib.hid (firstAt_yes fs k hlt p (fun j h1 h2 => Ha.out j h1 h2))
      have Hq := Lib.hid (Hp.out.below hbel)
      obtain ⟨f, hf⟩ : ∃ f, f = fs[k] := ⟨_, rfl⟩
      rw [← hf] at c0 c1 c2 c3 c4 Hy
      have Hn := Lib.hid (fun (h : place f ≠ p) => (show place fs[k] ≠ p by rw [← hf]; exact h))
      clear hf
      obtain ⟨fr, fp, fn, fi, fst, fb⟩ := f
      dsimp only at c0 c1 c2 c3 c4
      by_cases he : (fr, fp, fn, fi) = p
      · have He := Lib.hid (decide_eq_true he)
        have Hv := Lib.hid (Hy.out he)
        clear he
        go_wp2_with (go_at_call 230; refine (impl_fileAt1 _ _ _ _ _ _ B p _ (Hq.out.below (by (repeat (with_reducible first | exact Below.refl _ _ | assumption | refine ba ?_ _ | refine bd ?_ | refine bdN ?_ _ | refine bs ?_ (by first | exact Nat.le_refl _ | (dsimp only; omega) | (simp; done)) _ | refine bt ?_ (by assumption)))))).mono ?_; (rintro _ _ ⟨rfl, hb⟩; obtain ⟨hc, hf, hs⟩ := bcell hb); rw [He.out])
        go_ret
        rw [Hv.out]
        exact ⟨rfl, by (repeat (with_reducible first | exact Below.refl _ _ | assumption | refine ba ?_ _ | refine bd ?_ | refine bdN ?_ _ | refine bs ?_ (by first | exact Nat.le_refl _ | (dsimp only; omega) | (simp; done)) _ | refine bt ?_ (by assumption)))⟩
      · have He := Lib.hid (decide_eq_false he)
        have He2 := Lib.hid he
        clear he
        go_wp2_with (go_at_call 230; refine (impl_fileAt1 _ _ _ _ _ _ B p _ (Hq.out.below (by (repeat (with_reducible first | exact Below.refl _ _ | assumption | refine ba ?_ _ | refine bd ?_ | refine bdN ?_ _ | refine bs ?_ (by first | exact Nat.le_refl _ | (dsimp only; omega) | (simp; done)) _ | refine bt ?_ (by assumption)))))).mono ?_; (rintro _ _ ⟨rfl, hb⟩; obtain ⟨hc, hf, hs⟩ := bcell hb); rw [He.out])
        go_roundw
        case rel =>
          refine ⟨k + 1, by omega, by go_num, by (repeat (with_reducible first | exact Below.refl _ _ | assumption | refine ba ?_ _ | refine bd ?_ | refine bdN ?_ _ | refine bs ?_ (by first | exact Nat.le_refl _ | (dsimp only; omega) | (simp; done)) _ | refine bt ?_ (by assumption))), fun j h hj => ?_⟩
          by_cases e : j = k
          · subst e; exact Hn.out He2.out
          · exact Ha.out j h (by omega)
        case measure => simp [intOf]; omega
    · have Hv := Lib.hid (firstAt_no fs p (fun j h => Ha.out j h (by omega)))
      go_wp2_with fail
      go_ret
      rw [Hv.out]
      exact ⟨rfl, hbel⟩

set_option maxRecDepth 100000 in
set_option maxHeartbeats 1000000 in
theorem impl_fileAt (v : Value) (fs : List Fil) (D : Nat → Prop) (pv : Value) (p : Pl) (w : World) (hpv : pv = plVal p) (hr : FilsIn w D v fs) :
    Calls Tryz.prog 226 #[.agg #[v], pv] w fun e w' => e = .returned (.int .i64 (firstAt fs p)) ∧ Below w.heap.size w w' := by
  obtain ⟨pr, pp, pn, pi⟩ := p
  subst hpv
  unfold plVal
  dsimp only
  have Hr := Lib.hid hr
  obtain ⟨aa, ca, rfl, hl, hm⟩ := hr.len
  clear hr hl hm
  have hmf : ∀ (fn : Fn) (first cap : Array Value) (w : World), (Instr.makeFunc fn first cap).run Tryz.prog w = .ok (.func fn first cap) w := fun _ _ _ _ => rfl
  have Hx := Lib.hid (Boxed2.start w #[.slice aa fs.length ca] 31 #[.int .i64 pr, .string (mk pp), .string (mk pn), .bool pi] 132)
  have Hp := Lib.hid (show PlAt ((w.alloc (.cells #[.slice aa fs.length ca] 31)).alloc (.cells #[.int .i64 pr, .string (mk pp), .string (mk pn), .bool pi] 132)) (w.heap.size + 1) (pr, pp, pn, pi) from
    ⟨Hx.out.lt, Hx.out.cell 0, Hx.out.cell 1, Hx.out.cell 2, Hx.out.cell 3⟩)
  have Hr2 := Lib.hid (Hr.out.below Hx.out.below)
  go_enter Tryz.func226, Tryz.ntmps226
  go_wp2_with (go_at_call 229; refine (slices_IndexFunc _ fs D (w.heap.size + 1) (pr, pp, pn, pi) _ Hr2.out Hp.out).mono ?_; (rintro _ _ ⟨rfl, hb⟩; obtain ⟨hc, hf, hs⟩ := bcell hb))
  go_ret
  exact ⟨rfl, by (repeat (with_reducible first | exact Below.refl _ _ | assumption | refine ba ?_ _ | refine bd ?_ | refine bdN ?_ _ | refine bs ?_ (by first | exact Nat.le_refl _ | (dsimp only; omega) | (simp; done)) _ | refine bt ?_ (by assumption)))⟩

/-- What a root has of a name as a package with a file, as a module, as a directory. -/
def initSpc (t : List Fil) (r : Int) (n : Bs) : Spc := if 0 ≤ firstAt t (r, n, [], true) then ⟨2, firstAt t (r, n, [], true), [r]⟩ else noSpc
def modSpc (t : List Fil) (r : Int) (n : Bs) : Spc := if 0 ≤ firstAt t (r, parent n, last n, false) then ⟨1, firstAt t (r, parent n, last n, false), []⟩ else noSpc
def dirSpc (t : List Fil) (r : Int) (n : Bs) : Spc := if dirIn t r n then ⟨3, -1, [r]⟩ else noSpc
theorem noSpc_new {T : TypeId} {sp : Spc} {w w' : World} (h : sp = noSpc) (hb : Below w.heap.size w w') : NewSpc T sp w (.returned (.agg #[.int .i64 0, .int .i64 (-1), .slice none 0 0])) w' := by
  subst h; exact ⟨_, rfl, World.ownsRow_nil _ _ _ _, hb⟩

set_option maxRecDepth 100000 in
set_option maxHeartbeats 1000000 in
theorem impl_findInit (v : Value) (fs : List Fil) (D : Nat → Prop) (r : Int) (n : Bs) (w : World) (hr : FilsIn w D v fs) :
    Calls Tryz.prog 223 #[.agg #[v], .int .i64 r, .string (mk n)] w (NewSpc 3 (initSpc fs r n) w) := by
  have Hr := Lib.hid hr
  obtain ⟨aa, ca, rfl, hl, hm⟩ := hr.len
  have hge := firstAt_ge fs (r, n, [], true)
  have Hx := Lib.hid (Boxed2.start w #[.slice aa fs.length ca] 31 #[.int .i64 0, .int .i64 0, .slice none 0 0] 63)
  clear hr hl hm
  obtain ⟨j, hj⟩ : ∃ j, j = firstAt fs (r, n, [], true) := ⟨_, rfl⟩
  have Hmod := Lib.hid (show initSpc fs r n = if 0 ≤ j then ⟨2, j, [r]⟩ else noSpc by unfold initSpc; rw [hj])
  have Hj := Lib.hid hj
  rw [← hj] at hge
  clear hj
  obtain ⟨W1, hW1⟩ : ∃ W1, W1 = (w.alloc (.cells #[.slice aa fs.length ca] 31)).alloc (.cells #[.int .i64 0, .int .i64 0, .slice none 0 0] 63) := ⟨_, rfl⟩
  have HW1 := Lib.hid hW1
  rw [← hW1] at Hx
  have k0 := cell_regrown (show W1.cell? ⟨w.heap.size, 0, none⟩ = some (.slice aa fs.length ca) from Hx.out.one.cell 0)
  have r0 : W1.cell? ⟨w.heap.size + 1, 0, none⟩ = some (.int .i64 0) := Hx.out.cell 0
  have r1 : W1.cell? ⟨w.heap.size + 1, 1, none⟩ = some (.int .i64 0) := Hx.out.cell 1
  have r2 : W1.cell? ⟨w.heap.size + 1, 2, none⟩ = some (.slice none 0 0) := Hx.out.cell 2
  have q0 : ∀ o, W1.frozen? ⟨w.heap.size + 1, o, none⟩ = false := fun o => by
    rw [hW1]; simp [go_sem]
  have cM : ∀ d os, Calls Tryz.prog 227 #[.int .i64 r, .string (mk n), .bool true] (grow (redrawn W1 d) os) fun e w'' => e = .returned (.agg #[.int .i64 r, .string (mk n), .string (mk []), .bool true]) ∧ ∃ p : Regrown, w'' = grow (redrawn W1 p.d) p.os := fun d os =>
    Calls.regrown_of (impl_placeOfModuleI r n (grow (redrawn W1 d) os))
  have cF : ∀ d os, Calls Tryz.prog 226 #[.agg #[.slice aa fs.length ca], .agg #[.int .i64 r, .string (mk n), .string (mk []), .bool true]] (grow (redrawn W1 d) os) fun e w'' => e = .returned (.int .i64 j) ∧ ∃ p : Regrown, w'' = grow (redrawn W1 p.d) p.os := fun d os =>
    Calls.regrown_of (by have h := impl_fileAt _ fs D _ (r, n, [], true) (grow (redrawn W1 d) os) rfl (Hr.out.below (bt Hx.out.below (below_regrown W1 d os))); rw [← Hj.out] at h; exact h)
  clear hW1
  go_enter Tryz.func223, Tryz.ntmps223
  go_wp2_with fail
  rw [← HW1.out]
  refine wp_region_quiet_below (by kernel_rfl) (by kernel_rfl) ?_
  repeat (go_big_quiet_step (first | exact cM _ _ | exact cF _ _))
  refine wpQuiet_nil ?_
  intro _ hw'
  obtain ⟨⟨dq, osq⟩, hw2⟩ := hw'
  have hb5 : Below W1.heap.size W1 _ := below_regrown W1 dq osq
  rw [← hw2] at hb5
  clear hw2 cM cF k0
  rename_i w5
  obtain ⟨hc, hf, hs⟩ := bcell hb5
  have Hb5 := Lib.hid (bt Hx.out.below hb5)
  have hlt := Hx.out.lt
  have e0 := (hc (w.heap.size + 1) 0 hlt).trans r0
  have e1 := (hc (w.heap.size + 1) 1 hlt).trans r1
  have e2 := (hc (w.heap.size + 1) 2 hlt).trans r2
  have g0 : ∀ o, w5.frozen? ⟨w.heap.size + 1, o, none⟩ = false := fun o => (hf _ o hlt).trans (q0 o)
  have g00 := g0 0
  have g01 := g0 1
  have g02 := g0 2
  have hs5 := hs _ hlt
  clear hc hf hs r0 r1 r2 q0 g0 hlt
  by_cases h : j = -1
  · subst h
    have Hs := Lib.hid (show initSpc fs r n = noSpc by rw [Hmod.out]; rfl)
    clear hge
    go_wp2_with (go_at_call 133; refine (impl_nothing _).mono ?_; rintro _ w6 ⟨rfl, hb6⟩; obtain ⟨hc6, hf6, hs6⟩ := bcell hb6)
    exact bodyPost_ret (v := .agg #[.int .i64 0, .int .i64 (-1), .slice none 0 0]) (by simp [results, Tryz.results223, go_sem, *]) rfl (noSpc_new Hs.out (bs (bs (bs (bt Hb5.out hb6) (by dsimp only; omega) _) (by dsimp only; omega) _) (by dsimp only; omega) _))
  · have hj0 : 0 ≤ j := by omega
    have hjb : (j == -1) = false := by rw [beq_eq_false_iff_ne]; exact h
    have Hs := Lib.hid (show initSpc fs r n = ⟨2, j, [r]⟩ by rw [Hmod.out, if_pos hj0])
    clear hge h
    go_wp2_with fail
    refine bodyPost_ret (v := .agg #[.int .i64 2, .int .i64 j, .slice (some ⟨w5.heap.size, 0, none⟩) 1 1]) (by simp [results, Tryz.results223, go_sem, *]) rfl ?_
    rw [Hs.out]
    refine ⟨_, rfl, ?_, ba (bs (bs (bs Hb5.out (by dsimp only; omega) _) (by dsimp only; omega) _) (by dsimp only; omega) _) _⟩
    exact lit_own #[.int .i64 r] 1 (by simp) (by have := Hb5.out.size; omega) (by unfold maxLen; omega) rfl
set_option maxRecDepth 100000 in
set_option maxHeartbeats 1000000 in
theorem impl_findDir (v : Value) (fs : List Fil) (D : Nat → Prop) (r : Int) (n : Bs) (w : World) (hr : FilsIn w D v fs) (hz : ShortT 2000000 fs) (ht : okTree fs = true) (hn : vn n = true) :
    Calls Tryz.prog 225 #[.agg #[v], .int .i64 r, .string (mk n)] w (NewSpc 3 (dirSpc fs r n) w) := by
  have Hr := Lib.hid hr
  have Hz := Lib.hid hz
  have hnl := vn_len hn
  have h12 := (okTree_all ht).2.2
  obtain ⟨aa, ca, rfl, hl, hm⟩ := hr.len
  have He := Lib.hid (dirIn_eq (fs := fs) (root := r) ht (vpk_iff.2 (.inr hn)))
  clear hr hl hm ht hn hz
  cases hd : dirIn fs r n
  · have Hd := Lib.hid hd
    have Hs := Lib.hid (show dirSpc fs r n = noSpc by unfold dirSpc; rw [hd]; rfl)
    clear hd
    go_enter Tryz.func225, Tryz.ntmps225
    go_wp2_with (first
      | (go_at_call 228; refine (impl_dirIsThere _ fs D r n _ (Hr.out.below (by (repeat (with_reducible first | exact Below.refl _ _ | assumption | refine ba ?_ _ | refine bd ?_ | refine bdN ?_ _ | refine bs ?_ (by first | exact Nat.le_refl _ | (dsimp only; omega) | (simp; done)) _ | refine bt ?_ (by assumption))))) Hz.out (by omega) (by omega)).mono ?_; rintro _ w5 ⟨rfl, hb5⟩; obtain ⟨hc, hf, hs⟩ := bcell hb5; rw [← He.out, Hd.out])
      | (go_at_call 133; refine (impl_nothing _).mono ?_; rintro _ w6 ⟨rfl, hb6⟩; obtain ⟨hc6, hf6, hs6⟩ := bcell (bt hb5 hb6); clear hc hf hs))
    exact bodyPost_ret (v := .agg #[.int .i64 0, .int .i64 (-1), .slice none 0 0]) (by simp [results, Tryz.results225, go_sem, hc6, hs6]) rfl (noSpc_new Hs.out (by (repeat (with_reducible first | exact Below.refl _ _ | assumption | refine ba ?_ _ | refine bd ?_ | refine bdN ?_ _ | refine bs ?_ (by first | exact Nat.le_refl _ | (dsimp only; omega) | (simp; done)) _ | refine bt ?_ (by assumption)))))
  · have Hd := Lib.hid hd
    have Hs := Lib.hid (show dirSpc fs r n = ⟨3, -1, [r]⟩ by unfold dirSpc; rw [hd]; rfl)
    clear hd
    go_enter Tryz.func225, Tryz.ntmps225
    go_wp2_with (go_at_call 228; refine (impl_dirIsThere _ fs D r n _ (Hr.out.below (by (repeat (with_reducible first | exact Below.refl _ _ | assumption | refine ba ?_ _ | refine bd ?_ | refine bdN ?_ _ | refine bs ?_ (by first | exact Nat.le_refl _ | (dsimp only; omega) | (simp; done)) _ | refine bt ?_ (by assumption))))) Hz.out (by omega) (by omega)).mono ?_; rintro _ w5 ⟨rfl, hb5⟩; obtain ⟨hc, hf, hs⟩ := bcell hb5; have hz5 := hb5.size; rw [← He.out, Hd.out])
    refine bodyPost_ret (v := .agg #[.int .i64 3, .int .i64 (-1), .slice (some ⟨w5.heap.size, 0, none⟩) 1 1]) (by simp [results, Tryz.results225, go_sem, hc, hs]) rfl ?_
    rw [Hs.out]
    refine ⟨_, rfl, ?_, by (repeat (with_reducible first | exact Below.refl _ _ | assumption | refine ba ?_ _ | refine bd ?_ | refine bdN ?_ _ | refine bs ?_ (by first | exact Nat.le_refl _ | (dsimp only; omega) | (simp; done)) _ | refine bt ?_ (by assumption)))⟩
    exact lit_own #[.int .i64 r] 1 (by simp) (by simp at hz5; omega) (by unfold maxLen; omega) rfl

set_option maxRecDepth 100000 in
set_option maxHeartbeats 1000000 in
theorem impl_findModule (v : Value) (fs : List Fil) (D : Nat → Prop) (r : Int) (n : Bs) (w : World) (hr : FilsIn w D v fs) (hn : vn n = true) :
    Calls Tryz.prog 224 #[.agg #[v], .int .i64 r, .string (mk n)] w (NewSpc 3 (modSpc fs r n) w) := by
  have Hr := Lib.hid hr
  have hnl := vn_len hn
  obtain ⟨aa, ca, rfl, hl, hm⟩ := hr.len
  have hge := firstAt_ge fs (r, parent n, last n, false)
  have ep := parentOf_of hn
  have el : lastOf n = last n := by unfold lastOf; rw [if_pos hn]
  have Hx := Lib.hid (Boxed2.start w #[.slice aa fs.length ca] 31 #[.int .i64 0, .int .i64 0, .slice none 0 0] 63)
  clear hr hl hm hn
  obtain ⟨pn, hpn⟩ : ∃ pn, pn = parent n := ⟨_, rfl⟩
  obtain ⟨ln, hln⟩ : ∃ ln, ln = last n := ⟨_, rfl⟩
  rw [← hpn] at ep
  rw [← hln] at el
  rw [← hpn, ← hln] at hge
  obtain ⟨j, hj⟩ : ∃ j, j = firstAt fs (r, pn, ln, false) := ⟨_, rfl⟩
  have Hmod := Lib.hid (show modSpc fs r n = if 0 ≤ j then ⟨1, j, []⟩ else noSpc by unfold modSpc; rw [hj, hpn, hln])
  have Hep := Lib.hid ep
  have Hel := Lib.hid el
  have Hj := Lib.hid hj
  rw [← hj] at hge
  clear hj hpn hln ep el
  obtain ⟨W1, hW1⟩ : ∃ W1, W1 = (w.alloc (.cells #[.slice aa fs.length ca] 31)).alloc (.cells #[.int .i64 0, .int .i64 0, .slice none 0 0] 63) := ⟨_, rfl⟩
  have HW1 := Lib.hid hW1
  rw [← hW1] at Hx
  have k0 := cell_regrown (show W1.cell? ⟨w.heap.size, 0, none⟩ = some (.slice aa fs.length ca) from Hx.out.one.cell 0)
  have r0 : W1.cell? ⟨w.heap.size + 1, 0, none⟩ = some (.int .i64 0) := Hx.out.cell 0
  have r1 : W1.cell? ⟨w.heap.size + 1, 1, none⟩ = some (.int .i64 0) := Hx.out.cell 1
  have r2 : W1.cell? ⟨w.heap.size + 1, 2, none⟩ = some (.slice none 0 0) := Hx.out.cell 2
  have q0 : ∀ o, W1.frozen? ⟨w.heap.size + 1, o, none⟩ = false := fun o => by
    rw [hW1]; simp [go_sem]
  have cM : ∀ d os, Calls Tryz.prog 227 #[.int .i64 r, .string (mk n), .bool false] (grow (redrawn W1 d) os) fun e w'' => e = .returned (.agg #[.int .i64 r, .string (mk pn), .string (mk ln), .bool false]) ∧ ∃ p : Regrown, w'' = grow (redrawn W1 p.d) p.os := fun d os =>
    Calls.regrown_of (by have h := impl_placeOfModuleM r n (grow (redrawn W1 d) os) (by omega); rw [Hep.out, Hel.out] at h; exact h)
  have cF : ∀ d os, Calls Tryz.prog 226 #[.agg #[.slice aa fs.length ca], .agg #[.int .i64 r, .string (mk pn), .string (mk ln), .bool false]] (grow (redrawn W1 d) os) fun e w'' => e = .returned (.int .i64 j) ∧ ∃ p : Regrown, w'' = grow (redrawn W1 p.d) p.os := fun d os =>
    Calls.regrown_of (by have h := impl_fileAt _ fs D _ (r, pn, ln, false) (grow (redrawn W1 d) os) rfl (Hr.out.below (bt Hx.out.below (below_regrown W1 d os))); rw [← Hj.out] at h; exact h)
  clear hW1
  go_enter Tryz.func224, Tryz.ntmps224
  go_wp2_with fail
  rw [← HW1.out]
  refine wp_region_quiet_below (by kernel_rfl) (by kernel_rfl) ?_
  repeat (go_big_quiet_step (first | exact cM _ _ | exact cF _ _))
  refine wpQuiet_nil ?_
  intro _ hw'
  obtain ⟨⟨dq, osq⟩, hw2⟩ := hw'
  have hb5 : Below W1.heap.size W1 _ := below_regrown W1 dq osq
  rw [← hw2] at hb5
  clear hw2 cM cF k0
  rename_i w5
  obtain ⟨hc, hf, hs⟩ := bcell hb5
  have Hb5 := Lib.hid (bt Hx.out.below hb5)
  have hlt := Hx.out.lt
  have e0 := (hc (w.heap.size + 1) 0 hlt).trans r0
  have e1 := (hc (w.heap.size + 1) 1 hlt).trans r1
  have e2 := (hc (w.heap.size + 1) 2 hlt).trans r2
  have g0 : ∀ o, w5.frozen? ⟨w.heap.size + 1, o, none⟩ = false := fun o => (hf _ o hlt).trans (q0 o)
  have g00 := g0 0
  have g01 := g0 1
  have g02 := g0 2
  have hs5 := hs _ hlt
  clear hc hf hs r0 r1 r2 q0 g0 hlt
  by_cases h : j = -1
  · subst h
    have Hs := Lib.hid (show modSpc fs r n = noSpc by rw [Hmod.out]; rfl)
    clear hge
    go_wp2_with (go_at_call 133; refine (impl_nothing _).mono ?_; rintro _ w6 ⟨rfl, hb6⟩; obtain ⟨hc6, hf6, hs6⟩ := bcell hb6)
    exact bodyPost_ret (v := .agg #[.int .i64 0, .int .i64 (-1), .slice none 0 0]) (by simp [results, Tryz.results224, go_sem, *]) rfl (noSpc_new Hs.out (bs (bs (bs (bt Hb5.out hb6) (by dsimp only; omega) _) (by dsimp only; omega) _) (by dsimp only; omega) _))
  · have hj0 : 0 ≤ j := by omega
    have hjb : (j == -1) = false := by rw [beq_eq_false_iff_ne]; exact h
    have Hs := Lib.hid (show modSpc fs r n = ⟨1, j, []⟩ by rw [Hmod.out, if_pos hj0])
    clear hge h
    go_wp2_with fail
    refine bodyPost_ret (v := .agg #[.int .i64 1, .int .i64 j, .slice none 0 0]) (by simp [results, Tryz.results224, go_sem, *]) rfl ?_
    rw [Hs.out]
    exact ⟨_, rfl, World.ownsRow_nil _ _ _ _, bs (bs (bs Hb5.out (by dsimp only; omega) _) (by dsimp only; omega) _) (by dsimp only; omega) _⟩
end Go.Proofs.YtcmnldomcpjlcaaGreat
