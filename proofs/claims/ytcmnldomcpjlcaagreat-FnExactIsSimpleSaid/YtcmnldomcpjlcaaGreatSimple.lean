/- Bodies that are simple: contracts of both sides. -/
import Derived.Test.YtcmnldomcpjlcaaGreatRangeC
import Derived.Test.YtcmnldomcpjlcaaGreatSReach
import Derived.Test.YtcmnldomcpjlcaaGreatBoxS
set_option linter.unusedVariables false
set_option linter.unusedSimpArgs false
namespace Go.Proofs.YtcmnldomcpjlcaaGreat
open Go.RowKit Go.Proofs.YtcmnldomcpjlcaaGreat.Nm
def simpleKind (k : Int) : Bool := decide (k = 0 ∨ k = 2 ∨ k = 3)
theorem simpleBody_eq (b : List Stm) : simpleBody b = b.all (fun s => simpleKind s.kind) := rfl
set_option maxRecDepth 100000 in
set_option maxHeartbeats 1000000 in
theorem impl_isSimple1 (k lv x : Int) (m n : Bs) (w : World) :
    Calls Tryz.prog 126 #[.agg #[.int .i64 k, .string (mk m), .int .i64 lv, .string (mk n), .int .i64 x]] w fun e w' => e = .returned (.bool (!simpleKind k)) ∧ Below w.heap.size w w' := by
  by_cases h0 : k = 0
  · subst h0
    go_enter Tryz.func126, Tryz.ntmps126
    go_wp2_with fail
    go_ret
    exact ⟨rfl, by (repeat (with_reducible first | exact Below.refl _ _ | assumption | refine ba ?_ _ | refine bd ?_ | refine bdN ?_ _ | refine bs ?_ (by first | exact Nat.le_refl _ | (dsimp only; omega) | (simp; done)) _ | refine bt ?_ (by assumption)))⟩
  by_cases h2 : k = 2
  · subst h2
    clear h0
    go_enter Tryz.func126, Tryz.ntmps126
    go_wp2_with fail
    go_ret
    exact ⟨rfl, by (repeat (with_reducible first | exact Below.refl _ _ | assumption | refine ba ?_ _ | refine bd ?_ | refine bdN ?_ _ | refine bs ?_ (by first | exact Nat.le_refl _ | (dsimp only; omega) | (simp; done)) _ | refine bt ?_ (by assumption)))⟩
  by_cases h3 : k = 3
  · subst h3
    clear h0 h2
    go_enter Tryz.func126, Tryz.ntmps126
    go_wp2_with fail
    go_ret
    exact ⟨rfl, by (repeat (with_reducible first | exact Below.refl _ _ | assumption | refine ba ?_ _ | refine bd ?_ | refine bdN ?_ _ | refine bs ?_ (by first | exact Nat.le_refl _ | (dsimp only; omega) | (simp; done)) _ | refine bt ?_ (by assumption)))⟩
  have Hs := Lib.hid (show (!simpleKind k) = true by unfold simpleKind; simp [h0, h2, h3])
  have e0 : (k != (0 : Int)) = true := by simp [h0]
  have e2 : (k != (2 : Int)) = true := by simp [h2]
  have e3 : (k != (3 : Int)) = true := by simp [h3]
  have f0 : (k == (0 : Int)) = false := by simp [h0]
  have f2 : (k == (2 : Int)) = false := by simp [h2]
  have f3 : (k == (3 : Int)) = false := by simp [h3]
  clear h0 h2 h3
  go_enter Tryz.func126, Tryz.ntmps126
  go_wp2_with fail
  go_ret
  rw [Hs.out]
  exact ⟨rfl, by (repeat (with_reducible first | exact Below.refl _ _ | assumption | refine ba ?_ _ | refine bd ?_ | refine bdN ?_ _ | refine bs ?_ (by first | exact Nat.le_refl _ | (dsimp only; omega) | (simp; done)) _ | refine bt ?_ (by assumption)))⟩
set_option maxRecDepth 100000 in
set_option maxHeartbeats 1000000 in
theorem slices_IndexFuncS (v : Value) (D : Nat → Prop) (ss : List Stm) (w : World) (hr : StmsIn w D v ss) :
    Calls Tryz.prog 162 #[v, .func (.func 126) #[] #[]] w
      fun e w' => (∃ n : Int, e = .returned (.int .i64 n) ∧ (decide (0 ≤ n) = !simpleBody ss)) ∧ Below w.heap.size w w' := by
  have Hr := Lib.hid hr
  obtain ⟨aa, ca, rfl, hl, hm⟩ := hr.len
  unfold maxLen at hm
  clear hr
  go_enter Tryz.func162, Tryz.ntmps162
  go_wp2_with fail
  go_loopw [8] (fun iv wr => ∃ k : Nat, k ≤ ss.length ∧ iv = .int .i64 k ∧ Below w.heap.size w wr ∧ ∀ j (h : j < ss.length), j < k → simpleKind ss[j].kind = true) (fun iv _ => ss.length - (intOf iv).toNat)
  case atStart => exact ⟨0, by omega, rfl, Below.refl _ _, fun i _ h => absurd h (by omega)⟩
  case round =>
    obtain ⟨k, hk, rfl, hbel, ha⟩ := hrel
    have Ha := Lib.hid ha
    clear ha
    by_cases hlt : k < ss.length
    · obtain ⟨b, off, cap, e, hD, hb, c0, c1, c2, c3, c4⟩ := (Hr.out.below hbel).at_ hlt
      simp only [Value.slice.injEq] at e
      obtain ⟨rfl, hnn, rfl⟩ := e
      have Hbad := Lib.hid (fun (h : simpleKind ss[k].kind = false) => (show (!simpleBody ss) = true by
        rw [simpleBody_eq]
        cases e : ss.all (fun s => simpleKind s.kind)
        · rfl
        · have := List.all_eq_true.1 e _ (List.getElem_mem hlt); rw [h] at this; cases this))
      have Hgood := Lib.hid (fun (h : simpleKind ss[k].kind = true) j (hj : j < ss.length) (hjk : j < k + 1) => (by
        by_cases e : j = k
        · subst e; exact h
        · exact Ha.out j hj (by omega) : simpleKind ss[j].kind = true))
      clear hnn
      obtain ⟨st, hst⟩ : ∃ st, st = ss[k] := ⟨_, rfl⟩
      rw [← hst] at c0 c1 c2 c3 c4 Hbad
      have Hst := Lib.hid hst
      clear hst
      obtain ⟨sk, sm, sl, sn, sx⟩ := st
      dsimp only at c0 c1 c2 c3 c4
      cases hq : simpleKind sk
      · have Hq := Lib.hid hq
        have Hb2 := Lib.hid (Hbad.out hq)
        clear hq
        go_wp2_with (go_at_call 126; refine (impl_isSimple1 sk sl sx sm sn _).mono ?_; rintro _ w6 ⟨rfl, hb6⟩; rw [Hq.out])
        go_ret
        refine ⟨⟨_, rfl, ?_⟩, by (repeat (with_reducible first | exact Below.refl _ _ | assumption | refine ba ?_ _ | refine bd ?_ | refine bdN ?_ _ | refine bs ?_ (by first | exact Nat.le_refl _ | (dsimp only; omega) | (simp; done)) _ | refine bt ?_ (by assumption)))⟩
        rw [Hb2.out]; exact decide_eq_true (by omega)
      · have Hq := Lib.hid hq
        clear hq
        go_wp2_with (go_at_call 126; refine (impl_isSimple1 sk sl sx sm sn _).mono ?_; rintro _ w6 ⟨rfl, hb6⟩; rw [Hq.out])
        go_roundw
        case rel => exact ⟨k + 1, by omega, by go_num, by (repeat (with_reducible first | exact Below.refl _ _ | assumption | refine ba ?_ _ | refine bd ?_ | refine bdN ?_ _ | refine bs ?_ (by first | exact Nat.le_refl _ | (dsimp only; omega) | (simp; done)) _ | refine bt ?_ (by assumption))), Hgood.out (by rw [← Hst.out]; exact Hq.out)⟩
        case measure => simp [intOf]; omega
    · have Hv := Lib.hid (show simpleBody ss = true by
        rw [simpleBody_eq, List.all_eq_true]
        intro x hx
        obtain ⟨j, hj, e⟩ := List.getElem_of_mem hx
        have := Ha.out j hj (by omega)
        rw [e] at this; exact this)
      go_wp2_with fail
      go_ret
      exact ⟨⟨_, rfl, by rw [Hv.out]; rfl⟩, hbel⟩
set_option maxRecDepth 100000 in
set_option maxHeartbeats 1000000 in
theorem impl_isSimple (v : Value) (D : Nat → Prop) (ss : List Stm) (w : World) (hr : StmsIn w D v ss) :
    Calls Tryz.prog 79 #[v] w fun e w' => e = .returned (.bool (simpleBody ss)) ∧ Below w.heap.size w w' := by
  have Hr := Lib.hid hr
  obtain ⟨aa, ca, rfl, hl, hm⟩ := hr.len
  clear hr hl hm
  have hc : Calls Tryz.prog 125 #[.slice aa ss.length ca, .func (.func 126) #[] #[]] w fun e w' => e = .returned (.bool (!simpleBody ss)) ∧ Below w.heap.size w w' := by
    generalize hsb : simpleBody ss = sb at *
    have Hsb := Lib.hid hsb
    clear hsb
    go_enter Tryz.func125, Tryz.ntmps125
    go_wp2_with (go_at_call 162; refine (slices_IndexFuncS _ D ss _ Hr.out).mono ?_; rintro _ w6 ⟨⟨n6, rfl, hn6⟩, hb6⟩; rw [Hsb.out] at hn6; have Hn6 := Lib.hid hn6; clear hn6)
    go_ret
    exact ⟨ret_bool Hn6.out, by (repeat (with_reducible first | exact Below.refl _ _ | assumption | refine ba ?_ _ | refine bd ?_ | refine bdN ?_ _ | refine bs ?_ (by first | exact Nat.le_refl _ | (dsimp only; omega) | (simp; done)) _ | refine bt ?_ (by assumption)))⟩
  have Hc := Lib.hid hc
  clear hc
  generalize simpleBody ss = sb at *
  go_enter Tryz.func79, Tryz.ntmps79
  go_wp2_with (go_at_call 125; refine Hc.out.mono ?_; rintro _ w6 ⟨rfl, hb6⟩)
  go_ret
  exact ⟨ret_bool (by simp), by (repeat (with_reducible first | exact Below.refl _ _ | assumption | refine ba ?_ _ | refine bd ?_ | refine bdN ?_ _ | refine bs ?_ (by first | exact Nat.le_refl _ | (dsimp only; omega) | (simp; done)) _ | refine bt ?_ (by assumption)))⟩
theorem simpleAt_get {fs : List Fil} {path : List Int} {s : Bs} {f : Fil} (h : (fileFor fs path s = some f) ∨ (fileFor fs path s = none ∧ f = zeroFil)) : simpleAt fs path s = simpleBody f.body := by
  rcases h with h | ⟨h, rfl⟩
  · unfold simpleAt; rw [h]
  · unfold simpleAt; rw [h]; rfl
theorem fldF5 (a : Int) (b c : Bs) (d : Bool) (e : Int) (o : Option Addr) (n m : Nat) (w : World) : (Instr.field 79 (.agg #[.int .i64 a, .string (mk b), .string (mk c), .bool d, .int .i64 e, .slice o n m]) 5).run Tryz.prog w = .ok (.slice o n m) w := by kernel_rfl
theorem isSimple_no {t : List Fil} {path : List Int} {s : Bs} (h : okLook t path = false ∨ vn s = false) : isSimple t path s = false := by
  unfold isSimple; rcases h with h | h <;> rw [h] <;> simp
set_option maxRecDepth 100000 in
set_option maxHeartbeats 4000000 in
theorem impl_IsSimple (v : Value) (fs : List Fil) (D : Nat → Prop) (pv : Value) (path : List Int) (s : Bs) (w : World) (hr : FilsIn w D v fs) (hz : ShortT 2000000 fs) (hp : IntsIn w pv path) (hsl : s.length ≤ 8000000) :
    Calls Tryz.prog 31 #[.agg #[v], pv, .string (mk s)] w fun e w' => e = .returned (.bool (isSimple fs path s)) ∧ Below w.heap.size w w' := by
  have Hr := Lib.hid hr
  have Hz := Lib.hid hz
  have Hp := Lib.hid hp
  obtain ⟨aa, ca, rfl, hl, hm⟩ := hr.len
  clear hr hz hp hl hm
  obtain ⟨L, hL⟩ : ∃ L, L = reachOf fs path s := ⟨_, rfl⟩
  have hf := reachOf_facts fs path s
  rw [← hL] at hf
  have hL3 := hf.1
  have Hv := Lib.hid (fun x hx => (show x.length ≤ 8000000 from Nat.le_trans (vn_len (hf.2.1 x hx)) (by omega)))
  have Hsi := Lib.hid (show isSimple fs path s = (L.all (simpleAt fs path) && decide (0 < L.length)) by
    by_cases h0 : L = []
    · rw [h0]
      have h1 : reachOf fs path s = [] := hL.symm.trans h0
      cases h2 : okLook fs path
      · rw [isSimple_no (.inl h2)]; rfl
      · cases h3 : vn s
        · rw [isSimple_no (.inr h3)]; rfl
        · have := (reachOf_mem (s := s) h2).2 (self_reach h3)
          rw [h1] at this; simp at this
    · obtain ⟨h1, h2⟩ := reachOf_ne (t := fs) (path := path) (s := s) (by rw [← hL]; exact h0)
      unfold isSimple
      rw [h1, h2, ← hL, decide_eq_true (List.length_pos_iff.2 h0)]; simp)
  have HL := Lib.hid hL.symm
  clear hL hf
  go_enter Tryz.func31, Tryz.ntmps31
  go_wp2_with (first
    | (go_at_call 69; refine (impl_reached _ fs D _ path s _ (Hr.out.below (by (repeat (with_reducible first | exact Below.refl _ _ | assumption | refine ba ?_ _ | refine bd ?_ | refine bdN ?_ _ | refine bs ?_ (by first | exact Nat.le_refl _ | (dsimp only; omega) | (simp; done)) _ | refine bt ?_ (by assumption))))) Hz.out (Hp.out.below (by (repeat (with_reducible first | exact Below.refl _ _ | assumption | refine ba ?_ _ | refine bd ?_ | refine bdN ?_ _ | refine bs ?_ (by first | exact Nat.le_refl _ | (dsimp only; omega) | (simp; done)) _ | refine bt ?_ (by assumption))))) hsl).mono ?_; rintro _ w5 ⟨g5, v5, rfl, ⟨D5, hg5⟩, hown5, hb5⟩; rw [HL.out] at hown5; obtain ⟨o5, rfl⟩ := hg5.shape; obtain ⟨a5, c5, rfl⟩ := owns_shape hown5; have Hown5 := Lib.hid hown5; have Hg5 := Lib.hid hg5; have Hb5 := Lib.hid (show Below w.heap.size w w5 by (repeat (with_reducible first | exact Below.refl _ _ | assumption | refine ba ?_ _ | refine bd ?_ | refine bdN ?_ _ | refine bs ?_ (by first | exact Nat.le_refl _ | (dsimp only; omega) | (simp; done)) _ | refine bt ?_ (by assumption)))); clear hown5 hb5 hg5))
  go_loopw [20] (fun kv wr => ∃ (k : Nat), k ≤ L.length ∧ kv = .int .i64 k ∧ Below w5.heap.size w5 wr ∧ ∀ j (h : j < L.length), j < k → simpleAt fs path L[j] = true) (fun kv _ => L.length - (intOf kv).toNat)
  case atStart => exact ⟨0, by omega, rfl, Below.refl _ _, fun i _ h => absurd h (by omega)⟩
  case round =>
    obtain ⟨k, hk, rfl, hbel, ha⟩ := hrel
    have Ha := Lib.hid ha
    have Hbel := Lib.hid hbel
    clear ha hbel
    by_cases hlt : k < L.length
    · obtain ⟨b, off, cap, e, _, _, hbl, hc⟩ := Reads.some (Reads.below (Reads.of_owns Hown5.out) Hbel.out) (by omega)
      simp only [Value.slice.injEq] at e
      obtain ⟨rfl, hnn, rfl⟩ := e
      have c0 := hc k hlt
      have hml := Hv.out _ (List.getElem_mem hlt)
      have Hbad := Lib.hid (fun (h : simpleAt fs path L[k] = false) => (show isSimple fs path s = false by
        rw [Hsi.out]
        cases e : L.all (simpleAt fs path)
        · rfl
        · have := List.all_eq_true.1 e _ (List.getElem_mem hlt); rw [h] at this; cases this))
      have Hgood := Lib.hid (fun (h : simpleAt fs path L[k] = true) j (hj : j < L.length) (hjk : j < k + 1) => (by
        by_cases e : j = k
        · subst e; exact h
        · exact Ha.out j hj (by omega) : simpleAt fs path L[j] = true))
      clear hnn hc
      obtain ⟨n, hn⟩ : ∃ n, n = L[k] := ⟨_, rfl⟩
      rw [← hn] at c0 hml Hbad
      have Hn := Lib.hid hn
      clear hn
      obtain ⟨f, fa, fc, hget, hbody, hff⟩ := (Hg5.out.below Hbel.out).look n hml
      have Hsa := Lib.hid (simpleAt_get hff)
      have Hbody := Lib.hid hbody
      clear hbody hff
      obtain ⟨fr, fp, fn, fi, fst, fb⟩ := f
      dsimp only at Hsa Hbody hget
      simp only [filAgg] at hget
      have hf5 := fldF5
      cases hq : simpleBody fb
      · have Hq := Lib.hid hq
        have Hb2 := Lib.hid (Hbad.out (Hsa.out.trans hq))
        clear hq
        go_wp2_with (go_at_call 79; refine (impl_isSimple _ _ fb _ Hbody.out).mono ?_; rintro _ w6 ⟨rfl, hb6⟩; rw [Hq.out]; have Hb6 := Lib.hid (show Below wr.heap.size wr w6 by (repeat (with_reducible first | exact Below.refl _ _ | assumption | refine ba ?_ _ | refine bd ?_ | refine bdN ?_ _ | refine bs ?_ (by first | exact Nat.le_refl _ | (dsimp only; omega) | (simp; done)) _ | refine bt ?_ (by assumption)))); clear hb6)
        go_ret
        exact ⟨ret_bool Hb2.out.symm, bt Hb5.out (bt Hbel.out Hb6.out)⟩
      · have Hq := Lib.hid hq
        have Hg2 := Lib.hid (Hgood.out (by rw [← Hn.out]; exact Hsa.out.trans hq))
        clear hq
        go_wp2_with (go_at_call 79; refine (impl_isSimple _ _ fb _ Hbody.out).mono ?_; rintro _ w6 ⟨rfl, hb6⟩; rw [Hq.out]; have Hb6 := Lib.hid (show Below wr.heap.size wr w6 by (repeat (with_reducible first | exact Below.refl _ _ | assumption | refine ba ?_ _ | refine bd ?_ | refine bdN ?_ _ | refine bs ?_ (by first | exact Nat.le_refl _ | (dsimp only; omega) | (simp; done)) _ | refine bt ?_ (by assumption)))); clear hb6)
        go_roundw
        case rel => exact ⟨k + 1, by omega, by go_num, bt Hbel.out Hb6.out, Hg2.out⟩
        case measure => simp [intOf]; omega
    · have Hall := Lib.hid (show L.all (simpleAt fs path) = true by
        rw [List.all_eq_true]
        intro x hx
        obtain ⟨j, hj, e⟩ := List.getElem_of_mem hx
        have := Ha.out j hj (by omega)
        rw [e] at this; exact this)
      go_wp2_with fail
      go_ret
      refine ⟨ret_bool ?_, bt Hb5.out Hbel.out⟩
      rw [Hsi.out, Hall.out]
      simp
/-! ### The reference (written by mkssimple.py). -/
set_option maxRecDepth 100000 in
set_option maxHeartbeats 1000000 in
theorem spec_simple (v : Value) (D : Nat → Prop) (ss : List Stm) (w : World) (hr : StmsIn w D v ss) :
    Calls Tryz.prog 78 #[v] w fun e w' => e = .returned (.bool (simpleBody ss)) ∧ Below w.heap.size w w' := by
  have Hr := Lib.hid hr
  obtain ⟨aa, ca, rfl, hl, hm⟩ := hr.len
  unfold maxLen at hm
  clear hr
  go_enter Tryz.func78, Tryz.ntmps78
  go_wp2_with fail
  go_loopw [3] (fun iv wr => ∃ k : Nat, k ≤ ss.length ∧ iv = .int .i64 k ∧ Below w.heap.size w wr ∧ ∀ j (h : j < ss.length), j < k → simpleKind ss[j].kind = true) (fun iv _ => ss.length - (intOf iv).toNat)
  case atStart => exact ⟨0, by omega, rfl, Below.refl _ _, fun i _ h => absurd h (by omega)⟩
  case round =>
    obtain ⟨k, hk, rfl, hbel, ha⟩ := hrel
    have Ha := Lib.hid ha
    clear ha
    by_cases hlt : k < ss.length
    · obtain ⟨b, off, cap, e, hD, hb, c0, c1, c2, c3, c4⟩ := (Hr.out.below hbel).at_ hlt
      simp only [Value.slice.injEq] at e
      obtain ⟨rfl, hnn, rfl⟩ := e
      have hk1 : (k : Int) < (ss.length : Int) := by omega
      have hk0 : (0 : Int) ≤ (k : Int) := by omega
      have Hbad := Lib.hid (fun (h : simpleKind ss[k].kind = false) => (show simpleBody ss = false by
        rw [simpleBody_eq]
        cases e : ss.all (fun s => simpleKind s.kind)
        · rfl
        · have := List.all_eq_true.1 e _ (List.getElem_mem hlt); rw [h] at this; cases this))
      have Hgood := Lib.hid (fun (h : simpleKind ss[k].kind = true) j (hj : j < ss.length) (hjk : j < k + 1) => (by
        by_cases e : j = k
        · subst e; exact h
        · exact Ha.out j hj (by omega) : simpleKind ss[j].kind = true))
      clear hnn c1 c2 c3 c4
      obtain ⟨sk, hsk⟩ : ∃ x, x = ss[k].kind := ⟨_, rfl⟩
      rw [← hsk] at c0 Hbad
      have Hsk := Lib.hid hsk
      clear hsk
      by_cases h0 : sk = 0
      · have Hg2 := Lib.hid (Hgood.out (by rw [← Hsk.out, h0]; rfl))
        subst h0
        go_wp2_with fail
        go_roundw
        case rel => exact ⟨k + 1, by omega, by go_num, by (repeat (with_reducible first | exact Below.refl _ _ | assumption | refine ba ?_ _ | refine bd ?_ | refine bdN ?_ _ | refine bs ?_ (by first | exact Nat.le_refl _ | (dsimp only; omega) | (simp; done)) _ | refine bt ?_ (by assumption))), Hg2.out⟩
        case measure => simp [intOf]; omega
      by_cases h2 : sk = 2
      · have Hg2 := Lib.hid (Hgood.out (by rw [← Hsk.out, h2]; rfl))
        subst h2
        go_wp2_with fail
        go_roundw
        case rel => exact ⟨k + 1, by omega, by go_num, by (repeat (with_reducible first | exact Below.refl _ _ | assumption | refine ba ?_ _ | refine bd ?_ | refine bdN ?_ _ | refine bs ?_ (by first | exact Nat.le_refl _ | (dsimp only; omega) | (simp; done)) _ | refine bt ?_ (by assumption))), Hg2.out⟩
        case measure => simp [intOf]; omega
      by_cases h3 : sk = 3
      · have Hg2 := Lib.hid (Hgood.out (by rw [← Hsk.out, h3]; rfl))
        subst h3
        go_wp2_with fail
        go_roundw
        case rel => exact ⟨k + 1, by omega, by go_num, by (repeat (with_reducible first | exact Below.refl _ _ | assumption | refine ba ?_ _ | refine bd ?_ | refine bdN ?_ _ | refine bs ?_ (by first | exact Nat.le_refl _ | (dsimp only; omega) | (simp; done)) _ | refine bt ?_ (by assumption))), Hg2.out⟩
        case measure => simp [intOf]; omega
      · have Hb2 := Lib.hid (Hbad.out (by unfold simpleKind; simp [h0, h2, h3]))
        have e0 : (sk != (0 : Int)) = true := by simp [h0]
        have e2 : (sk != (2 : Int)) = true := by simp [h2]
        have e3 : (sk != (3 : Int)) = true := by simp [h3]
        have f0 : (sk == (0 : Int)) = false := by simp [h0]
        have f2 : (sk == (2 : Int)) = false := by simp [h2]
        have f3 : (sk == (3 : Int)) = false := by simp [h3]
        clear h0 h2 h3
        go_wp2_with fail
        go_ret
        exact ⟨ret_bool Hb2.out.symm, by (repeat (with_reducible first | exact Below.refl _ _ | assumption | refine ba ?_ _ | refine bd ?_ | refine bdN ?_ _ | refine bs ?_ (by first | exact Nat.le_refl _ | (dsimp only; omega) | (simp; done)) _ | refine bt ?_ (by assumption)))⟩
    · have Hv := Lib.hid (show simpleBody ss = true by
        rw [simpleBody_eq, List.all_eq_true]
        intro x hx
        obtain ⟨j, hj, e⟩ := List.getElem_of_mem hx
        have := Ha.out j hj (by omega)
        rw [e] at this; exact this)
      go_wp2_with fail
      go_ret
      exact ⟨ret_bool Hv.out.symm, hbel⟩
theorem simpleAt_spec {fs : List Fil} {path : List Int} {n : Bs} (hl : okLook fs path = true) :
    ((byParts fs path n).file < 0 ∧ simpleAt fs path n = true) ∨ (∃ (k : Nat) (hk : k < fs.length), (byParts fs path n).file = (k : Int) ∧ simpleAt fs path n = simpleBody fs[k].body) := by
  have e : findSpec fs path n = byParts fs path n := by unfold findSpec; rw [if_pos hl]
  by_cases h : (byParts fs path n).file < 0
  · left; exact ⟨h, by unfold simpleAt; rw [fileFor_no (by rw [e]; exact h)]⟩
  · right
    have hb := (findSpec_ok fs path n).file
    rw [e] at hb
    obtain ⟨k, hk⟩ : ∃ k : Nat, (byParts fs path n).file = (k : Int) := ⟨_, (Int.toNat_of_nonneg (by omega)).symm⟩
    have hkl : k < fs.length := by omega
    exact ⟨k, hkl, hk, by unfold simpleAt; rw [fileFor_yes hkl (by rw [e]; exact hk)]⟩
set_option maxRecDepth 100000 in
set_option maxHeartbeats 8000000 in
theorem spec_IsSimple (v : Value) (fs : List Fil) (D : Nat → Prop) (pv : Value) (path : List Int) (s : Bs) (w : World) (hr : FilsIn w D v fs) (hz : ShortT 2000000 fs) (hp : IntsIn w pv path) (hsl : s.length ≤ 8000000) :
    Calls Tryz.prog 30 #[.agg #[v], pv, .string (mk s)] w fun e w' => e = .returned (.bool (isSimple fs path s)) ∧ Below w.heap.size w w' := by
  have Hr := Lib.hid hr
  have Hz := Lib.hid hz
  have Hz3 := Lib.hid (short2 (B := 3000000) (by omega) hz)
  have Hp := Lib.hid hp
  obtain ⟨aa, ca, rfl, hl, hm⟩ := hr.len
  obtain ⟨pa, pc, rfl, hl1, hm1⟩ := hp.len
  clear hr hz hp hl hm hl1 hm1
  have hf0 := fld0
  have hf1 := fld1
  have Hb0 := Lib.hid (Nm.Boxed.start w #[.slice aa fs.length ca] 31)
  cases h1 : okTree fs
  · have H1 := Lib.hid h1
    have Hn := Lib.hid (isSimple_no (t := fs) (path := path) (s := s) (.inl (by unfold okLook; rw [h1]; simp)))
    clear h1
    go_enter Tryz.func30, Tryz.ntmps30
    go_wp2_with (first
      | (go_at_call 61; refine (spec_validTree _ fs D _ (Hr.out.below (by have := Hb0.out.below; (repeat (with_reducible first | exact Below.refl _ _ | assumption | refine ba ?_ _ | refine bd ?_ | refine bdN ?_ _ | refine bs ?_ (by first | exact Nat.le_refl _ | (dsimp only; omega) | (simp; done)) _ | refine bt ?_ (by assumption))))) Hz3.out).mono ?_; rintro _ w5 ⟨rfl, hb5⟩; rw [H1.out]; have Hx5 := Lib.hid (Hb0.out.step hb5); clear hb5; have a0 : w5.cell? ⟨w.heap.size, 0, none⟩ = some (.slice aa fs.length ca) := Hx5.out.cell 0))
    go_ret
    have hbw := Hx5.out.below
    exact ⟨ret_bool Hn.out.symm, by (repeat (with_reducible first | exact Below.refl _ _ | assumption | refine ba ?_ _ | refine bd ?_ | refine bdN ?_ _ | refine bs ?_ (by first | exact Nat.le_refl _ | (dsimp only; omega) | (simp; done)) _ | refine bt ?_ (by assumption)))⟩
  cases h2 : okPath path
  · have H1 := Lib.hid h1
    have H2 := Lib.hid h2
    have Hn := Lib.hid (isSimple_no (t := fs) (path := path) (s := s) (.inl (by unfold okLook; rw [h2]; simp)))
    clear h1 h2
    go_enter Tryz.func30, Tryz.ntmps30
    go_wp2_with (first
      | (go_at_call 61; refine (spec_validTree _ fs D _ (Hr.out.below (by have := Hb0.out.below; (repeat (with_reducible first | exact Below.refl _ _ | assumption | refine ba ?_ _ | refine bd ?_ | refine bdN ?_ _ | refine bs ?_ (by first | exact Nat.le_refl _ | (dsimp only; omega) | (simp; done)) _ | refine bt ?_ (by assumption))))) Hz3.out).mono ?_; rintro _ w5 ⟨rfl, hb5⟩; rw [H1.out]; have Hx5 := Lib.hid (Hb0.out.step hb5); clear hb5; have a0 : w5.cell? ⟨w.heap.size, 0, none⟩ = some (.slice aa fs.length ca) := Hx5.out.cell 0)
      | (go_at_call 62; refine (spec_validPath _ path _ (Hp.out.below (by have := Hx5.out.below; (repeat (with_reducible first | exact Below.refl _ _ | assumption | refine ba ?_ _ | refine bd ?_ | refine bdN ?_ _ | refine bs ?_ (by first | exact Nat.le_refl _ | (dsimp only; omega) | (simp; done)) _ | refine bt ?_ (by assumption)))))).mono ?_; rintro _ w6 ⟨rfl, hb6⟩; rw [H2.out]; have Hx6 := Lib.hid (Hx5.out.step hb6); clear hb6; clear a0; have a0 : w6.cell? ⟨w.heap.size, 0, none⟩ = some (.slice aa fs.length ca) := Hx6.out.cell 0))
    go_ret
    have hbw := Hx6.out.below
    exact ⟨ret_bool Hn.out.symm, by (repeat (with_reducible first | exact Below.refl _ _ | assumption | refine ba ?_ _ | refine bd ?_ | refine bdN ?_ _ | refine bs ?_ (by first | exact Nat.le_refl _ | (dsimp only; omega) | (simp; done)) _ | refine bt ?_ (by assumption)))⟩
  cases h3 : vn s
  · have H1 := Lib.hid h1
    have H2 := Lib.hid h2
    have H3 := Lib.hid h3
    have Hn := Lib.hid (isSimple_no (t := fs) (path := path) (s := s) (.inr h3))
    clear h1 h2 h3
    go_enter Tryz.func30, Tryz.ntmps30
    go_wp2_with (first
      | (go_at_call 61; refine (spec_validTree _ fs D _ (Hr.out.below (by have := Hb0.out.below; (repeat (with_reducible first | exact Below.refl _ _ | assumption | refine ba ?_ _ | refine bd ?_ | refine bdN ?_ _ | refine bs ?_ (by first | exact Nat.le_refl _ | (dsimp only; omega) | (simp; done)) _ | refine bt ?_ (by assumption))))) Hz3.out).mono ?_; rintro _ w5 ⟨rfl, hb5⟩; rw [H1.out]; have Hx5 := Lib.hid (Hb0.out.step hb5); clear hb5; have a0 : w5.cell? ⟨w.heap.size, 0, none⟩ = some (.slice aa fs.length ca) := Hx5.out.cell 0)
      | (go_at_call 62; refine (spec_validPath _ path _ (Hp.out.below (by have := Hx5.out.below; (repeat (with_reducible first | exact Below.refl _ _ | assumption | refine ba ?_ _ | refine bd ?_ | refine bdN ?_ _ | refine bs ?_ (by first | exact Nat.le_refl _ | (dsimp only; omega) | (simp; done)) _ | refine bt ?_ (by assumption)))))).mono ?_; rintro _ w6 ⟨rfl, hb6⟩; rw [H2.out]; have Hx6 := Lib.hid (Hx5.out.step hb6); clear hb6; clear a0; have a0 : w6.cell? ⟨w.heap.size, 0, none⟩ = some (.slice aa fs.length ca) := Hx6.out.cell 0)
      | (go_at_call 63; refine (spec_validName s _ hsl).mono ?_; rintro _ w7 ⟨rfl, hb7⟩; rw [H3.out]; have Hx7 := Lib.hid (Hx6.out.step hb7); clear hb7; clear a0; have a0 : w7.cell? ⟨w.heap.size, 0, none⟩ = some (.slice aa fs.length ca) := Hx7.out.cell 0))
    go_ret
    have hbw := Hx7.out.below
    exact ⟨ret_bool Hn.out.symm, by (repeat (with_reducible first | exact Below.refl _ _ | assumption | refine ba ?_ _ | refine bd ?_ | refine bdN ?_ _ | refine bs ?_ (by first | exact Nat.le_refl _ | (dsimp only; omega) | (simp; done)) _ | refine bt ?_ (by assumption)))⟩
  have H1 := Lib.hid h1
  have H2 := Lib.hid h2
  have H3 := Lib.hid h3
  have hlk := okLook_of h1 h2
  have Hlk := Lib.hid hlk
  have h3l := okPath_len h2
  have hna : namesAbove s = above s := by simp [namesAbove, h3]
  obtain ⟨ns, hns⟩ : ∃ ns, ns = above s := ⟨_, rfl⟩
  have Hns := Lib.hid hns
  have hn3 : ns.length ≤ 3 := by rw [hns, ← hna]; exact namesAbove_le3 s
  have hn1 : 1 ≤ ns.length := by rw [hns]; exact List.length_pos_iff.2 (above_pos s)
  have Hnd := Lib.hid (show ns.Nodup by rw [hns, ← hna]; exact namesAbove_nodup s)
  have Hnv := Lib.hid (show ∀ x ∈ ns, vn x = true by rw [hns]; exact above_vn h3)
  obtain ⟨L, hL⟩ : ∃ L, L = reachAll fs path ns := ⟨_, rfl⟩
  have hLl : L.length ≤ 291 := by rw [hL]; have := reachAll_len (t := fs) (path := path) (okLook_tree Hlk.out) Hnd.out; omega
  have HL := Lib.hid hL
  have Hvl := Lib.hid (show ∀ x ∈ L, vn x = true by rw [hL]; exact reachAll_vn (fun x hx => by rw [hns] at hx; exact above_vn h3 x hx))
  have Hsi := Lib.hid (show isSimple fs path s = L.all (simpleAt fs path) by
    unfold isSimple
    rw [hlk, h3, Bool.eq_iff_iff]
    simp only [Bool.and_self, Bool.true_and, List.all_eq_true]
    constructor
    · intro h x hx; exact h x ((reachOf_mem hlk).2 (by rw [hna, ← hns, ← hL]; exact hx))
    · intro h x hx; exact h x (by have := (reachOf_mem hlk).1 hx; rw [hna, ← hns, ← hL] at this; exact this))
  clear h1 h2 h3 hna hns hL hlk
  go_enter Tryz.func30, Tryz.ntmps30
  go_wp2_with (first
    | (go_at_call 61; refine (spec_validTree _ fs D _ (Hr.out.below (by have := Hb0.out.below; (repeat (with_reducible first | exact Below.refl _ _ | assumption | refine ba ?_ _ | refine bd ?_ | refine bdN ?_ _ | refine bs ?_ (by first | exact Nat.le_refl _ | (dsimp only; omega) | (simp; done)) _ | refine bt ?_ (by assumption))))) Hz3.out).mono ?_; rintro _ w5 ⟨rfl, hb5⟩; rw [H1.out]; have Hx5 := Lib.hid (Hb0.out.step hb5); clear hb5; have a0 : w5.cell? ⟨w.heap.size, 0, none⟩ = some (.slice aa fs.length ca) := Hx5.out.cell 0)
    | (go_at_call 62; refine (spec_validPath _ path _ (Hp.out.below (by have := Hx5.out.below; (repeat (with_reducible first | exact Below.refl _ _ | assumption | refine ba ?_ _ | refine bd ?_ | refine bdN ?_ _ | refine bs ?_ (by first | exact Nat.le_refl _ | (dsimp only; omega) | (simp; done)) _ | refine bt ?_ (by assumption)))))).mono ?_; rintro _ w6 ⟨rfl, hb6⟩; rw [H2.out]; have Hx6 := Lib.hid (Hx5.out.step hb6); clear hb6; clear a0; have a0 : w6.cell? ⟨w.heap.size, 0, none⟩ = some (.slice aa fs.length ca) := Hx6.out.cell 0)
    | (go_at_call 63; refine (spec_validName s _ hsl).mono ?_; rintro _ w7 ⟨rfl, hb7⟩; rw [H3.out]; have Hx7 := Lib.hid (Hx6.out.step hb7); clear hb7; clear a0; have a0 : w7.cell? ⟨w.heap.size, 0, none⟩ = some (.slice aa fs.length ca) := Hx7.out.cell 0; have hlt7 := Hx7.out.lt))
  have Hbel7 := Lib.hid Hx7.out.below
  have Hk := Lib.hid (fun (w' : World) (hC : Below w7.heap.size w7 w') => (⟨(Hx7.out.step hC).cell 0, hC⟩ : w'.cell? ⟨w.heap.size, 0, none⟩ = some (.slice aa fs.length ca) ∧ Below w7.heap.size w7 w'))
  clear Hx6 Hx5
  go_region_held3 (fun w' => w'.cell? ⟨w.heap.size, 0, none⟩ = some (.slice aa fs.length ca) ∧ Below w7.heap.size w7 w')
    (first | exact Hk.out _ Hb10.out | exact Hk.out _ Hb9.out | exact Hk.out _ (by (repeat (with_reducible first | exact Below.refl _ _ | assumption | refine ba ?_ _ | refine bd ?_ | refine bdN ?_ _ | refine bs ?_ (by first | exact Nat.le_refl _ | (dsimp only; omega) | (simp; done)) _ | refine bt ?_ (by assumption)))))
    (first
      | (go_at_call 65; refine (spec_above s _ hsl).mono ?_; rintro _ w9 ⟨v9, rfl, hown9, hb9⟩; rw [← Hns.out] at hown9; obtain ⟨a9, c9, hv9⟩ := owns_shape hown9; subst hv9; have R9 := Lib.hid (Reads.of_owns hown9); have Hb9 := Lib.hid (show Below w7.heap.size w7 w9 by (repeat (with_reducible first | exact Below.refl _ _ | assumption | refine ba ?_ _ | refine bd ?_ | refine bdN ?_ _ | refine bs ?_ (by first | exact Nat.le_refl _ | (dsimp only; omega) | (simp; done)) _ | refine bt ?_ (by assumption)))); clear hown9 hb9)
      | (go_at_call 64; refine (spec_reach _ fs D _ path _ ns _ (Hr.out.below (bt Hbel7.out (by first | exact Hb9.out | (have := Hb9.out; (repeat (with_reducible first | exact Below.refl _ _ | assumption | refine ba ?_ _ | refine bd ?_ | refine bdN ?_ _ | refine bs ?_ (by first | exact Nat.le_refl _ | (dsimp only; omega) | (simp; done)) _ | refine bt ?_ (by assumption))))))) Hz.out Hlk.out (Hp.out.below (bt Hbel7.out (by first | exact Hb9.out | (have := Hb9.out; (repeat (with_reducible first | exact Below.refl _ _ | assumption | refine ba ?_ _ | refine bd ?_ | refine bdN ?_ _ | refine bs ?_ (by first | exact Nat.le_refl _ | (dsimp only; omega) | (simp; done)) _ | refine bt ?_ (by assumption))))))) (Reads.below R9.out (by (repeat (with_reducible first | exact Below.refl _ _ | assumption | refine ba ?_ _ | refine bd ?_ | refine bdN ?_ _ | refine bs ?_ (by first | exact Nat.le_refl _ | (dsimp only; omega) | (simp; done)) _ | refine bt ?_ (by assumption))))) hn1 (by omega) Hnd.out Hnv.out).mono ?_; rintro _ w10 ⟨v10, rfl, hown10, hb10⟩; rw [← HL.out] at hown10; obtain ⟨a10, c10, hv10⟩ := owns_shape hown10; subst hv10; have Hl10 := Lib.hid (Reads.of_owns hown10); have Hb10 := Lib.hid (Hb9.out.trans (hb10.mono Hb9.out.size)); clear hown10 hb10))
  have HX10 := Lib.hid (Hx7.out.step Hb10.out)
  clear a0 Hx7
  go_wp2_with fail
  go_loopw [8] (fun kv wr => ∃ (k : Nat), k ≤ L.length ∧ kv = .int .i64 k ∧ Nm.Boxed w #[.slice aa fs.length ca] 31 wr ∧ Reads wr (.slice a10 L.length c10) L ∧ ∀ j (h : j < L.length), j < k → simpleAt fs path L[j] = true) (fun kv _ => L.length - (intOf kv).toNat)
  case atStart => exact ⟨0, by omega, rfl, HX10.out, Hl10.out, fun i _ h => absurd h (by omega)⟩
  case round =>
    obtain ⟨k, hk, rfl, hbx, hlist, ha⟩ := hrel
    have Hbx := Lib.hid hbx
    have Hlist := Lib.hid hlist
    have Ha := Lib.hid ha
    have hsz := hbx.lt
    clear hbx hlist ha HX10 Hl10
    by_cases hlt : k < L.length
    · obtain ⟨gl, ol, cl, el, _, _, hgs, hcl⟩ := Reads.some Hlist.out (by omega)
      simp only [Value.slice.injEq] at el
      obtain ⟨rfl, _, rfl⟩ := el
      have hcj := hcl k hlt
      have Hvn := Lib.hid (Hvl.out _ (List.getElem_mem hlt))
      have hk1 : (k : Int) < (L.length : Int) := by omega
      have hk0 : (0 : Int) ≤ (k : Int) := by omega
      have hA : wr.cell? ⟨w.heap.size, 0, none⟩ = some (.slice aa fs.length ca) := Hbx.out.cell 0
      have Hbel := Lib.hid Hbx.out.below
      have Hbad := Lib.hid (fun (h : simpleAt fs path L[k] = false) => (show isSimple fs path s = false by
        rw [Hsi.out]
        cases e : L.all (simpleAt fs path)
        · rfl
        · have := List.all_eq_true.1 e _ (List.getElem_mem hlt); rw [h] at this; cases this))
      have Hgood := Lib.hid (fun (h : simpleAt fs path L[k] = true) j (hj : j < L.length) (hjk : j < k + 1) => (by
        by_cases e : j = k
        · subst e; exact h
        · exact Ha.out j hj (by omega) : simpleAt fs path L[j] = true))
      clear hcl
      obtain ⟨y, hy⟩ : ∃ y, y = L[k] := ⟨_, rfl⟩
      rw [← hy] at hcj Hvn Hbad
      have Hy := Lib.hid hy
      clear hy
      obtain ⟨sp, hsp⟩ : ∃ sp, sp = byParts fs path y := ⟨_, rfl⟩
      have hcase := simpleAt_spec (n := y) Hlk.out
      rw [← hsp] at hcase
      have Hcase := Lib.hid hcase
      have Hsp := Lib.hid hsp.symm
      clear hsp hcase
      have Hk := Lib.hid (fun (w' : World) (hC : Below wr.heap.size wr w') => (⟨(hC.cell (p := ⟨w.heap.size, 0, none⟩) hsz).trans hA, (hC.cell (p := ⟨gl, ol + k, none⟩) hgs).trans hcj, hC⟩ : w'.cell? ⟨w.heap.size, 0, none⟩ = some (.slice aa fs.length ca) ∧ w'.cell? ⟨gl, ol + k, none⟩ = some (.string (mk y)) ∧ Below wr.heap.size wr w'))
      go_upto_region 7 with fail
      go_cut [9] (fun s9 wx => ∃ (X : Nat) (a7 : Option Addr) (c7 : Nat), s9 = .pointer (some ⟨X, 0, none⟩) ∧ BoxC wx X #[.int .i64 sp.kind, .int .i64 sp.file, .slice a7 sp.roots.length c7] ∧ Below wr.heap.size wr wx)
      case first =>
        go_region_held3 (fun w' => w'.cell? ⟨w.heap.size, 0, none⟩ = some (.slice aa fs.length ca) ∧ w'.cell? ⟨gl, ol + k, none⟩ = some (.string (mk y)) ∧ Below wr.heap.size wr w')
          (exact Hk.out _ (by (repeat (with_reducible first | exact Below.refl _ _ | assumption | refine ba ?_ _ | refine bd ?_ | refine bdN ?_ _ | refine bs ?_ (by first | exact Nat.le_refl _ | (dsimp only; omega) | (simp; done)) _ | refine bt ?_ (by assumption)))))
          (first
            | (go_at_call 66; refine (spec_find _ fs D _ path y _ (Hr.out.below (bt Hbel.out (by (repeat (with_reducible first | exact Below.refl _ _ | assumption | refine ba ?_ _ | refine bd ?_ | refine bdN ?_ _ | refine bs ?_ (by first | exact Nat.le_refl _ | (dsimp only; omega) | (simp; done)) _ | refine bt ?_ (by assumption)))))) Hz.out (okLook_tree Hlk.out) Hvn.out (Hp.out.below (bt Hbel.out (by (repeat (with_reducible first | exact Below.refl _ _ | assumption | refine ba ?_ _ | refine bd ?_ | refine bdN ?_ _ | refine bs ?_ (by first | exact Nat.le_refl _ | (dsimp only; omega) | (simp; done)) _ | refine bt ?_ (by assumption)))))) (by omega)).mono ?_; rintro _ w9 ⟨v9, rfl, hown9, hb9⟩; rw [Hsp.out]; rw [Hsp.out] at hown9; obtain ⟨a9, k9, rfl⟩ := owns_shape hown9; clear hown9; (first | (have hxk := boxS_kept hb9; obtain ⟨xk0, xk1, xk2, xf0, xf1, xf2, xks⟩ := hxk) | (have hxk := boxS_kept (boxS_drew hb9); obtain ⟨xk0, xk1, xk2, xf0, xf1, xf2, xks⟩ := hxk) | skip)))
        all_goals (go_wp2_with fail; go_meet; refine ⟨_, a9, k9, rfl, ?_, ?_⟩)
        all_goals first
          | exact ((BoxC.start _ _ _).at (by first | rfl | simp))
          | exact boxS_set (((BoxC.start _ _ _).below hb9).at (by first | rfl | simp)) _ _ _
          | exact boxS_set (((BoxC.start _ _ _).below (boxS_drew hb9)).at (by first | rfl | simp)) _ _ _
          | ((repeat (with_reducible first | exact Below.refl _ _ | assumption | refine ba ?_ _ | refine bd ?_ | refine bdN ?_ _ | refine bs ?_ (by first | exact Nat.le_refl _ | (dsimp only; omega) | (simp; done)) _ | refine bt ?_ (by assumption))); done)
          | trace_state
      case rest =>
        obtain ⟨X, a7, c7, rfl, hX, hbX⟩ := hcut
        have HbX := Lib.hid hbX
        have x0 : wc.cell? ⟨X, 0, none⟩ = some (.int .i64 sp.kind) := hX.2 0
        have x1 : wc.cell? ⟨X, 1, none⟩ = some (.int .i64 sp.file) := hX.2 1
        have hA8 : wc.cell? ⟨w.heap.size, 0, none⟩ = some (.slice aa fs.length ca) := (Hk.out _ hbX).1
        clear hX hbX hA
        rcases Hcase.out with ⟨hneg, hyes⟩ | ⟨j, hj, hf, hbody⟩
        · have Hg2 := Lib.hid (Hgood.out (by rw [← Hy.out]; exact hyes))
          have hge : ¬ (0 : Int) ≤ sp.file := by omega
          clear hneg hyes
          go_wp2_with fail
          go_roundw
          case rel => exact ⟨k + 1, by omega, by go_num, Hbx.out.step HbX.out, Reads.below Hlist.out HbX.out, Hg2.out⟩
          case measure => simp [intOf]; omega
        · obtain ⟨b, off, cap, bv, e, hD, hb, hst, d0, d1, d2, d3, d4, d5⟩ := (Hr.out.below (bt Hbel.out HbX.out)).at_ hj
          simp only [Value.slice.injEq] at e
          obtain ⟨rfl, _, rfl⟩ := e
          have Hst := Lib.hid hst
          obtain ⟨sa, sc, rfl, _, _⟩ := hst.len
          rw [hf] at x1
          have hj1 : (j : Int) < (fs.length : Int) := by omega
          have hj0 : (0 : Int) ≤ (j : Int) := by omega
          have Hbo := Lib.hid hbody
          clear hst hf hbody d0 d1 d2 d3 d4
          generalize fs[j].body = fb at *
          cases hq : simpleBody fb
          · have Hq := Lib.hid hq
            have Hb2 := Lib.hid (Hbad.out (Hbo.out.trans hq))
            clear hq
            go_wp2_with (go_at_call 78; refine (spec_simple _ _ fb _ Hst.out).mono ?_; rintro _ w6 ⟨rfl, hb6⟩; rw [Hq.out]; have Hb6 := Lib.hid (show Below wc.heap.size wc w6 by (repeat (with_reducible first | exact Below.refl _ _ | assumption | refine ba ?_ _ | refine bd ?_ | refine bdN ?_ _ | refine bs ?_ (by first | exact Nat.le_refl _ | (dsimp only; omega) | (simp; done)) _ | refine bt ?_ (by assumption)))); clear hb6)
            go_ret
            exact ⟨ret_bool Hb2.out.symm, bt Hbel.out (bt HbX.out Hb6.out)⟩
          · have Hq := Lib.hid hq
            have Hg2 := Lib.hid (Hgood.out (by rw [← Hy.out]; exact Hbo.out.trans hq))
            clear hq
            go_wp2_with (go_at_call 78; refine (spec_simple _ _ fb _ Hst.out).mono ?_; rintro _ w6 ⟨rfl, hb6⟩; rw [Hq.out]; have Hb6 := Lib.hid (show Below wc.heap.size wc w6 by (repeat (with_reducible first | exact Below.refl _ _ | assumption | refine ba ?_ _ | refine bd ?_ | refine bdN ?_ _ | refine bs ?_ (by first | exact Nat.le_refl _ | (dsimp only; omega) | (simp; done)) _ | refine bt ?_ (by assumption)))); clear hb6)
            go_roundw
            case rel => exact ⟨k + 1, by omega, by go_num, Hbx.out.step (bt HbX.out Hb6.out), Reads.below Hlist.out (bt HbX.out Hb6.out), Hg2.out⟩
            case measure => simp [intOf]; omega
    · have Hall := Lib.hid (show L.all (simpleAt fs path) = true by
        rw [List.all_eq_true]
        intro x hx
        obtain ⟨j, hj, e⟩ := List.getElem_of_mem hx
        have := Ha.out j hj (by omega)
        rw [e] at this; exact this)
      go_wp2_with fail
      go_ret
      exact ⟨ret_bool (by rw [Hsi.out, Hall.out]), Hbx.out.below⟩
end Go.Proofs.YtcmnldomcpjlcaaGreat
