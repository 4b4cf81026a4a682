/- Contracts of the exact laws' looks at lists of texts: equal, marked, held, sized, copied. -/
import Derived.Test.YtcmnldomcpjlcaaGreatMarks
import Derived.Test.YtcmnldomcpjlcaaGreatVp
import Derived.Test.YtcmnldomcpjlcaaGreatIn
import Derived.OwnWalk
import Derived.Deep.RegionHeld3
import Derived.Deep.AppendLies
set_option linter.unusedVariables false
set_option linter.unusedSimpArgs false
namespace Go.Proofs.YtcmnldomcpjlcaaGreat
open Go.RowKit Go.Proofs.YtcmnldomcpjlcaaGreat.Nm

/-- n marks from k on. -/
def marks (k n : Nat) : List Bs := (List.range n).map (fun i => mt (k + i))
theorem marks_len (k n : Nat) : (marks k n).length = n := by simp [marks]
theorem marks_get (k n i : Nat) (h : i < (marks k n).length) : (marks k n)[i] = mt (k + i) := by simp [marks]
theorem marks_succ (k n : Nat) : marks k (n + 1) = marks k n ++ [mt (k + n)] := by simp [marks, List.range_succ]
theorem marks_set (k i : Nat) (xs : List Bs) (h : i < xs.length) : ((marks k i ++ xs.drop i).map sv).set i (sv (mt (k + i))) = (marks k (i + 1) ++ xs.drop (i + 1)).map sv := by
  rw [List.map_append, List.set_append_right _ _ (by simp [marks_len])]
  rw [List.length_map, marks_len, Nat.sub_self, List.drop_eq_getElem_cons h, List.map_cons, List.set_cons_zero, marks_succ, List.map_append, List.map_append, List.append_assoc]
  rfl

set_option maxRecDepth 100000 in
set_option maxHeartbeats 400000 in
theorem laws_eqStringS (va vb : Value) (xs ys : List Bs) (w : World) (ha : Reads w va xs) (hb : Reads w vb ys) (hx : xs.length ≤ 9500000) (hy : ys.length ≤ 9500000) :
    Calls Tryz.prog 19 #[va, vb] w fun e w' => e = .returned (.bool (decide (xs = ys))) ∧ Below w.heap.size w w' := by
  obtain ⟨aa, ca, rfl⟩ : ∃ a c, va = .slice a xs.length c := by
    rcases ha with ⟨rfl, rfl⟩ | ⟨b, off, cap, rfl, _⟩ <;> exact ⟨_, _, rfl⟩
  obtain ⟨ab, cb, rfl⟩ : ∃ a c, vb = .slice a ys.length c := by
    rcases hb with ⟨rfl, rfl⟩ | ⟨b, off, cap, rfl, _⟩ <;> exact ⟨_, _, rfl⟩
  by_cases hl : xs.length = ys.length
  · have Ha := Lib.hid ha
    have Hb := Lib.hid hb
    have Hl := Lib.hid hl
    clear ha hb
    rw [← hl]
    clear hl
    go_enter Tryz.func19, Tryz.ntmps19
    go_wp2_with fail
    go_loopw [5] (fun kv wr => ∃ k : Nat, k ≤ xs.length ∧ kv = .int .i64 k ∧ Below w.heap.size w wr ∧ ∀ i (h1 : i < xs.length) (h2 : i < ys.length), i < k → xs[i] = ys[i]) (fun kv _ => xs.length - (intOf kv).toNat)
    case atStart => exact ⟨0, by omega, rfl, Below.refl _ _, fun i _ _ h => absurd h (by omega)⟩
    case round =>
      obtain ⟨k, hk, rfl, hbel, hp⟩ := hrel
      have Hp := Lib.hid hp
      clear hp
      by_cases hlt : k < xs.length
      · have hlt2 : k < ys.length := by rw [← Hl.out]; exact hlt
        obtain ⟨b1, o1, c1, e1, _, _, hb1, hc1⟩ := Reads.some Ha.out (by omega)
        obtain ⟨b2, o2, c2, e2, _, _, hb2, hc2⟩ := Reads.some Hb.out (by omega)
        simp only [Value.slice.injEq] at e1 e2
        obtain ⟨rfl, _, rfl⟩ := e1
        obtain ⟨rfl, _, rfl⟩ := e2
        have hce1 := (hbel.cell (p := ⟨b1, o1 + k, none⟩) hb1).trans (hc1 k hlt)
        have hce2 := (hbel.cell (p := ⟨b2, o2 + k, none⟩) hb2).trans (hc2 k hlt2)
        have hki : (k : Int) < (xs.length : Int) := by omega
        have hk0 : (0 : Int) ≤ (k : Int) := by omega
        clear hc1 hc2
        by_cases heq : xs[k] = ys[k]
        · have Heq := Lib.hid heq
          rw [← heq] at hce2
          clear heq
          go_wp2_with fail
          go_quiet (fail)
          go_wp2_with fail
          go_roundw
          case rel =>
            refine ⟨k + 1, by omega, by go_num, below_drewN hbel _, fun i h1 h2 hi => ?_⟩
            by_cases e : i = k
            · subst e; exact Heq.out
            · exact Hp.out i h1 h2 (by omega)
          case measure => simp [intOf]; omega
        · have hne : (xs[k] == ys[k]) = false := by simpa using heq
          have hv : decide (xs = ys) = false := decide_eq_false (fun e => heq (by subst e; rfl))
          have Hv := Lib.hid hv
          clear hv heq
          generalize xs[k] = p at *
          generalize ys[k] = r at *
          go_wp2_with fail
          go_quiet (fail)
          go_wp2_with fail
          go_ret
          rw [Hv.out]
          exact ⟨rfl, below_drewN hbel _⟩
      · have hv : decide (xs = ys) = true := decide_eq_true (eq_getElem Hl.out (fun i h1 h2 => Hp.out i h1 h2 (by omega)))
        have Hv := Lib.hid hv
        clear hv
        go_wp2_with fail
        go_ret
        rw [Hv.out]
        exact ⟨rfl, hbel⟩
  · have hv : decide (xs = ys) = false := decide_eq_false (fun e => hl (by rw [e]))
    have Hv := Lib.hid hv
    have hlb : ((xs.length : Int) == (ys.length : Int)) = false := by rw [beq_eq_false_iff_ne]; omega
    clear hv hl
    generalize xs.length = n at *
    generalize ys.length = m at *
    go_enter Tryz.func19, Tryz.ntmps19
    go_wp2_with fail
    go_ret
    rw [Hv.out]
    exact ⟨rfl, Below.refl _ _⟩

set_option maxRecDepth 100000 in
set_option maxHeartbeats 1000000 in
theorem laws_heldStringS (v : Value) (n k : Nat) (w : World) (hr : Reads w v (marks k n)) (h1 : 1 ≤ k) (h9 : k + n ≤ 9000000) :
    Calls Tryz.prog 25 #[v, .int .i64 k] w fun e w' => e = .returned (.int .i64 ((k + n : Nat) : Int)) ∧ Below w.heap.size w w' := by
  have hl := marks_len k n
  obtain ⟨aa, ca, rfl⟩ : ∃ a c, v = .slice a n c := by
    rcases hr with ⟨rfl, h⟩ | ⟨b, off, cap, rfl, _⟩
    · rw [h] at hl; exact ⟨_, _, by simp at hl; rw [← hl]⟩
    · exact ⟨_, _, by rw [hl]⟩
  have Hr := Lib.hid hr
  have Hl := Lib.hid hl
  have H9 := Lib.hid h9
  have hn9 : n ≤ 9000000 := by omega
  clear hr hl h9
  go_enter Tryz.func25, Tryz.ntmps25
  go_wp2_with fail
  go_loopw [1, 5] (fun kv iv wr => ∃ i : Nat, i ≤ n ∧ iv = .int .i64 i ∧ kv = .int .i64 ((k + i : Nat) : Int) ∧ Below w.heap.size w wr) (fun _ iv _ => n - (intOf iv).toNat)
  case atStart => exact ⟨0, by omega, rfl, rfl, Below.refl _ _⟩
  case round =>
    obtain ⟨i, hi, rfl, rfl, hbel⟩ := hrel
    by_cases hlt : i < n
    · obtain ⟨b1, o1, c1, e1, _, _, hb1, hc1⟩ := Reads.some Hr.out (by rw [Hl.out]; omega)
      simp only [Value.slice.injEq] at e1
      obtain ⟨rfl, hdel, rfl⟩ := e1
      clear hdel
      have hcell0 := hc1 i (by rw [Hl.out]; exact hlt)
      rw [marks_get] at hcell0
      have hcell := (hbel.cell (p := ⟨b1, o1 + i, none⟩) hb1).trans hcell0
      have hb2 : b1 < wr.heap.size := Nat.lt_of_lt_of_le hb1 hbel.size
      have Hbel := Lib.hid hbel
      clear hc1 hcell0 hbel
      have hki : ((k + i : Nat) : Int) ≤ 9000000 := by have := H9.out; omega
      have hki1 : (1 : Int) ≤ ((k + i : Nat) : Int) := by omega
      obtain ⟨m, hm⟩ : ∃ m, m = k + i := ⟨_, rfl⟩
      rw [← hm] at hki hki1 hcell ⊢
      have Hm := Lib.hid hm
      have hm1 : 1 ≤ m := by omega
      have hm9 : m ≤ 9000000 := by have := H9.out; omega
      clear hm hki hki1
      obtain ⟨t, ht⟩ : ∃ t, t = mt m := ⟨_, rfl⟩
      rw [← ht] at hcell
      have Ht := Lib.hid ht
      clear ht
      have Hm9 := Lib.hid hm9
      have hi9 : (i : Int) ≤ 9000000 := by omega
      have hmi9 : (m : Int) ≤ 9000000 := by omega
      clear hm9 hn9
      go_wp2_with fail
      go_region_held3 (fun w' => w'.cell? ⟨b1, o1 + i, none⟩ = some (.string (mk t)) ∧ b1 < w'.heap.size ∧ Below w.heap.size w w')
        (first
          | exact ⟨hcell, hb2, Hbel.out⟩
          | exact ⟨hcell, hb2, Hbel.out.drew⟩
          | exact ⟨(hbm.cell (p := ⟨b1, o1 + i, none⟩) hb2).trans hcell, Nat.lt_of_lt_of_le hb2 hbm.size, bt Hbel.out hbm⟩
          | exact ⟨(hbm.cell (p := ⟨b1, o1 + i, none⟩) hb2).trans hcell, Nat.lt_of_lt_of_le hb2 hbm.size, bt Hbel.out.drew hbm⟩)
        (first | (go_at_call 73; refine (laws_markText m _ hm1 Hm9.out).mono ?_; rintro e w' ⟨rfl, hbm⟩; rw [← Ht.out]))
      have Hb3 := Lib.hid (bt Hbel.out.drew hbm)
      go_wp2_with fail
      go_roundw
      case rel => exact ⟨i + 1, by omega, by go_num, by rw [Hm.out]; go_num, Hb3.out⟩
      case measure => simp [intOf]; omega
    · obtain rfl : i = n := by omega
      go_wp2_with fail
      go_ret
      exact ⟨rfl, hbel⟩

set_option maxRecDepth 100000 in
set_option maxHeartbeats 1000000 in
theorem laws_markStringS (B : Nat) (v : Value) (xs : List Bs) (k : Nat) (w : World) (hown : w.ownsRow B 9 1 v xs.length (xs.map sv)) (hB : B ≤ w.heap.size) (h1 : 1 ≤ k) (h9 : k + xs.length ≤ 9000000) :
    Calls Tryz.prog 24 #[v, .int .i64 k] w fun e w' => e = .returned (.int .i64 ((k + xs.length : Nat) : Int)) ∧ w'.ownsRow B 9 1 v xs.length ((marks k xs.length).map sv) ∧ Below B w w' := by
  obtain ⟨aa, ca, rfl⟩ := owns_shape hown
  have Hown := Lib.hid hown
  have H9 := Lib.hid h9
  have hn9 : xs.length ≤ 9000000 := by omega
  clear hown h9
  go_enter Tryz.func24, Tryz.ntmps24
  go_wp2_with fail
  go_loopw [1, 5] (fun kv iv wr => ∃ i : Nat, i ≤ xs.length ∧ iv = .int .i64 i ∧ kv = .int .i64 ((k + i : Nat) : Int) ∧ wr.ownsRow B 9 1 (.slice aa xs.length ca) xs.length ((marks k i ++ xs.drop i).map sv) ∧ Below B w wr) (fun _ iv _ => xs.length - (intOf iv).toNat)
  case atStart => exact ⟨0, by omega, rfl, rfl, by simpa [marks] using Hown.out, Below.refl _ _⟩
  case round =>
    obtain ⟨i, hi, rfl, rfl, ho, hbel⟩ := hrel
    by_cases hlt : i < xs.length
    · have hm1 : 1 ≤ k + i := by omega
      have hm9 : k + i ≤ 9000000 := by have := H9.out; omega
      have hBr : B ≤ wr.heap.size := Nat.le_trans hB hbel.size
      obtain ⟨g, cap, e1, hg, hg2⟩ := ho.form (by omega)
      simp only [Value.slice.injEq] at e1
      obtain ⟨rfl, _, rfl⟩ := e1
      have Ho := Lib.hid ho
      have Hbel := Lib.hid hbel
      have Hset := Lib.hid (marks_set k i xs hlt)
      have hik : ((k + i : Nat) : Int) = (k : Int) + i := by omega
      obtain ⟨m, hm⟩ : ∃ m, m = k + i := ⟨_, rfl⟩
      rw [← hm] at hm1 hm9 Hset ⊢
      have Hm := Lib.hid hm
      clear ho hbel hm hik
      go_wp2_with fail
      refine (laws_markText m _ hm1 hm9).mono ?_
      rintro e w2 ⟨rfl, hb2⟩
      have ho2 := owns_below Ho.out hb2
      have hcell : w2.cell? ⟨g, i, none⟩ = some (((marks k i ++ xs.drop i).map sv)[i]'(by simp [marks_len]; omega)) := by
        rw [ho2.cellAt i (by omega)]; exact List.getElem?_eq_getElem _
      have hfr := ho2.frozenAt i
      have hst := ho2.stored i (sv (mt m))
      rw [Hset.out] at hst
      have Hst := Lib.hid hst
      have Hb2 := Lib.hid ((Hbel.out.trans (hb2.mono hBr)).setCell (p := ⟨g, i, none⟩) hg (sv (mt m)))
      clear hst ho2 hb2
      generalize ((marks k i ++ xs.drop i).map sv)[i]'_ = old at hcell
      go_wp2_with fail
      go_roundw
      case rel => exact ⟨i + 1, by omega, by go_num, by rw [Hm.out]; go_num, Hst.out.1, Hb2.out⟩
      case measure => simp [intOf]; omega
    · obtain rfl : i = xs.length := by omega
      have Ho := Lib.hid (show wr.ownsRow B 9 1 (.slice aa xs.length ca) xs.length ((marks k xs.length).map sv) by simpa using ho)
      clear ho
      go_wp2_with fail
      go_ret
      exact ⟨rfl, Ho.out, hbel⟩

/-- The letters of texts together. -/
def tot (xs : List Bs) : Nat := (xs.map List.length).sum
theorem tot_snoc (xs : List Bs) (i : Nat) (h : i < xs.length) : tot (xs.take (i + 1)) = tot (xs.take i) + xs[i].length := by
  unfold tot; rw [List.take_succ_eq_append_getElem h, List.map_append, List.sum_append]; simp
def SzPost (xs : List Bs) (left : Nat) (w : World) (e : Ending) (w' : World) : Prop :=
  ∃ r : Int, e = .returned (.int .i64 r) ∧ ((0 ≤ r ∧ xs.length + tot xs ≤ left) ∨ r = -1) ∧ w = w'


end Go.Proofs.YtcmnldomcpjlcaaGreat
