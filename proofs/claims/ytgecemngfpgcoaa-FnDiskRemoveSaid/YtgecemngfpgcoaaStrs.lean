/- Contracts of the exact laws' looks at lists of texts: equal, marked, held, sized, copied. -/
import Derived.Test.YtgecemngfpgcoaaMarks
import Derived.Test.YtgecemngfpgcoaaVp
import Derived.Test.YtgecemngfpgcoaaIn
import Derived.OwnWalk
import Derived.Deep.RegionHeld3
import Derived.Deep.AppendLies
set_option linter.unusedVariables false
set_option linter.unusedSimpArgs false
namespace Go.Proofs.Ytgecemngfpgcoaa
open Go.RowKit Go.Proofs.Ytgecemngfpgcoaa.Nm

/-- n marks from k on. -/
def marks (k n : Nat) : List Bs := (List.range n).map (fun i => mt (k + i))
theorem marks_len (k n : Nat) : (marks k n).length = n := by simp [marks]
theorem marks_get (k n i : Nat) (h : i < (marks k n).length) : (marks k n)[i] = mt (k + i) := by simp [marks]
theorem marks_succ (k n : Nat) : marks k (n + 1) = marks k n ++ [mt (k + n)] := by simp [marks, List.range_succ]
theorem marks_set (k i : Nat) (xs : List Bs) (h : i < xs.length) : ((marks k i ++ xs.drop i).map sv).set i (sv (mt (k + i))) = (marks k (i + 1) ++ xs.drop (i + 1)).map sv := by
  rw [List.map_append, List.set_append_right _ _ (by simp [marks_len])]
  rw [List.length_map, marks_len, Nat.sub_self, List.drop_eq_getElem_cons h, List.map_cons, List.set_cons_zero, marks_succ, List.map_append, List.map_append, List.append_assoc]
  rfl

set_option maxRecDepth 100000 in
set_option maxHeartbeats 400000 in
theorem laws_eqStringS (va vb : Value) (xs ys : List Bs) (w : World) (ha : Reads w va xs) (hb : Reads w vb ys) (hx : xs.length ≤ 9500000) (hy : ys.length ≤ 9500000) :
    Calls Try.prog 130 #[va, vb] w fun e w' => e = .returned (.bool (decide (xs = ys))) ∧ Below w.heap.size w w' := by
  obtain ⟨aa, ca, rfl⟩ : ∃ a c, va = .slice a xs.length c := by
    rcases ha with ⟨rfl, rfl⟩ | ⟨b, off, cap, rfl, _⟩ <;> exact ⟨_, _, rfl⟩
  obtain ⟨ab, cb, rfl⟩ : ∃ a c, vb = .slice a ys.length c := by
    rcases hb with ⟨rfl, rfl⟩ | ⟨b, off, cap, rfl, _⟩ <;> exact ⟨_, _, rfl⟩
  by_cases hl : xs.length = ys.length
  · have Ha := Lib.hid ha
    have Hb := Lib.hid hb
    have Hl := Lib.hid hl
    clear ha hb
    rw [← hl]
    clear hl
    go_enter Try.func130, Try.ntmps130
    go_wp2_with fail
    go_loopw [5] (fun kv wr => ∃ k : Nat, k ≤ xs.length ∧ kv = .int .i64 k ∧ Below w.heap.size w wr ∧ ∀ i (h1 : i < xs.length) (h2 : i < ys.length), i < k → xs[i] = ys[i]) (fun kv _ => xs.length - (intOf kv).toNat)
    case atStart => exact ⟨0, by omega, rfl, Below.refl _ _, fun i _ _ h => absurd h (by omega)⟩
    case round =>
      obtain ⟨k, hk, rfl, hbel, hp⟩ := hrel
      have Hp := Lib.hid hp
      clear hp
      by_cases hlt : k < xs.length
      · have hlt2 : k < ys.length := by rw [← Hl.out]; exact hlt
        obtain ⟨b1, o1, c1, e1, _, _, hb1, hc1⟩ := Reads.some Ha.out (by omega)
        obtain ⟨b2, o2, c2, e2, _, _, hb2, hc2⟩ := Reads.some Hb.out (by omega)
        simp only [Value.slice.injEq] at e1 e2
        obtain ⟨rfl, _, rfl⟩ := e1
        obtain ⟨rfl, _, rfl⟩ := e2
        have hce1 := (hbel.cell (p := ⟨b1, o1 + k, none⟩) hb1).trans (hc1 k hlt)
        have hce2 := (hbel.cell (p := ⟨b2, o2 + k, none⟩) hb2).trans (hc2 k hlt2)
        have hki : (k : Int) < (xs.length : Int) := by omega
        have hk0 : (0 : Int) ≤ (k : Int) := by omega
        clear hc1 hc2
        by_cases heq : xs[k] = ys[k]
        · have Heq := Lib.hid heq
          rw [← heq] at hce2
          clear heq
          go_wp2_with fail
          go_quiet (fail)
          go_wp2_with fail
          go_roundw
          case rel =>
            refine ⟨k + 1, by omega, by go_num, below_drewN hbel _, fun i h1 h2 hi => ?_⟩
            by_cases e : i = k
            · subst e; exact Heq.out
            · exact Hp.out i h1 h2 (by omega)
          case measure => simp [intOf]; omega
        · have hne : (xs[k] == ys[k]) = false := by simpa using heq
          have hv : decide (xs = ys) = false := decide_eq_false (fun e => heq (by subst e; rfl))
          have Hv := Lib.hid hv
          clear hv heq
          generalize xs[k] = p at *
          generalize ys[k] = r at *
          go_wp2_with fail
          go_quiet (fail)
          go_wp2_with fail
          go_ret
          rw [Hv.out]
          exact ⟨rfl, below_drewN hbel _⟩
      · have hv : decide (xs = ys) = true := decide_eq_true (eq_getElem Hl.out (fun i h1 h2 => Hp.out i h1 h2 (by omega)))
        have Hv := Lib.hid hv
        clear hv
        go_wp2_with fail
        go_ret
        rw [Hv.out]
        exact ⟨rfl, hbel⟩
  · have hv : decide (xs = ys) = false := decide_eq_false (fun e => hl (by rw [e]))
    have Hv := Lib.hid hv
    have hlb : ((xs.length : Int) == (ys.length : Int)) = false := by rw [beq_eq_false_iff_ne]; omega
    clear hv hl
    generalize xs.length = n at *
    generalize ys.length = m at *
    go_enter Try.func130, Try.ntmps130
    go_wp2_with fail
    go_ret
    rw [Hv.out]
    exact ⟨rfl, Below.refl _ _⟩

set_option maxRecDepth 100000 in
set_option maxHeartbeats 1000000 in
theorem laws_heldStringS (v : Value) (n k : Nat) (w : World) (hr : Reads w v (marks k n)) (h1 : 1 ≤ k) (h9 : k + n ≤ 9000000) :
    Calls Try.prog 113 #[v, .int .i64 k] w fun e w' => e = .returned (.int .i64 ((k + n : Nat) : Int)) ∧ Below w.heap.size w w' := by
  have hl := marks_len k n
  obtain ⟨aa, ca, rfl⟩ : ∃ a c, v = .slice a n c := by
    rcases hr with ⟨rfl, h⟩ | ⟨b, off, cap, rfl, _⟩
    · rw [h] at hl; exact ⟨_, _, by simp at hl; rw [← hl]⟩
    · exact ⟨_, _, by rw [hl]⟩
  have Hr := Lib.hid hr
  have Hl := Lib.hid hl
  have H9 := Lib.hid h9
  have hn9 : n ≤ 9000000 := by omega
  clear hr hl h9
  go_enter Try.func113, Try.ntmps113
  go_wp2_with fail
  go_loopw [1, 5] (fun kv iv wr => ∃ i : Nat, i ≤ n ∧ iv = .int .i64 i ∧ kv = .int .i64 ((k + i : Nat) : Int) ∧ Below w.heap.size w wr) (fun _ iv _ => n - (intOf iv).toNat)
  case atStart => exact ⟨0, by omega, rfl, rfl, Below.refl _ _⟩
  case round =>
    obtain ⟨i, hi, rfl, rfl, hbel⟩ := hrel
    by_cases hlt : i < n
    · obtain ⟨b1, o1, c1, e1, _, _, hb1, hc1⟩ := Reads.some Hr.out (by rw [Hl.out]; omega)
      simp only [Value.slice.injEq] at e1
      obtain ⟨rfl, hdel, rfl⟩ := e1
      clear hdel
      have hcell0 := hc1 i (by rw [Hl.out]; exact hlt)
      rw [marks_get] at hcell0
      have hcell := (hbel.cell (p := ⟨b1, o1 + i, none⟩) hb1).trans hcell0
      have hb2 : b1 < wr.heap.size := Nat.lt_of_lt_of_le hb1 hbel.size
      have Hbel := Lib.hid hbel
      clear hc1 hcell0 hbel
      have hki : ((k + i : Nat) : Int) ≤ 9000000 := by have := H9.out; omega
      have hki1 : (1 : Int) ≤ ((k + i : Nat) : Int) := by omega
      obtain ⟨m, hm⟩ : ∃ m, m = k + i := ⟨_, rfl⟩
      rw [← hm] at hki hki1 hcell ⊢
      have Hm := Lib.hid hm
      have hm1 : 1 ≤ m := by omega
      have hm9 : m ≤ 9000000 := by have := H9.out; omega
      clear hm hki hki1
      obtain ⟨t, ht⟩ : ∃ t, t = mt m := ⟨_, rfl⟩
      rw [← ht] at hcell
      have Ht := Lib.hid ht
      clear ht
      have Hm9 := Lib.hid hm9
      have hi9 : (i : Int) ≤ 9000000 := by omega
      have hmi9 : (m : Int) ≤ 9000000 := by omega
      clear hm9 hn9
      go_wp2_with fail
      go_region_held3 (fun w' => w'.cell? ⟨b1, o1 + i, none⟩ = some (.string (mk t)) ∧ b1 < w'.heap.size ∧ Below w.heap.size w w')
        (first
          | exact ⟨hcell, hb2, Hbel.out⟩
          | exact ⟨hcell, hb2, Hbel.out.drew⟩
          | exact ⟨(hbm.cell (p := ⟨b1, o1 + i, none⟩) hb2).trans hcell, Nat.lt_of_lt_of_le hb2 hbm.size, bt Hbel.out hbm⟩
          | exact ⟨(hbm.cell (p := ⟨b1, o1 + i, none⟩) hb2).trans hcell, Nat.lt_of_lt_of_le hb2 hbm.size, bt Hbel.out.drew hbm⟩)
        (first | (go_at_call 110; refine (laws_markText m _ hm1 Hm9.out).mono ?_; rintro e w' ⟨rfl, hbm⟩; rw [← Ht.out]))
      have Hb3 := Lib.hid (bt Hbel.out.drew hbm)
      go_wp2_with fail
      go_roundw
      case rel => exact ⟨i + 1, by omega, by go_num, by rw [Hm.out]; go_num, Hb3.out⟩
      case measure => simp [intOf]; omega
    · obtain rfl : i = n := by omega
      go_wp2_with fail
      go_ret
      exact ⟨rfl, hbel⟩

set_option maxRecDepth 100000 in
set_option maxHeartbeats 1000000 in
theorem laws_markStringS (B : Nat) (v : Value) (xs : List Bs) (k : Nat) (w : World) (hown : w.ownsRow B 9 1 v xs.length (xs.map sv)) (hB : B ≤ w.heap.size) (h1 : 1 ≤ k) (h9 : k + xs.length ≤ 9000000) :
    Calls Try.prog 111 #[v, .int .i64 k] w fun e w' => e = .returned (.int .i64 ((k + xs.length : Nat) : Int)) ∧ w'.ownsRow B 9 1 v xs.length ((marks k xs.length).map sv) ∧ Below B w w' := by
  obtain ⟨aa, ca, rfl⟩ := owns_shape hown
  have Hown := Lib.hid hown
  have H9 := Lib.hid h9
  have hn9 : xs.length ≤ 9000000 := by omega
  clear hown h9
  go_enter Try.func111, Try.ntmps111
  go_wp2_with fail
  go_loopw [1, 5] (fun kv iv wr => ∃ i : Nat, i ≤ xs.length ∧ iv = .int .i64 i ∧ kv = .int .i64 ((k + i : Nat) : Int) ∧ wr.ownsRow B 9 1 (.slice aa xs.length ca) xs.length ((marks k i ++ xs.drop i).map sv) ∧ Below B w wr) (fun _ iv _ => xs.length - (intOf iv).toNat)
  case atStart => exact ⟨0, by omega, rfl, rfl, by simpa [marks] using Hown.out, Below.refl _ _⟩
  case round =>
    obtain ⟨i, hi, rfl, rfl, ho, hbel⟩ := hrel
    by_cases hlt : i < xs.length
    · have hm1 : 1 ≤ k + i := by omega
      have hm9 : k + i ≤ 9000000 := by have := H9.out; omega
      have hBr : B ≤ wr.heap.size := Nat.le_trans hB hbel.size
      obtain ⟨g, cap, e1, hg, hg2⟩ := ho.form (by omega)
      simp only [Value.slice.injEq] at e1
      obtain ⟨rfl, _, rfl⟩ := e1
      have Ho := Lib.hid ho
      have Hbel := Lib.hid hbel
      have Hset := Lib.hid (marks_set k i xs hlt)
      have hik : ((k + i : Nat) : Int) = (k : Int) + i := by omega
      obtain ⟨m, hm⟩ : ∃ m, m = k + i := ⟨_, rfl⟩
      rw [← hm] at hm1 hm9 Hset ⊢
      have Hm := Lib.hid hm
      clear ho hbel hm hik
      go_wp2_with fail
      refine (laws_markText m _ hm1 hm9).mono ?_
      rintro e w2 ⟨rfl, hb2⟩
      have ho2 := owns_below Ho.out hb2
      have hcell : w2.cell? ⟨g, i, none⟩ = some (((marks k i ++ xs.drop i).map sv)[i]'(by simp [marks_len]; omega)) := by
        rw [ho2.cellAt i (by omega)]; exact List.getElem?_eq_getElem _
      have hfr := ho2.frozenAt i
      have hst := ho2.stored i (sv (mt m))
      rw [Hset.out] at hst
      have Hst := Lib.hid hst
      have Hb2 := Lib.hid ((Hbel.out.trans (hb2.mono hBr)).setCell (p := ⟨g, i, none⟩) hg (sv (mt m)))
      clear hst ho2 hb2
      generalize ((marks k i ++ xs.drop i).map sv)[i]'_ = old at hcell
      go_wp2_with fail
      go_roundw
      case rel => exact ⟨i + 1, by omega, by go_num, by rw [Hm.out]; go_num, Hst.out.1, Hb2.out⟩
      case measure => simp [intOf]; omega
    · obtain rfl : i = xs.length := by omega
      have Ho := Lib.hid (show wr.ownsRow B 9 1 (.slice aa xs.length ca) xs.length ((marks k xs.length).map sv) by simpa using ho)
      clear ho
      go_wp2_with fail
      go_ret
      exact ⟨rfl, Ho.out, hbel⟩

/-- The letters of texts together. -/
def tot (xs : List Bs) : Nat := (xs.map List.length).sum
theorem tot_snoc (xs : List Bs) (i : Nat) (h : i < xs.length) : tot (xs.take (i + 1)) = tot (xs.take i) + xs[i].length := by
  unfold tot; rw [List.take_succ_eq_append_getElem h, List.map_append, List.sum_append]; simp
def SzPost (xs : List Bs) (left : Nat) (w : World) (e : Ending) (w' : World) : Prop :=
  ∃ r : Int, e = .returned (.int .i64 r) ∧ ((0 ≤ r ∧ xs.length + tot xs ≤ left) ∨ r = -1) ∧ w = w'

set_option maxRecDepth 100000 in
set_option maxHeartbeats 1000000 in
theorem laws_szStringS (v : Value) (xs : List Bs) (left : Nat) (w : World) (hr : ReadsIn w v xs) (hsz : ∀ p ∈ xs, p.length ≤ maxLen) (hl : left ≤ 1048576) :
    Calls Try.prog 128 #[v, .int .i64 left] w (SzPost xs left w) := by
  obtain ⟨aa, ca, rfl, hlc, hm, hcell⟩ := hr
  have Hcell := Lib.hid hcell
  have Hsz := Lib.hid hsz
  unfold maxLen at hm
  clear hcell hsz
  by_cases h0 : left < xs.length
  · have h0' : (left : Int) - (xs.length : Int) < 0 := by omega
    go_enter Try.func128, Try.ntmps128
    go_wp2_with fail
    go_ret
    exact ⟨-1, rfl, .inr rfl, rfl⟩
  · have h0' : ¬ (left : Int) - (xs.length : Int) < 0 := by omega
    have hw : (left : Int) - (xs.length : Int) = ((left - xs.length : Nat) : Int) := by omega
    go_enter Try.func128, Try.ntmps128
    go_wp2_with fail
    go_loop [1, 5] (fun lv iv => ∃ (i L : Nat), i ≤ xs.length ∧ iv = .int .i64 i ∧ lv = .int .i64 L ∧ L + (xs.length + tot (xs.take i)) = left) (fun _ iv => xs.length - (intOf iv).toNat)
    case atStart => exact ⟨0, left - xs.length, by omega, rfl, by first | rfl | go_num | simp [hw], by simp [tot]; omega⟩
    case round =>
      obtain ⟨i, L, hi, rfl, rfl, hL⟩ := hrel
      have HL := Lib.hid hL
      have hLl : L ≤ 1048576 := by omega
      clear hL h0 h0' hw
      by_cases hlt : i < xs.length
      · obtain ⟨b, off, rfl, hb, hc⟩ := Hcell.out (by omega)
        have hci := hc i hlt
        have hpl := Hsz.out _ (List.getElem_mem hlt)
        unfold maxLen at hpl
        have Htot := Lib.hid (tot_snoc xs i hlt)
        clear hc
        generalize xs[i] = p at *
        by_cases hp : L < p.length
        · have hp' : (L : Int) - (p.length : Int) < 0 := by omega
          go_wp2_with fail
          go_ret
          exact ⟨-1, rfl, .inr rfl, rfl⟩
        · have hp' : ¬ (L : Int) - (p.length : Int) < 0 := by omega
          go_wp2_with fail
          go_round
          case rel => exact ⟨i + 1, L - p.length, by omega, by go_num, by rw [show ((L - p.length : Nat) : Int) = (L : Int) - (p.length : Int) by omega], by have h1 := HL.out; have h2 := Htot.out; omega⟩
          case measure => simp [intOf]; omega
      · obtain rfl : i = xs.length := by omega
        have Hf := Lib.hid (show xs.length + tot xs ≤ left by have := HL.out; rw [List.take_length] at this; omega)
        go_wp2_with fail
        go_ret
        exact ⟨L, rfl, .inl ⟨by omega, Hf.out⟩, rfl⟩

theorem fill_set (xs : List Bs) (i : Nat) (h : i < xs.length) : ((xs.take i).map sv ++ List.replicate (xs.length - i) (Value.string ByteArray.empty)).set i (sv xs[i]) = (xs.take (i + 1)).map sv ++ List.replicate (xs.length - (i + 1)) (Value.string ByteArray.empty) := by
  have hl : ((xs.take i).map sv).length = i := by simp; omega
  rw [List.set_append_right _ _ (by omega), hl, Nat.sub_self, show xs.length - i = (xs.length - (i + 1)) + 1 by omega, List.replicate_succ, List.set_cons_zero, List.take_succ_eq_append_getElem h, List.map_append, List.append_assoc]
  rfl

set_option maxRecDepth 100000 in
set_option maxHeartbeats 1000000 in
theorem laws_toStringS (v : Value) (xs : List Bs) (w : World) (hr : ReadsIn w v xs) (hl : xs.length ≤ 1048576) :
    Calls Try.prog 129 #[v] w (NewStrs 9 xs w) := by
  obtain ⟨i0, hi, hz0, hz1, hz2⟩ := info_parts infoS
  obtain ⟨aa, ca, rfl, hlc, hm, hcell⟩ := hr
  have Hcell := Lib.hid hcell
  have Hi := Lib.hid hi
  have Hz0 := Lib.hid hz0
  have Hz1 := Lib.hid hz1
  have Hz2 := Lib.hid hz2
  clear hcell hi hz0 hz1 hz2
  go_enter Try.func129, Try.ntmps129
  go_wp2_with (at_make; refine wpList_make_full _ rfl _ _ 70 rfl w.heap.size 9 i0 (.string ByteArray.empty) 1 Try.underlying70 Hi.out Hz0.out Hz1.out .i64 .i64 _ _ xs.length rfl rfl rfl rfl (by rw [Hz2.out]; omega) (by unfold maxLen; omega) (Nat.le_refl _) ?_; intro w1 hown1 hg1)
  have hown2 : w1.ownsRow w.heap.size 9 1 (.slice (some ⟨w.heap.size, 0, none⟩) xs.length xs.length) xs.length ((xs.take 0).map sv ++ List.replicate (xs.length - 0) (Value.string ByteArray.empty)) := by
    have e : (madeCells (Value.cells (.string ByteArray.empty)) (xs.length * 1)).toList = (xs.take 0).map sv ++ List.replicate (xs.length - 0) (Value.string ByteArray.empty) := by
      rw [Nat.mul_one]; exact toList_madeCells_one _ _
    rw [e] at hown1; exact hown1
  have hb1 : Below w.heap.size w w1 := (Below.refl _ _).grown hg1 (Nat.le_refl _) (fun k hk => by cases hk)
  have Hown2 := Lib.hid hown2
  have Hb1 := Lib.hid hb1
  clear hown1 hown2 hg1 hb1
  go_wp2_with fail
  go_loopw [4] (fun iv wr => ∃ i : Nat, i ≤ xs.length ∧ iv = .int .i64 i ∧ wr.ownsRow w.heap.size 9 1 (.slice (some ⟨w.heap.size, 0, none⟩) xs.length xs.length) xs.length ((xs.take i).map sv ++ List.replicate (xs.length - i) (Value.string ByteArray.empty)) ∧ Below w.heap.size w wr) (fun iv _ => xs.length - (intOf iv).toNat)
  case atStart => exact ⟨0, by omega, rfl, Hown2.out, Hb1.out⟩
  case round =>
    obtain ⟨i, hi, rfl, ho, hbel⟩ := hrel
    by_cases hlt : i < xs.length
    · obtain ⟨b, off, rfl, hb, hc⟩ := Hcell.out (by omega)
      have hci := (hbel.cell (p := ⟨b, off + i, none⟩) hb).trans (hc i hlt)
      have hoc : wr.cell? ⟨w.heap.size, i, none⟩ = some (((xs.take i).map sv ++ List.replicate (xs.length - i) (Value.string ByteArray.empty))[i]'(by simp; omega)) := by
        rw [ho.cellAt i (by omega)]; exact List.getElem?_eq_getElem _
      have hfr := ho.frozenAt i
      have hst := ho.stored i (sv xs[i])
      rw [fill_set xs i hlt] at hst
      have Hst := Lib.hid hst
      have Hb2 := Lib.hid (hbel.setCell (p := ⟨w.heap.size, i, none⟩) (Nat.le_refl _) (sv xs[i]))
      clear hst ho hc hbel Hown2 Hb1
      generalize ((xs.take i).map sv ++ List.replicate (xs.length - i) (Value.string ByteArray.empty))[i]'_ = old at hoc
      go_wp2_with fail
      go_roundw
      case rel => exact ⟨i + 1, by omega, by go_num, Hst.out.1, Hb2.out⟩
      case measure => simp [intOf]; omega
    · obtain rfl : i = xs.length := by omega
      have Ho := Lib.hid (show wr.ownsRow w.heap.size 9 1 (.slice (some ⟨w.heap.size, 0, none⟩) xs.length xs.length) xs.length (xs.map sv) by simpa using ho)
      clear ho
      go_wp2_with fail
      go_ret
      exact ⟨_, rfl, Ho.out, hbel⟩
end Go.Proofs.Ytgecemngfpgcoaa
