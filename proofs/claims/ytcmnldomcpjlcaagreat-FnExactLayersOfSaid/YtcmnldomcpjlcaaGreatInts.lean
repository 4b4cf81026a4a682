/- Words for memory that holds numbers; contracts of the exact laws' looks at lists of numbers and at finds. -/
import Derived.Test.YtcmnldomcpjlcaaGreatTreeMem
import Derived.Test.YtcmnldomcpjlcaaGreatPlainG
import Derived.Test.YtcmnldomcpjlcaaGreatMarks
import Derived.OwnWalk
import Derived.ChangeSlices
import Derived.Laws.OwnMore
import Derived.Laws.MakeOwn
import Derived.Deep.RegionHeld3
import Derived.Deep.AppendLies
set_option linter.unusedVariables false
set_option linter.unusedSimpArgs false
namespace Go.Proofs.YtcmnldomcpjlcaaGreat
open Go.RowKit Go.Proofs.YtcmnldomcpjlcaaGreat.Nm

/-- The slice v reads as the numbers xs in w; nothing is said of an empty one's address. -/
def IntsIn (w : World) (v : Value) (xs : List Int) : Prop :=
  ∃ a cap, v = .slice a xs.length cap ∧ xs.length ≤ cap ∧ cap ≤ maxLen ∧
    (0 < xs.length → ∃ b off, a = some ⟨b, off, none⟩ ∧ b < w.heap.size ∧ ∀ k (h : k < xs.length), w.cell? ⟨b, off + k, none⟩ = some (.int .i64 xs[k]))
theorem IntsIn.below {w w' : World} {v : Value} {xs : List Int} (h : IntsIn w v xs) (hb : Below w.heap.size w w') : IntsIn w' v xs := by
  obtain ⟨a, cap, h1, h2, h3, h4⟩ := h
  refine ⟨a, cap, h1, h2, h3, fun hx => ?_⟩
  obtain ⟨b, off, e1, e2, e3⟩ := h4 hx
  refine ⟨b, off, e1, Nat.lt_of_lt_of_le e2 hb.size, fun k hk => ?_⟩
  rw [hb.cell (p := ⟨b, off + k, none⟩) e2]
  exact e3 k hk
theorem IntsIn.len {w : World} {v : Value} {xs : List Int} (h : IntsIn w v xs) : ∃ a cap, v = .slice a xs.length cap ∧ xs.length ≤ cap ∧ cap ≤ maxLen := by
  obtain ⟨a, cap, h1, h2, h3, _⟩ := h
  exact ⟨a, cap, h1, h2, h3⟩
theorem IntsIn.at_ {w : World} {v : Value} {xs : List Int} (h : IntsIn w v xs) {k : Nat} (hk : k < xs.length) : ∃ b off cap, v = .slice (some ⟨b, off, none⟩) xs.length cap ∧ b < w.heap.size ∧ w.cell? ⟨b, off + k, none⟩ = some (.int .i64 xs[k]) := by
  obtain ⟨a, cap, h1, h2, h3, h4⟩ := h
  obtain ⟨b, off, e1, e2, e3⟩ := h4 (by omega)
  subst e1
  exact ⟨b, off, cap, h1, e2, e3 k hk⟩
/-- A number as a cell's value. -/
def iv (n : Int) : Value := .int .i64 n
theorem IntsIn.of_owns {w : World} {B : Nat} {e : TypeId} {v : Value} {xs : List Int} (h : w.ownsRow B e 1 v xs.length (xs.map iv)) : IntsIn w v xs := by
  rcases h.2 with ⟨rfl, h2⟩ | ⟨g, cap, cur, rfl, h2, h3, h4, h5, h6, h7⟩
  · exact ⟨none, 0, by rw [h2], by omega, by unfold maxLen; omega, fun hx => absurd hx (by omega)⟩
  · refine ⟨_, cap, rfl, h4, h5, fun _ => ⟨g, 0, rfl, (Array.getElem?_eq_some_iff.1 h3).1, fun k hk => ?_⟩⟩
    have := h.cells (g := g) rfl k (.int .i64 xs[k]) (by rw [List.getElem?_map, List.getElem?_eq_getElem hk]; rfl)
    have hadd : (⟨g, 0, none⟩ : Addr).add k = ⟨g, 0 + k, none⟩ := by unfold Addr.add; split <;> simp_all
    rw [hadd] at this
    exact this
theorem IntsIn.nil (w : World) (a : Option Addr) (cap : Nat) (h : cap ≤ maxLen) : IntsIn w (.slice a 0 cap) [] := ⟨a, cap, rfl, Nat.zero_le _, h, fun hx => absurd hx (by simp)⟩
/-- The front of a list that is read. -/
theorem IntsIn.front {w : World} {a : Option Addr} {n cap : Nat} {xs : List Int} (h : IntsIn w (.slice a n cap) xs) (k : Nat) (hk : k ≤ xs.length) : IntsIn w (.slice a k cap) (xs.take k) := by
  obtain ⟨a', cap', h1, h2, h3, h4⟩ := h
  simp only [Value.slice.injEq] at h1
  obtain ⟨rfl, rfl, rfl⟩ := h1
  have e : (xs.take k).length = k := by rw [List.length_take]; omega
  refine ⟨a, cap, by rw [e], by omega, h3, fun hx => ?_⟩
  obtain ⟨b, off, e1, e2, e3⟩ := h4 (by omega)
  refine ⟨b, off, e1, e2, fun j hj => ?_⟩
  rw [e3 j (by omega)]; simp
/-- A list of numbers that came in. -/
theorem ints_row {H : Type} {enc : TypeId × Value → H} {P : Program} {w : World} {spare : Nat → Bool} {held : Bool} {t e : TypeId} {fuel : Nat} {a : Option Addr} {len cap : Nat} {x : DataW H × List MemPlace}
    (ht : P.underlying t = some (.slice e)) (he : P.underlying e = some (.int .i64)) (hc : P.cellsOf e = 1)
    (h : DataW.trod enc P w 0 spare held fuel t [.slice a len cap] = some x) : ∃ xs, IntsIn w (.slice a len cap) xs := by
  rcases Go.ChangeShapes.open_ints ht he hc h with ⟨h0, _⟩ | ⟨A, l, c, zs, hcs, _, hl, hm, hlen, _, hcell, hsz⟩
  · simp only [List.cons.injEq, Value.slice.injEq, and_true] at h0
    obtain ⟨rfl, rfl, rfl⟩ := h0
    exact ⟨[], IntsIn.nil _ _ _ (by unfold maxLen; omega)⟩
  · simp only [List.cons.injEq, Value.slice.injEq, and_true] at hcs
    obtain ⟨rfl, rfl, rfl⟩ := hcs
    have hle : len ≤ zs.length := by rw [hlen]; split <;> omega
    have hxl : (zs.take len).length = len := by rw [List.length_take]; omega
    refine ⟨zs.take len, some A, cap, by rw [hxl], by rw [hxl]; exact hl, hm, fun hx => ?_⟩
    rw [hxl] at hx
    have h0 := hcell 0 (by omega)
    obtain ⟨b, off, spot⟩ := A
    have hspot : spot = none := by simpa [Addr.add] using World.cell?_spot h0
    subst hspot
    have hb : b < w.heap.size := by
      have h := World.block_lt_of_cell? w _ h0
      simpa [Addr.add] using h
    refine ⟨b, off, rfl, hb, fun k hk => ?_⟩
    have hk' : k < len := by rw [hxl] at hk; exact hk
    have hci := hcell k (by omega)
    have hadd : (⟨b, off, none⟩ : Addr).add k = ⟨b, off + k, none⟩ := by unfold Addr.add; split <;> simp_all
    rw [hadd] at hci
    rw [hci, List.getElem_take, List.getD_eq_getElem?_getD, List.getElem?_eq_getElem (by omega)]
    rfl

/-- What a function that returns a new list of numbers comes to. -/
def NewInts (T : TypeId) (xs : List Int) (w : World) (e : Ending) (w' : World) : Prop :=
  ∃ v, e = .returned v ∧ w'.ownsRow w.heap.size T 1 v xs.length (xs.map iv) ∧ Below w.heap.size w w'
/-- What a function that returns a find comes to. -/
def NewSpc (T : TypeId) (sp : Spc) (w : World) (e : Ending) (w' : World) : Prop :=
  ∃ v, e = .returned (.agg #[.int .i64 sp.kind, .int .i64 sp.file, v]) ∧ w'.ownsRow w.heap.size T 1 v sp.roots.length (sp.roots.map iv) ∧ Below w.heap.size w w'
theorem below_drewN' {w w1 : World} (h : Below w.heap.size w w1) (n : Nat) : Below w.heap.size w (w1.drewN n) := bdN h n

set_option maxRecDepth 100000 in
set_option maxHeartbeats 400000 in
theorem laws_eqIntS (va vb : Value) (xs ys : List Int) (w : World) (ha : IntsIn w va xs) (hb : IntsIn w vb ys) :
    Calls Tryz.prog 21 #[va, vb] w fun e w' => e = .returned (.bool (decide (xs = ys))) ∧ Below w.heap.size w w' := by
  have Ha := Lib.hid ha
  have Hb := Lib.hid hb
  obtain ⟨aa, ca, rfl, hl1, hm1⟩ := ha.len
  obtain ⟨ab, cb, rfl, hl2, hm2⟩ := hb.len
  unfold maxLen at hm1 hm2
  clear ha hb
  by_cases hl : xs.length = ys.length
  · have Hl := Lib.hid hl
    rw [← hl] at hl2 ⊢
    clear hl
    go_enter Tryz.func21, Tryz.ntmps21
    go_wp2_with fail
    go_loopw [5] (fun kv wr => ∃ k : Nat, k ≤ xs.length ∧ kv = .int .i64 k ∧ Below w.heap.size w wr ∧ ∀ i (h1 : i < xs.length) (h2 : i < ys.length), i < k → xs[i] = ys[i]) (fun kv _ => xs.length - (intOf kv).toNat)
    case atStart => exact ⟨0, by omega, rfl, Below.refl _ _, fun i _ _ h => absurd h (by omega)⟩
    case round =>
      obtain ⟨k, hk, rfl, hbel, hp⟩ := hrel
      have Hp := Lib.hid hp
      clear hp
      by_cases hlt : k < xs.length
      · have hlt2 : k < ys.length := by rw [← Hl.out]; exact hlt
        obtain ⟨b1, o1, c1, e1, hb1, hc1⟩ := Ha.out.at_ hlt
        obtain ⟨b2, o2, c2, e2, hb2, hc2⟩ := Hb.out.at_ hlt2
        simp only [Value.slice.injEq] at e1 e2
        obtain ⟨rfl, _, rfl⟩ := e1
        obtain ⟨rfl, _, rfl⟩ := e2
        have hce1 := (hbel.cell (p := ⟨b1, o1 + k, none⟩) hb1).trans hc1
        have hce2 := (hbel.cell (p := ⟨b2, o2 + k, none⟩) hb2).trans hc2
        have hki : (k : Int) < (xs.length : Int) := by omega
        have hk0 : (0 : Int) ≤ (k : Int) := by omega
        clear hc1 hc2
        by_cases heq : xs[k] = ys[k]
        · have Heq := Lib.hid heq
          rw [← heq] at hce2
          clear heq
          go_wp2_with fail
          go_quiet (fail)
          go_wp2_with fail
          go_roundw
          case rel =>
            refine ⟨k + 1, by omega, by go_num, below_drewN' hbel _, fun i h1 h2 hi => ?_⟩
            by_cases e : i = k
            · subst e; exact Heq.out
            · exact Hp.out i h1 h2 (by omega)
          case measure => simp [intOf]; omega
        · have hne : (xs[k] == ys[k]) = false := by simpa using heq
          have hv : decide (xs = ys) = false := decide_eq_false (fun e => heq (by subst e; rfl))
          have Hv := Lib.hid hv
          clear hv heq
          generalize xs[k] = p at *
          generalize ys[k] = r at *
          go_wp2_with fail
          go_quiet (fail)
          go_wp2_with fail
          go_ret
          rw [Hv.out]
          exact ⟨rfl, below_drewN' hbel _⟩
      · have hv : decide (xs = ys) = true := decide_eq_true (List.ext_getElem Hl.out (fun i h1 h2 => Hp.out i h1 h2 (by omega)))
        have Hv := Lib.hid hv
        clear hv
        go_wp2_with fail
        go_ret
        rw [Hv.out]
        exact ⟨rfl, hbel⟩
  · have hv : decide (xs = ys) = false := decide_eq_false (fun e => hl (by rw [e]))
    have Hv := Lib.hid hv
    have hlb : ((xs.length : Int) == (ys.length : Int)) = false := by rw [beq_eq_false_iff_ne]; omega
    clear hv hl
    generalize xs.length = n at *
    generalize ys.length = m at *
    go_enter Tryz.func21, Tryz.ntmps21
    go_wp2_with fail
    go_ret
    rw [Hv.out]
    exact ⟨rfl, Below.refl _ _⟩

theorem infoI : (Tryz.prog.info? 3).map (fun i => (i.zero, i.size, i.bytes)) = some (some (.int .i64 0), 1, 8) := by kernel_rfl
theorem fill_int (xs : List Int) (i : Nat) (h : i < xs.length) : ((xs.take i).map iv ++ List.replicate (xs.length - i) (Value.int .i64 0)).set i (iv xs[i]) = (xs.take (i + 1)).map iv ++ List.replicate (xs.length - (i + 1)) (Value.int .i64 0) := by
  have hl : ((xs.take i).map iv).length = i := by simp; omega
  rw [List.set_append_right _ _ (by omega), hl, Nat.sub_self, show xs.length - i = (xs.length - (i + 1)) + 1 by omega, List.replicate_succ, List.set_cons_zero, List.take_succ_eq_append_getElem h, List.map_append, List.append_assoc]
  rfl
set_option maxRecDepth 100000 in
set_option maxHeartbeats 1000000 in
theorem laws_toIntS (v : Value) (xs : List Int) (w : World) (hr : IntsIn w v xs) (hl : xs.length ≤ 1048576) :
    Calls Tryz.prog 17 #[v] w (NewInts 3 xs w) := by
  obtain ⟨i0, hi, hz0, hz1, hz2⟩ := info_parts infoI
  obtain ⟨aa, ca, rfl, hlc, hm, hcell⟩ := hr
  have Hcell := Lib.hid hcell
  have Hi := Lib.hid hi
  have Hz0 := Lib.hid hz0
  have Hz1 := Lib.hid hz1
  have Hz2 := Lib.hid hz2
  clear hcell hi hz0 hz1 hz2
  go_enter Tryz.func17, Tryz.ntmps17
  go_wp2_with (at_make; refine wpList_make_full _ rfl _ _ 25 rfl w.heap.size 3 i0 (.int .i64 0) 1 Tryz.underlying25 Hi.out Hz0.out Hz1.out .i64 .i64 _ _ xs.length rfl rfl rfl rfl (by rw [Hz2.out]; omega) (by unfold maxLen; omega) (Nat.le_refl _) ?_; intro w1 hown1 hg1)
  have hown2 : w1.ownsRow w.heap.size 3 1 (.slice (some ⟨w.heap.size, 0, none⟩) xs.length xs.length) xs.length ((xs.take 0).map iv ++ List.replicate (xs.length - 0) (Value.int .i64 0)) := by
    have e : (madeCells (Value.cells (.int .i64 0)) (xs.length * 1)).toList = (xs.take 0).map iv ++ List.replicate (xs.length - 0) (Value.int .i64 0) := by
      rw [Nat.mul_one]; exact toList_madeCells_one _ _
    rw [e] at hown1; exact hown1
  have hb1 : Below w.heap.size w w1 := (Below.refl _ _).grown hg1 (Nat.le_refl _) (fun k hk => by cases hk)
  have Hown2 := Lib.hid hown2
  have Hb1 := Lib.hid hb1
  clear hown1 hown2 hg1 hb1
  go_wp2_with fail
  go_loopw [4] (fun iv' wr => ∃ i : Nat, i ≤ xs.length ∧ iv' = .int .i64 i ∧ wr.ownsRow w.heap.size 3 1 (.slice (some ⟨w.heap.size, 0, none⟩) xs.length xs.length) xs.length ((xs.take i).map iv ++ List.replicate (xs.length - i) (Value.int .i64 0)) ∧ Below w.heap.size w wr) (fun iv' _ => xs.length - (intOf iv').toNat)
  case atStart => exact ⟨0, by omega, rfl, Hown2.out, Hb1.out⟩
  case round =>
    obtain ⟨i, hi, rfl, ho, hbel⟩ := hrel
    by_cases hlt : i < xs.length
    · obtain ⟨b, off, rfl, hb, hc⟩ := Hcell.out (by omega)
      have hci := (hbel.cell (p := ⟨b, off + i, none⟩) hb).trans (hc i hlt)
      have hoc : wr.cell? ⟨w.heap.size, i, none⟩ = some (((xs.take i).map iv ++ List.replicate (xs.length - i) (Value.int .i64 0))[i]'(by simp; omega)) := by
        rw [ho.cellAt i (by omega)]; exact List.getElem?_eq_getElem _
      have hfr := ho.frozenAt i
      have hst := ho.stored i (iv xs[i])
      rw [fill_int xs i hlt] at hst
      have Hst := Lib.hid hst
      have Hb2 := Lib.hid (hbel.setCell (p := ⟨w.heap.size, i, none⟩) (Nat.le_refl _) (iv xs[i]))
      clear hst ho hc hbel Hown2 Hb1
      generalize ((xs.take i).map iv ++ List.replicate (xs.length - i) (Value.int .i64 0))[i]'_ = old at hoc
      go_wp2_with fail
      go_roundw
      case rel => exact ⟨i + 1, by omega, by go_num, Hst.out.1, Hb2.out⟩
      case measure => simp [intOf]; omega
    · obtain rfl : i = xs.length := by omega
      have Ho := Lib.hid (show wr.ownsRow w.heap.size 3 1 (.slice (some ⟨w.heap.size, 0, none⟩) xs.length xs.length) xs.length (xs.map iv) by simpa using ho)
      clear ho
      go_wp2_with fail
      go_ret
      exact ⟨_, rfl, Ho.out, hbel⟩

/-- n marks from k on. -/
def marksI (k n : Nat) : List Int := (List.range n).map (fun i => ((k + i : Nat) : Int))
theorem marksI_len (k n : Nat) : (marksI k n).length = n := by simp [marksI]
theorem marksI_get (k n i : Nat) (h : i < (marksI k n).length) : (marksI k n)[i] = ((k + i : Nat) : Int) := by simp [marksI]
theorem marksI_succ (k n : Nat) : marksI k (n + 1) = marksI k n ++ [((k + n : Nat) : Int)] := by simp [marksI, List.range_succ]
theorem marksI_set (k i : Nat) (xs : List Int) (h : i < xs.length) : ((marksI k i ++ xs.drop i).map iv).set i (iv ((k + i : Nat) : Int)) = (marksI k (i + 1) ++ xs.drop (i + 1)).map iv := by
  rw [List.map_append, List.set_append_right _ _ (by simp [marksI_len])]
  rw [List.length_map, marksI_len, Nat.sub_self, List.drop_eq_getElem_cons h, List.map_cons, List.set_cons_zero, marksI_succ, List.map_append, List.map_append, List.append_assoc]
  rfl

set_option maxRecDepth 100000 in
set_option maxHeartbeats 1000000 in
theorem laws_markIntS (B : Nat) (v : Value) (xs : List Int) (k : Nat) (w : World) (hown : w.ownsRow B 3 1 v xs.length (xs.map iv)) (h1 : 1 ≤ k) (h9 : k + xs.length ≤ 100000000) :
    Calls Tryz.prog 23 #[v, .int .i64 k] w fun e w' => e = .returned (.int .i64 ((k + xs.length : Nat) : Int)) ∧ w'.ownsRow B 3 1 v xs.length ((marksI k xs.length).map iv) ∧ Turned (fun b => v.ownBlock = some b) w w' := by
  obtain ⟨aa, ca, rfl⟩ := owns_shape hown
  have Hown := Lib.hid hown
  have H9 := Lib.hid h9
  have hn9 : xs.length ≤ 100000000 := by omega
  clear hown h9
  go_enter Tryz.func23, Tryz.ntmps23
  go_wp2_with fail
  go_loopw [1, 5] (fun kv iv' wr => ∃ i : Nat, i ≤ xs.length ∧ iv' = .int .i64 i ∧ kv = .int .i64 ((k + i : Nat) : Int) ∧ wr.ownsRow B 3 1 (.slice aa xs.length ca) xs.length ((marksI k i ++ xs.drop i).map iv) ∧ Turned (fun b => (Value.slice aa xs.length ca).ownBlock = some b) w wr) (fun _ iv' _ => xs.length - (intOf iv').toNat)
  case atStart => exact ⟨0, by omega, rfl, rfl, by simpa [marksI] using Hown.out, Turned.refl _ _⟩
  case round =>
    obtain ⟨i, hi, rfl, rfl, ho, hbel⟩ := hrel
    by_cases hlt : i < xs.length
    · obtain ⟨g, cap, e1, hg, hg2⟩ := ho.form (by omega)
      simp only [Value.slice.injEq] at e1
      obtain ⟨rfl, _, rfl⟩ := e1
      have hset := marksI_set k i xs hlt
      have hcell : wr.cell? ⟨g, i, none⟩ = some (((marksI k i ++ xs.drop i).map iv)[i]'(by simp [marksI_len]; omega)) := by
        rw [ho.cellAt i (by omega)]; exact List.getElem?_eq_getElem _
      have hfr := ho.frozenAt i
      have hst := ho.stored i (iv ((k + i : Nat) : Int))
      rw [hset] at hst
      have Hst := Lib.hid hst
      have Hb2 := Lib.hid (hbel.set (p := ⟨g, i, none⟩) rfl (iv ((k + i : Nat) : Int)))
      clear hst ho hbel hset
      have hki : (((k + i : Nat) : Int)) ≤ 100000000 := by have := H9.out; omega
      have hki1 : (1 : Int) ≤ ((k + i : Nat) : Int) := by omega
      obtain ⟨m, hm⟩ : ∃ m, m = k + i := ⟨_, rfl⟩
      generalize ((marksI k i ++ xs.drop i).map iv)[i]'_ = old at hcell
      rw [← hm] at hki hki1 Hst Hb2 ⊢
      have Hm := Lib.hid hm
      clear hm
      unfold iv at Hst Hb2
      have hi9 : (i : Int) ≤ 100000000 := by omega
      go_wp2_with fail
      go_roundw
      case rel => exact ⟨i + 1, by omega, by go_num, by rw [Hm.out]; go_num, Hst.out.1, Hb2.out⟩
      case measure => simp [intOf]; omega
    · obtain rfl : i = xs.length := by omega
      have Ho := Lib.hid (show wr.ownsRow B 3 1 (.slice aa xs.length ca) xs.length ((marksI k xs.length).map iv) by simpa using ho)
      clear ho
      go_wp2_with fail
      go_ret
      exact ⟨rfl, Ho.out, hbel⟩




end Go.Proofs.YtcmnldomcpjlcaaGreat
