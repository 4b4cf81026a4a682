/- Contracts of the functions that draw arguments: whatever the code, they answer texts of bounded length. -/
import Derived.Test.YtgecemngfpgcoaaPick
set_option linter.unusedVariables false
set_option linter.unusedSimpArgs false
namespace Go.Proofs.Ytgecemngfpgcoaa
open Go.RowKit Go.Proofs.Ytgecemngfpgcoaa.Nm

theorem Rd.lt {w : World} {R q : Nat} (h : Rd w R q) : R < w.heap.size := by
  obtain ⟨a, n, cap, h, _⟩ := h
  exact (Array.getElem?_eq_some_iff.1 h).1

theorem Rd.keep {w w' : World} {R q : Nat} (h : Rd w R q) (hk : ∀ k, k ≤ R → w'.heap[k]? = w.heap[k]?) : Rd w' R q := by
  obtain ⟨a, n, cap, h1, h2, h3⟩ := h
  exact ⟨a, n, cap, by rw [hk R (Nat.le_refl _)]; exact h1, h2, h3.keep (fun k hk' => hk k (by omega))⟩

theorem Rd.alloc {w : World} {R q : Nat} (h : Rd w R q) (o : Obj) : Rd (w.alloc o) R q :=
  h.keep (fun k hk => Below.heap_alloc w o k (by have := h.lt; omega))

theorem Rd.below {w w' : World} {R q B : Nat} (h : Rd w R q) (hb : Below B w w') (hB : R < B) : Rd w' R q :=
  h.keep (fun k hk => hb.block k (by omega))

theorem gb_refl (w : World) (r : Option Nat) : w.grownBy w r := ⟨rfl, rfl, rfl, Nat.le_refl _, fun _ _ _ => rfl⟩

theorem gb_trans {a b c : World} {r : Option Nat} (h : a.grownBy b r) (k : b.grownBy c r) : a.grownBy c r :=
  ⟨k.os.trans h.os, k.tape.trans h.tape, k.output.trans h.output, Nat.le_trans h.size k.size, fun i hi hr => (k.block i (Nat.lt_of_lt_of_le hi h.size) hr).trans (h.block i hi hr)⟩

theorem gb_below {a b : World} (h : Below a.heap.size a b) (r : Option Nat) : a.grownBy b r := ⟨h.os, h.tape, h.output, h.size, fun i hi _ => h.block i hi⟩

theorem below_gb {B : Nat} {a b c : World} {R : Nat} (h : Below B a b) (hB : B ≤ b.heap.size) (hR : B ≤ R) (hg : b.grownBy c (some R)) : Below B a c :=
  h.grown hg hB (fun k e => by cases e; exact hR)

theorem Reads.gb {w w' : World} {v : Value} {xs : List Bs} {R q : Nat} (h : Reads w v xs) (hR : Rd w R q) (hg : w.grownBy w' (some R)) : Reads w' v xs := by
  rcases h with h | ⟨b, off, cap, h1, h2, h3, h4, h5⟩
  · exact .inl h
  · refine .inr ⟨b, off, cap, h1, h2, h3, Nat.lt_of_lt_of_le h4 hg.size, fun k hk => ?_⟩
    obtain ⟨a, n, c, hRR, _⟩ := hR
    have hne : b ≠ R := by
      rintro rfl
      have := h5 k hk
      simp only [World.cell?, hRR] at this
      match he : off + k, this with
      | 0, this => simp at this
      | 1, this => simp at this
      | j + 2, this => simp at this
    rw [World.cell?_of_block (w := w) (hg.block b h4 (fun e => hne (Option.some.inj e)))]
    exact h5 k hk

/-- What a drawn string comes to. -/
def DrawS (R q c B : Nat) (w : World) (e : Ending) (w' : World) : Prop :=
  ∃ p : Bs, e = .returned (.string (mk p)) ∧ p.length ≤ B ∧ ∃ q', q' ≤ q + c ∧ Rd w' R q' ∧ w.grownBy w' (some R)

def DrawOf (xs : List Bs) (R q : Nat) (w : World) (e : Ending) (w' : World) : Prop :=
  ∃ p : Bs, p ∈ xs ∧ e = .returned (.string (mk p)) ∧ Rd w' R (q + 1) ∧ w.grownBy w' (some R)

set_option maxRecDepth 100000 in
set_option maxHeartbeats 400000 in
theorem spec_newReader (a : Option Addr) (n cap : Nat) (w : World) (hc : Code w w.heap.size a n cap) :
    Calls Try.prog 40 #[.slice a n cap] w fun e w' => e = .returned (.pointer (some ⟨w.heap.size, 0, none⟩)) ∧ Rd w' w.heap.size 0 ∧ Below w.heap.size w w' := by
  have hcap : n ≤ cap ∧ cap ≤ maxLen := by
    rcases hc with ⟨rfl, h⟩ | ⟨b, off, _, _, h1, h2, _⟩
    · exact ⟨Nat.zero_le _, h⟩
    · exact ⟨h1, h2⟩
  obtain ⟨hl, hm⟩ := hcap
  have hm' := hm
  unfold maxLen at hm'
  have Hm := Lib.hid hm
  clear hm
  have Hc := Lib.hid hc
  clear hc
  have fin : ∀ n', n' ≤ n → n' ≤ 2000 → Rd (w.alloc (.cells #[.slice a n' cap, .int .i64 0] 116)) w.heap.size 0 ∧ Below w.heap.size w (w.alloc (.cells #[.slice a n' cap, .int .i64 0] 116)) := fun n' h1 h2 => by
    refine ⟨⟨a, n', cap, ?_, h2, ?_⟩, (Below.refl _ _).alloc (Nat.le_refl _) _⟩
    · show (w.heap.push (Obj.cells #[.slice a n' cap, .int .i64 0] 116 (0, 0)))[w.heap.size]? = _
      simp
    · refine Code.keep (w := w) ?_ (fun k hk => Below.heap_alloc w _ k hk)
      rcases Hc.out with ⟨rfl, h4⟩ | ⟨b, off, h3, h4, h5, h6, h7⟩
      · exact .inl ⟨by omega, h4⟩
      · exact .inr ⟨b, off, h3, h4, by omega, h6, fun i hi => h7 i (by omega)⟩
  have Fin := Lib.hid fin
  clear fin
  by_cases h2 : 2000 < n
  · have h2' : (2000 : Int) < (n : Int) := by omega
    go_enter Try.func40, Try.ntmps40
    go_wp2_with fail
    go_ret
    exact ⟨rfl, Fin.out 2000 (by omega) (by omega)⟩
  · have h2' : ¬ (2000 : Int) < (n : Int) := by omega
    go_enter Try.func40, Try.ntmps40
    go_wp2_with fail
    go_ret
    exact ⟨rfl, Fin.out n (by omega) (by omega)⟩

set_option maxRecDepth 100000 in
set_option maxHeartbeats 400000 in
theorem reader_of (R q : Nat) (v : Value) (xs : List Bs) (w : World) (hr : Rd w R q) (hx : Reads w v xs) (h1 : 1 ≤ xs.length) (h2 : xs.length ≤ 1000) (hq : q ≤ 1000000) :
    Calls Try.prog 133 #[.pointer (some ⟨R, 0, none⟩), v] w (DrawOf xs R q w) := by
  have Hx := Lib.hid hx
  obtain ⟨b, off, cap, rfl, hl, hm, hb, hc⟩ := Reads.some hx h1
  clear hx hc
  have Hm := Lib.hid hm
  clear hm
  go_enter Try.func133, Try.ntmps133
  go_wp2_with fail
  refine (reader_pick R q _ _ hr hq (by omega)).mono ?_
  rintro e w1 ⟨j, rfl, hj0, hj, hr1, hg⟩
  have hx1 := Reads.gb Hx.out hr hg
  obtain ⟨b', off', cap', hv, _, _, _, hc⟩ := Reads.some hx1 h1
  simp only [Value.slice.injEq, Option.some.injEq, Addr.mk.injEq] at hv
  obtain ⟨⟨rfl, rfl, _⟩, _, rfl⟩ := hv
  obtain ⟨i, rfl⟩ := Int.eq_ofNat_of_zero_le hj0
  have hi : i < xs.length := by omega
  have hcell := hc i hi
  have hmem := Lib.hid (List.getElem_mem hi)
  have Hr := Lib.hid hr1
  clear hc hr1 hr hx1
  generalize xs[i] = p at *
  go_wp2_with fail
  go_ret
  exact ⟨p, hmem.out, rfl, Hr.out, hg⟩

def ivN (n : Int) : Value := .int .i64 n

theorem heap_new (w : World) (c : Array Value) (T : TypeId) : (w.alloc (.cells c T)).heap[w.heap.size]? = some (.cells c T (0, 0)) := by
  show (w.heap.push (Obj.cells c T (0, 0)))[w.heap.size]? = _
  simp

theorem mem_len {xs : List Bs} {p : Bs} (B : Nat) (h : xs.all (fun p => decide (p.length ≤ B)) = true) (hp : p ∈ xs) : p.length ≤ B := by
  rw [List.all_eq_true] at h; simpa using h p hp

theorem mem_int {xs : List Int} {p : Int} (A B : Int) (h : xs.all (fun p => decide (A ≤ p) && decide (p ≤ B)) = true) (hp : p ∈ xs) : A ≤ p ∧ p ≤ B := by
  rw [List.all_eq_true] at h; simpa using h p hp

set_option maxRecDepth 100000 in
set_option maxHeartbeats 400000 in
theorem reader_one (R q b : Nat) (T : TypeId) (xs : List Int) (w : World) (hr : Rd w R q) (hb : w.heap[b]? = some (.cells (xs.map ivN).toArray T (0, 0))) (hne : b ≠ R) (h1 : 1 ≤ xs.length) (h2 : xs.length ≤ 1000) (hq : q ≤ 1000000) :
    Calls Try.prog 42 #[.pointer (some ⟨R, 0, none⟩), .slice (some ⟨b, 0, none⟩) xs.length xs.length] w
      fun e w' => ∃ j : Int, j ∈ xs ∧ e = .returned (.int .i64 j) ∧ Rd w' R (q + 1) ∧ w.grownBy w' (some R) := by
  have hbl : b < w.heap.size := (Array.getElem?_eq_some_iff.1 hb).1
  have Hb := Lib.hid hb
  clear hb
  go_enter Try.func42, Try.ntmps42
  go_wp2_with fail
  refine (reader_pick R q _ _ hr hq (by omega)).mono ?_
  rintro e w1 ⟨j, rfl, hj0, hj, hr1, hg⟩
  obtain ⟨i, rfl⟩ := Int.eq_ofNat_of_zero_le hj0
  have hi : i < xs.length := by omega
  have hcell : w1.cell? ⟨b, i, none⟩ = some (.int .i64 xs[i]) := by
    rw [World.cell?_of_block (w := w) (hg.block b hbl (fun e => hne (Option.some.inj e)))]
    simp only [World.cell?, Hb.out]
    simp [hi, ivN]
  have hmem := Lib.hid (List.getElem_mem hi)
  have Hr := Lib.hid hr1
  clear hr1 hr
  generalize xs[i] = p at *
  go_wp2_with fail
  go_ret
  exact ⟨p, hmem.out, rfl, Hr.out, hg⟩

set_option maxRecDepth 100000 in
set_option maxHeartbeats 400000 in
theorem spec_aPart (R q : Nat) (w : World) (hr : Rd w R q) (hq : q ≤ 1000000) :
    Calls Try.prog 140 #[.pointer (some ⟨R, 0, none⟩)] w (DrawS R q 1 1 w) := by
  go_enter Try.func140, Try.ntmps140
  go_wp2_with fail
  refine (reader_of R q _ [[97], [98], [99], [97], [98]] _ (hr.alloc _) (reads_lit w [[97], [98], [99], [97], [98]] 9 (by decide)) (by decide) (by decide) hq).mono ?_
  rintro e w1 ⟨p, hp, rfl, hr1, hg⟩
  have Hp := Lib.hid hp
  have Hr := Lib.hid hr1
  have Hg := Lib.hid hg
  clear hp hr1 hg
  go_wp2_with fail
  go_ret
  exact ⟨p, rfl, mem_len 1 (by decide) Hp.out, q + 1, Nat.le_refl _, Hr.out, gb_trans (World.grownBy_alloc w _ _) Hg.out⟩


set_option maxRecDepth 100000 in
set_option maxHeartbeats 400000 in
theorem spec_aName (R q : Nat) (w : World) (hr : Rd w R q) (hq : q ≤ 900000) :
    Calls Try.prog 132 #[.pointer (some ⟨R, 0, none⟩)] w (DrawS R q 4 5 w) := by
  go_enter Try.func132, Try.ntmps132
  go_wp2_with fail
  refine (spec_aPart R q _ hr (by omega)).mono ?_
  rintro e w1 ⟨p, rfl, hp, q1, hq1, hr1, hg1⟩
  go_wp2_with fail
  have hlt := hr1.lt
  refine (reader_one R q1 w1.heap.size 3 [0, 1, 0, 1, 2] _ (hr1.alloc _) (heap_new w1 _ _) (by omega) (by decide) (by decide) (by omega)).mono ?_
  rintro e w2 ⟨n, hn, rfl, hr2, hg2⟩
  have hn' := mem_int 0 2 (by decide) hn
  have Hg := Lib.hid (gb_trans hg1 (gb_trans (World.grownBy_alloc w1 _ _) hg2))
  clear hn hg2 hg1
  go_wp2_with fail
  go_loopw [3, 4] (fun tv nv wr => ∃ (t : Bs) (k : Int) (q2 : Nat), tv = .string (mk t) ∧ nv = .int .i64 k ∧ 0 ≤ k ∧ k ≤ 2 ∧ (t.length : Int) + 2 * k ≤ 5 ∧ (q2 : Int) + k ≤ q + 4 ∧ Rd wr R q2 ∧ w.grownBy wr (some R)) (fun _ nv _ => (intOf nv).toNat)
  case atStart => exact ⟨p, n, q1 + 1, rfl, rfl, by omega, by omega, by omega, by omega, hr2, Hg.out⟩
  case round =>
    obtain ⟨t, k, q2, rfl, rfl, hk0, hk2, ht, hq2, hr3, hg3⟩ := hrel
    have Hg3 := Lib.hid hg3
    clear hg3
    by_cases hk : 0 < k
    · go_wp2_with fail
      refine (spec_aPart R q2 _ hr3 (by omega)).mono ?_
      rintro e w4 ⟨p4, rfl, hp4, q4, hq4, hr4, hg4⟩
      have Hg4 := Lib.hid (gb_trans Hg3.out hg4)
      clear hg4
      go_wp2_with fail
      go_roundw
      case rel => exact ⟨t ++ 46 :: p4, k - 1, q4, by simp, rfl, by omega, by omega, by simp; omega, by omega, hr4, Hg4.out⟩
      case measure => simp [intOf]; omega
    · go_wp2_with fail
      go_ret
      exact ⟨t, rfl, by omega, q2, by omega, hr3, Hg3.out⟩

set_option maxRecDepth 100000 in
set_option maxHeartbeats 400000 in
theorem spec_anyName (R q : Nat) (w : World) (hr : Rd w R q) (hq : q ≤ 800000) :
    Calls Try.prog 114 #[.pointer (some ⟨R, 0, none⟩)] w (DrawS R q 6 7 w) := by
  go_enter Try.func114, Try.ntmps114
  go_wp2_with fail
  refine (spec_aName R q _ hr (by omega)).mono ?_
  rintro e w1 ⟨p, rfl, hp, q1, hq1, hr1, hg1⟩
  go_wp2_with fail
  refine (reader_pick R q1 _ _ hr1 (by omega) (by omega)).mono ?_
  rintro e w2 ⟨j, rfl, hj0, hj, hr2, hg2⟩
  have Hg2 := Lib.hid (gb_trans hg1 hg2)
  clear hg1 hg2
  by_cases h0 : j = 0
  · subst h0
    go_wp2_with fail
    go_ret
    exact ⟨_, rfl, by simp; omega, q1 + 1, by omega, hr2, Hg2.out⟩
  · by_cases h1 : j = 1
    · subst h1
      go_wp2_with fail
      refine (reader_of R (q1 + 1) _ [[], [97, 46, 46, 98], [97, 46, 98, 46, 99, 46, 100], [65], [97, 98, 99, 100]] _ (hr2.alloc _) (reads_lit w2 [[], [97, 46, 46, 98], [97, 46, 98, 46, 99, 46, 100], [65], [97, 98, 99, 100]] 9 (by decide)) (by decide) (by decide) (by omega)).mono ?_
      rintro e w3 ⟨p3, hp3, rfl, hr3, hg3⟩
      have Hp := Lib.hid hp3
      have Hr := Lib.hid hr3
      have Hg := Lib.hid (gb_trans Hg2.out (gb_trans (World.grownBy_alloc w2 _ _) hg3))
      clear hp3 hr3 hg3
      go_wp2_with fail
      go_ret
      exact ⟨p3, rfl, mem_len 7 (by decide) Hp.out, q1 + 1 + 1, by omega, Hr.out, Hg.out⟩
    · have hj0b : (j == 0) = false := by simpa using h0
      have hj1b : (j == 1) = false := by simpa using h1
      go_wp2_with fail
      go_ret
      exact ⟨p, rfl, by omega, q1 + 1, by omega, hr2, Hg2.out⟩

set_option maxRecDepth 100000 in
set_option maxHeartbeats 400000 in
theorem spec_anyPackage (R q : Nat) (w : World) (hr : Rd w R q) (hq : q ≤ 700000) :
    Calls Try.prog 77 #[.pointer (some ⟨R, 0, none⟩)] w (DrawS R q 7 7 w) := by
  go_enter Try.func77, Try.ntmps77
  go_wp2_with fail
  refine (reader_pick R q _ _ hr (by omega) (by omega)).mono ?_
  rintro e w1 ⟨j, rfl, hj0, hj, hr1, hg⟩
  by_cases h0 : j = 0
  · subst h0
    go_wp2_with fail
    go_ret
    exact ⟨[], rfl, by simp, q + 1, by omega, hr1, hg⟩
  · have hjb : (j == 0) = false := by simpa using h0
    go_wp2_with fail
    refine (spec_anyName R (q + 1) _ hr1 (by omega)).mono ?_
    rintro e w2 ⟨p, rfl, hp, q', hq', hr2, hg2⟩
    go_wp2_with fail
    go_ret
    exact ⟨p, rfl, by omega, q', by omega, hr2, gb_trans hg hg2⟩
end Go.Proofs.Ytgecemngfpgcoaa
