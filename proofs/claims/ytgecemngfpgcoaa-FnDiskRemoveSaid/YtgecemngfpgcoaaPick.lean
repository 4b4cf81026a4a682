/- Contracts of the reader that draws: whatever the code, a pick lies in its range, and an answer is one of those that were offered. -/
import Derived.Test.YtgecemngfpgcoaaTools
import Derived.StillTailTactics
set_option linter.unusedVariables false
set_option linter.unusedSimpArgs false
namespace Go.Proofs.Ytgecemngfpgcoaa
open Go.RowKit Go.Proofs.Ytgecemngfpgcoaa.Nm

theorem i64_xor_nonneg (a b : Nat) (ha : a < 2 ^ 40) (hb : b < 2 ^ 40) : 0 ≤ bits .xor .i64 (a : Int) (b : Int) ∧ bits .xor .i64 (a : Int) (b : Int) < 2 ^ 40 := by
  have hx : a ^^^ b < 2 ^ 40 := Nat.xor_lt_two_pow ha hb
  have h1 : (BitVec.ofInt 64 (a : Int)).toNat = a := by
    rw [BitVec.ofInt_natCast, BitVec.toNat_ofNat]; exact Nat.mod_eq_of_lt (by omega)
  have h2 : (BitVec.ofInt 64 (b : Int)).toNat = b := by
    rw [BitVec.ofInt_natCast, BitVec.toNat_ofNat]; exact Nat.mod_eq_of_lt (by omega)
  have e : bits .xor .i64 (a : Int) (b : Int) = ((a ^^^ b : Nat) : Int) := by
    show IntKind.i64.wrap ((BitVec.ofInt 64 (a : Int) ^^^ BitVec.ofInt 64 (b : Int)).toNat : Int) = _
    rw [BitVec.toNat_xor, h1, h2]
    simp [IntKind.wrap, IntKind.bits, IntKind.signed]
    omega
  rw [e]; omega

theorem pick_val (x m : Int) (h0 : 0 ≤ x) (h1 : x < 2 ^ 40) (hm : 1 ≤ m) : 0 ≤ (bits .xor .i64 x (x / 64)).tmod m ∧ (bits .xor .i64 x (x / 64)).tmod m < m := by
  obtain ⟨y, rfl⟩ := Int.eq_ofNat_of_zero_le h0
  have e : ((y : Int) / 64) = ((y / 64 : Nat) : Int) := rfl
  have h := i64_xor_nonneg y (y / 64) (by omega) (by omega)
  rw [e]
  generalize bits .xor .i64 (y : Int) ((y / 64 : Nat) : Int) = z at *
  rw [Int.tmod_eq_emod_of_nonneg h.1]
  exact ⟨Int.emod_nonneg _ (by omega), Int.emod_lt_of_pos _ (by omega)⟩

/-- The bytes that a reader holds: none, or n cells below block lim, each a byte. -/
def Code (w : World) (lim : Nat) (a : Option Addr) (n cap : Nat) : Prop :=
  (n = 0 ∧ cap ≤ maxLen) ∨ ∃ b off, a = some ⟨b, off, none⟩ ∧ b < lim ∧ n ≤ cap ∧ cap ≤ maxLen ∧
    ∀ i, i < n → ∃ c : Int, 0 ≤ c ∧ c ≤ 255 ∧ w.cell? ⟨b, off + i, none⟩ = some (.int .u8 c)

/-- Block R holds a reader that has picked q times. -/
def Rd (w : World) (R q : Nat) : Prop :=
  ∃ a n cap, w.heap[R]? = some (.cells #[.slice a n cap, .int .i64 q] 116 (0, 0)) ∧ n ≤ 2000 ∧ Code w R a n cap

/-- What a pick comes to. -/
def Picked (R q : Nat) (m : Int) (w : World) (e : Ending) (w' : World) : Prop :=
  ∃ j : Int, e = .returned (.int .i64 j) ∧ 0 ≤ j ∧ (j < m ∨ (m < 1 ∧ j = 0)) ∧ Rd w' R (q + 1) ∧ w.grownBy w' (some R)

theorem heap_set (w : World) (R : Nat) (x y v : Value) (T : TypeId) (h : w.heap[R]? = some (.cells #[x, y] T (0, 0))) :
    (w.setCell ⟨R, 1, none⟩ v).heap[R]? = some (.cells #[x, v] T (0, 0)) := by
  simp [World.setCell, Array.getElem?_modify, h]

theorem heap_set_other (w : World) (R : Nat) (v : Value) (k : Nat) (h : k ≠ R) : (w.setCell ⟨R, 1, none⟩ v).heap[k]? = w.heap[k]? :=
  Below.heap_setCell w ⟨R, 1, none⟩ v k h

theorem Code.keep {w w' : World} {lim : Nat} {a : Option Addr} {n cap : Nat} (h : Code w lim a n cap) (hk : ∀ k, k < lim → w'.heap[k]? = w.heap[k]?) : Code w' lim a n cap := by
  rcases h with h | ⟨b, off, h1, h2, h3, h4, h5⟩
  · exact .inl h
  · refine .inr ⟨b, off, h1, h2, h3, h4, fun i hi => ?_⟩
    obtain ⟨c, c1, c2, c3⟩ := h5 i hi
    exact ⟨c, c1, c2, by rw [World.cell?_of_block (w := w) (hk b h2)]; exact c3⟩

theorem pick_end {w : World} {R q n cap : Nat} {a : Option Addr} (h : w.heap[R]? = some (.cells #[.slice a n cap, .int .i64 q] 116 (0, 0))) (hn : n ≤ 2000) (hc : Code w R a n cap) (d : Nat) :
    Rd ((w.setCell ⟨R, 1, none⟩ (.int .i64 (q + 1))).drewN d) R (q + 1) ∧ w.grownBy ((w.setCell ⟨R, 1, none⟩ (.int .i64 (q + 1))).drewN d) (some R) :=
  ⟨⟨a, n, cap, heap_set w R _ _ _ _ h, hn, hc.keep (fun k hk => heap_set_other w R _ k (by omega))⟩,
    ⟨rfl, rfl, rfl, by simp, fun k _ hk => heap_set_other w R _ k (fun e => hk (by rw [e]))⟩⟩

set_option maxRecDepth 100000 in
set_option maxHeartbeats 1000000 in
theorem reader_pick (R q : Nat) (m : Int) (w : World) (hr : Rd w R q) (hq : q ≤ 1000000) (hm : m ≤ 1000000) :
    Calls Try.prog 43 #[.pointer (some ⟨R, 0, none⟩), .int .i64 m] w (Picked R q m w) := by
  obtain ⟨a, n, cap, hR, hn, hcode⟩ := hr
  have h0 : w.cell? ⟨R, 0, none⟩ = some (.slice a n cap) := by simp [World.cell?, hR]
  have h1 : w.cell? ⟨R, 1, none⟩ = some (.int .i64 q) := by simp [World.cell?, hR]
  have hf1 : w.frozen? ⟨R, 1, none⟩ = false := by simp [World.frozen?, hR]
  have fin := Lib.hid (pick_end hR hn hcode)
  by_cases hm1 : m < 1
  · clear hR hcode
    go_enter Try.func43, Try.ntmps43
    go_wp2_with fail
    go_ret
    exact ⟨0, rfl, by omega, .inr ⟨hm1, rfl⟩, (fin.out 0).1, (fin.out 0).2⟩
  · rcases hcode with ⟨rfl, hcm⟩ | ⟨b, off, rfl, hb, hl, hcm, hc⟩
    · clear hR
      go_enter Try.func43, Try.ntmps43
      go_wp2_with fail
      go_ret
      exact ⟨0, rfl, by omega, .inl (by omega), (fin.out 0).1, (fin.out 0).2⟩
    · by_cases hn0 : n = 0
      · subst hn0
        clear hR hc
        go_enter Try.func43, Try.ntmps43
        go_wp2_with fail
        go_ret
        exact ⟨0, rfl, by omega, .inl (by omega), (fin.out 0).1, (fin.out 0).2⟩
      · have hnb : ((n : Int) == 0) = false := by rw [beq_eq_false_iff_ne]; omega
        have hce : ∀ i, i < n → ∃ c : Int, 0 ≤ c ∧ c ≤ 255 ∧ (w.setCell ⟨R, 1, none⟩ (.int .i64 (q + 1))).cell? ⟨b, off + i, none⟩ = some (.int .u8 c) := fun i hi => by
          obtain ⟨c, c1, c2, c3⟩ := hc i hi
          exact ⟨c, c1, c2, by rw [World.cell?_of_block (w := w) (heap_set_other w R _ b (by omega))]; exact c3⟩
        clear hR hc
        by_cases hqn : q < n
        · obtain ⟨c, c1, c2, c3⟩ := hce q hqn
          clear hce
          go_enter Try.func43, Try.ntmps43
          go_wp2_with fail
          go_ret
          refine ⟨c % m, rfl, Int.emod_nonneg _ (by omega), .inl (Int.emod_lt_of_pos _ (by omega)), (fin.out 0).1, (fin.out 0).2⟩
        · obtain ⟨c, c1, c2, c3⟩ := hce (q % n) (Nat.mod_lt _ (by omega))
          obtain ⟨d, d1, d2, d3⟩ := hce ((q * 7 + 3) % n) (Nat.mod_lt _ (by omega))
          clear hce
          go_enter Try.func43, Try.ntmps43
          go_wp2_with fail
          have hs0 : (w.setCell ⟨R, 1, none⟩ (.int .i64 (q + 1))).cell? ⟨R, 0, none⟩ = some (.slice (some ⟨b, off, none⟩) n cap) := by
            rw [World.cell?_setCell_other _ _ _ _ (by simp)]; exact h0
          clear h0 h1 hf1
          generalize w.setCell ⟨R, 1, none⟩ (.int .i64 (q + 1)) = w1 at *
          have e1 : ((q : Int).tmod (n : Int)) = ((q % n : Nat) : Int) := by rw [Int.tmod_eq_emod_of_nonneg (by omega)]; rfl
          have e2 : (((q : Int) * 7 + 3).tmod (n : Int)) = (((q * 7 + 3) % n : Nat) : Int) := by rw [Int.tmod_eq_emod_of_nonneg (by omega)]; rfl
          have e3 : ((q : Int).tdiv (n : Int)) = ((q / n : Nat) : Int) := by rw [Int.tdiv_eq_ediv_of_nonneg (by omega)]; rfl
          have l1 := Nat.mod_lt q (show n > 0 by omega)
          have l2 := Nat.mod_lt (q * 7 + 3) (show n > 0 by omega)
          have l3 : q / n ≤ q := Nat.div_le_self _ _
          generalize q % n = i1 at *
          generalize (q * 7 + 3) % n = i2 at *
          generalize q / n = i3 at *
          have g1 : IntKind.i64.wrap (q : Int) = q := IntWalk.i64_in _ (by omega)
          go_quiet (fail)
          go_wp2_with fail
          go_ret
          have hx := pick_val (c * 131 + d * 1117 + (q : Int) * 29 + (i3 : Int) * 53) m (by omega) (by omega) hm1
          exact ⟨_, rfl, hx.1, .inl hx.2, (fin.out _).1, (fin.out _).2⟩

end Go.Proofs.Ytgecemngfpgcoaa
