/- Contracts of the functions that draw arguments: whatever the code, they answer texts of bounded length. -/
import Derived.Test.YtekgongbffaenaaPick
set_option linter.unusedVariables false
set_option linter.unusedSimpArgs false
namespace Go.Proofs.Ytekgongbffaenaa
open Go.RowKit Go.Proofs.Ytekgongbffaenaa.Nm

theorem Rd.lt {w : World} {R q : Nat} (h : Rd w R q) : R < w.heap.size := by
  obtain ⟨a, n, cap, h, _⟩ := h
  exact (Array.getElem?_eq_some_iff.1 h).1

theorem Rd.keep {w w' : World} {R q : Nat} (h : Rd w R q) (hk : ∀ k, k ≤ R → w'.heap[k]? = w.heap[k]?) : Rd w' R q := by
  obtain ⟨a, n, cap, h1, h2, h3⟩ := h
  exact ⟨a, n, cap, by rw [hk R (Nat.le_refl _)]; exact h1, h2, h3.keep (fun k hk' => hk k (by omega))⟩

theorem Rd.alloc {w : World} {R q : Nat} (h : Rd w R q) (o : Obj) : Rd (w.alloc o) R q :=
  h.keep (fun k hk => Below.heap_alloc w o k (by have := h.lt; omega))

theorem Rd.below {w w' : World} {R q B : Nat} (h : Rd w R q) (hb : Below B w w') (hB : R < B) : Rd w' R q :=
  h.keep (fun k hk => hb.block k (by omega))

theorem gb_refl (w : World) (r : Option Nat) : w.grownBy w r := ⟨rfl, rfl, rfl, Nat.le_refl _, fun _ _ _ => rfl⟩

theorem gb_trans {a b c : World} {r : Option Nat} (h : a.grownBy b r) (k : b.grownBy c r) : a.grownBy c r :=
  ⟨k.os.trans h.os, k.tape.trans h.tape, k.output.trans h.output, Nat.le_trans h.size k.size, fun i hi hr => (k.block i (Nat.lt_of_lt_of_le hi h.size) hr).trans (h.block i hi hr)⟩

theorem gb_below {a b : World} (h : Below a.heap.size a b) (r : Option Nat) : a.grownBy b r := ⟨h.os, h.tape, h.output, h.size, fun i hi _ => h.block i hi⟩

theorem below_gb {B : Nat} {a b c : World} {R : Nat} (h : Below B a b) (hB : B ≤ b.heap.size) (hR : B ≤ R) (hg : b.grownBy c (some R)) : Below B a c :=
  h.grown hg hB (fun k e => by cases e; exact hR)

theorem Reads.gb {w w' : World} {v : Value} {xs : List Bs} {R q : Nat} (h : Reads w v xs) (hR : Rd w R q) (hg : w.grownBy w' (some R)) : Reads w' v xs := by
  rcases h with h | ⟨b, off, cap, h1, h2, h3, h4, h5⟩
  · exact .inl h
  · refine .inr ⟨b, off, cap, h1, h2, h3, Nat.lt_of_lt_of_le h4 hg.size, fun k hk => ?_⟩
    obtain ⟨a, n, c, hRR, _⟩ := hR
    have hne : b ≠ R := by
      rintro rfl
      have := h5 k hk
      simp only [World.cell?, hRR] at this
      match he : off + k, this with
      | 0, this => simp at this
      | 1, this => simp at this
      | j + 2, this => simp at this
    rw [World.cell?_of_block (w := w) (hg.block b h4 (fun e => hne (Option.some.inj e)))]
    exact h5 k hk

/-- What a drawn string comes to. -/
def DrawS (R q c B : Nat) (w : World) (e : Ending) (w' : World) : Prop :=
  ∃ p : Bs, e = .returned (.string (mk p)) ∧ p.length ≤ B ∧ ∃ q', q' ≤ q + c ∧ Rd w' R q' ∧ w.grownBy w' (some R)

def DrawOf (xs : List Bs) (R q : Nat) (w : World) (e : Ending) (w' : World) : Prop :=
  ∃ p : Bs, p ∈ xs ∧ e = .returned (.string (mk p)) ∧ Rd w' R (q + 1) ∧ w.grownBy w' (some R)

set_option maxRecDepth 100000 in
set_option maxHeartbeats 400000 in
theorem spec_newReader (a : Option Addr) (n cap : Nat) (w : World) (hc : Code w w.heap.size a n cap) :
    Calls Try.prog 8 #[.slice a n cap] w fun e w' => e = .returned (.pointer (some ⟨w.heap.size, 0, none⟩)) ∧ Rd w' w.heap.size 0 ∧ Below w.heap.size w w' := by
  have hcap : n ≤ cap ∧ cap ≤ maxLen := by
    rcases hc with ⟨rfl, h⟩ | ⟨b, off, _, _, h1, h2, _⟩
    · exact ⟨Nat.zero_le _, h⟩
    · exact ⟨h1, h2⟩
  obtain ⟨hl, hm⟩ := hcap
  have hm' := hm
  unfold maxLen at hm'
  have Hm := Lib.hid hm
  clear hm
  have Hc := Lib.hid hc
  clear hc
  have fin : ∀ n', n' ≤ n → n' ≤ 2000 → Rd (w.alloc (.cells #[.slice a n' cap, .int .i64 0] 35)) w.heap.size 0 ∧ Below w.heap.size w (w.alloc (.cells #[.slice a n' cap, .int .i64 0] 35)) := fun n' h1 h2 => by
    refine ⟨⟨a, n', cap, ?_, h2, ?_⟩, (Below.refl _ _).alloc (Nat.le_refl _) _⟩
    · show (w.heap.push (Obj.cells #[.slice a n' cap, .int .i64 0] 35 (0, 0)))[w.heap.size]? = _
      simp
    · refine Code.keep (w := w) ?_ (fun k hk => Below.heap_alloc w _ k hk)
      rcases Hc.out with ⟨rfl, h4⟩ | ⟨b, off, h3, h4, h5, h6, h7⟩
      · exact .inl ⟨by omega, h4⟩
      · exact .inr ⟨b, off, h3, h4, by omega, h6, fun i hi => h7 i (by omega)⟩
  have Fin := Lib.hid fin
  clear fin
  by_cases h2 : 2000 < n
  · have h2' : (2000 : Int) < (n : Int) := by omega
    go_enter Try.func8, Try.ntmps8
    go_wp2_with fail
    go_ret
    exact ⟨rfl, Fin.out 2000 (by omega) (by omega)⟩
  · have h2' : ¬ (2000 : Int) < (n : Int) := by omega
    go_enter Try.func8, Try.ntmps8
    go_wp2_with fail
    go_ret
    exact ⟨rfl, Fin.out n (by omega) (by omega)⟩


def ivN (n : Int) : Value := .int .i64 n

theorem heap_new (w : World) (c : Array Value) (T : TypeId) : (w.alloc (.cells c T)).heap[w.heap.size]? = some (.cells c T (0, 0)) := by
  show (w.heap.push (Obj.cells c T (0, 0)))[w.heap.size]? = _
  simp

theorem mem_len {xs : List Bs} {p : Bs} (B : Nat) (h : xs.all (fun p => decide (p.length ≤ B)) = true) (hp : p ∈ xs) : p.length ≤ B := by
  rw [List.all_eq_true] at h; simpa using h p hp

theorem mem_int {xs : List Int} {p : Int} (A B : Int) (h : xs.all (fun p => decide (A ≤ p) && decide (p ≤ B)) = true) (hp : p ∈ xs) : A ≤ p ∧ p ≤ B := by
  rw [List.all_eq_true] at h; simpa using h p hp






end Go.Proofs.Ytekgongbffaenaa
