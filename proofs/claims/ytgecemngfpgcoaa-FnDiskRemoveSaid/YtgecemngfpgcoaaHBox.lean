/- Boxes that lie in the heap: a block's cells with its type. -/
import Derived.Test.YtgecemngfpgcoaaMarks2
set_option linter.unusedVariables false
set_option linter.unusedSimpArgs false
namespace Go.Proofs.Ytgecemngfpgcoaa
open Go.RowKit Go.Proofs.Ytgecemngfpgcoaa.Nm

/-- Block X has the cells cs of the type T, which may all be written. -/
def HB (w : World) (X : Nat) (T : TypeId) (cs : Array Value) : Prop := w.heap[X]? = some (.cells cs T (0, 0))
theorem HB.new (w : World) (cs : Array Value) (T : TypeId) : HB (w.alloc (.cells cs T)) w.heap.size T cs := by
  show (w.heap.push (Obj.cells cs T (0, 0)))[w.heap.size]? = _
  simp
theorem HB.lt {w : World} {X : Nat} {T : TypeId} {cs : Array Value} (h : HB w X T cs) : X < w.heap.size := (Array.getElem?_eq_some_iff.1 h).1
theorem HB.cell {w : World} {X : Nat} {T : TypeId} {cs : Array Value} (h : HB w X T cs) (i : Nat) : w.cell? ⟨X, i, none⟩ = cs[i]? := by
  unfold HB at h; simp [World.cell?, h]
theorem HB.frozen {w : World} {X : Nat} {T : TypeId} {cs : Array Value} (h : HB w X T cs) (i : Nat) : w.frozen? ⟨X, i, none⟩ = false := by
  unfold HB at h; simp [World.frozen?, h]
theorem HB.below {w w' : World} {N X : Nat} {T : TypeId} {cs : Array Value} (h : HB w X T cs) (hb : Below N w w') (hX : X < N) : HB w' X T cs := (hb.block X hX).trans h
theorem HB.step {w w' : World} {X : Nat} {T : TypeId} {cs : Array Value} (h : HB w X T cs) (hb : Below w.heap.size w w') : HB w' X T cs := h.below hb h.lt
theorem HB.grown {w w' : World} {row : Option Nat} {X : Nat} {T : TypeId} {cs : Array Value} (h : HB w X T cs) (hg : w.grownBy w' row) (hn : row ≠ some X) : HB w' X T cs := (hg.block X h.lt (fun e => hn e.symm)).trans h
theorem HB.alloc {w : World} {X : Nat} {T : TypeId} {cs : Array Value} (h : HB w X T cs) (o : Obj) : HB (w.alloc o) X T cs := h.grown (World.grownBy_alloc w o none) (by simp)
theorem HB.drew {w : World} {X : Nat} {T : TypeId} {cs : Array Value} (h : HB w X T cs) : HB w.drew X T cs := h
theorem HB.other {w : World} {X : Nat} {T : TypeId} {cs : Array Value} (h : HB w X T cs) {p : Addr} (hp : X ≠ p.block) (v : Value) : HB (w.setCell p v) X T cs := (Below.heap_setCell w p v X hp).trans h
theorem HB.put {w : World} {X : Nat} {T : TypeId} {cs : Array Value} (h : HB w X T cs) (i : Nat) (v : Value) : HB (w.setCell ⟨X, i, none⟩ v) X T (cs.setIfInBounds i v) := by
  have hl := h.lt
  unfold HB at h ⊢
  rw [Array.getElem?_eq_getElem hl] at h
  simp only [World.setCell]
  rw [Array.getElem?_modify, Array.getElem?_eq_getElem hl]
  simp only [if_pos, Option.map_some]
  rw [Option.some.inj h]
  simp
theorem HB.apart {w : World} {X : Nat} {T : TypeId} {cs : Array Value} (h : HB w X T cs) {B s n : Nat} {e : TypeId} {v : Value} {xs : List Value} (hr : w.ownsRow B e s v n xs) (he : e ≠ T) : v.ownBlock ≠ some X := fun hb => by
  rcases hr.2 with ⟨rfl, _⟩ | ⟨g, cap, cur, rfl, _, hg, _⟩
  · cases hb
  · cases hb
    unfold HB at h
    rw [h] at hg
    cases hg
    exact he rfl
theorem HB.ne {w : World} {X Y : Nat} {T T' : TypeId} {cs cs' : Array Value} (h : HB w X T cs) (h' : HB w Y T' cs') (he : T ≠ T') : X ≠ Y := fun e => by
  subst e
  unfold HB at h h'
  rw [h] at h'
  cases h'
  exact he rfl
theorem HB.eq {w : World} {X : Nat} {T T' : TypeId} {cs cs' : Array Value} (h : HB w X T cs) (h' : HB w X T' cs') : cs = cs' := by
  unfold HB at h h'
  rw [h] at h'
  cases h'
  rfl
/-- A row's block that another box's store does not reach. -/
theorem owns_hbput {w : World} {X : Nat} {T : TypeId} {cs : Array Value} (h : HB w X T cs) {B s n : Nat} {e : TypeId} {v : Value} {xs : List Value} (hr : w.ownsRow B e s v n xs) (he : e ≠ T) (i : Nat) (u : Value) : (w.setCell ⟨X, i, none⟩ u).ownsRow B e s v n xs :=
  owns_heap hr (fun b hb => Below.heap_setCell w ⟨X, i, none⟩ u b (fun e' => h.apart hr he (by rw [hb, e'])))
/-- All blocks that were there stay as they were, but those of rows of the type T. -/
def KeepT (T : TypeId) (w w' : World) : Prop := w.heap.size ≤ w'.heap.size ∧ ∀ b, b < w.heap.size → (∀ cs, w.heap[b]? ≠ some (.cells cs T (0, 0))) → w'.heap[b]? = w.heap[b]?
theorem KeepT.of_below {T : TypeId} {w w' : World} (h : Below w.heap.size w w') : KeepT T w w' := ⟨h.size, fun b hb _ => h.block b hb⟩
theorem KeepT.trans {T : TypeId} {a b c : World} (h : KeepT T a b) (k : KeepT T b c) : KeepT T a c :=
  ⟨Nat.le_trans h.1 k.1, fun i hi hn => by
    have h1 := h.2 i hi hn
    rw [k.2 i (Nat.lt_of_lt_of_le hi h.1) (fun cs => by rw [h1]; exact hn cs), h1]⟩
theorem KeepT.grown {T : TypeId} {w w' : World} {B s n : Nat} {v : Value} {xs : List Value} (hr : w.ownsRow B T s v n xs) (hg : w.grownBy w' v.ownBlock) : KeepT T w w' :=
  ⟨hg.size, fun b hb hn => hg.block b hb (fun e => by
    rcases hr.2 with ⟨rfl, _⟩ | ⟨g, cap, cur, rfl, _, hg, _⟩
    · cases e
    · cases e; exact hn cur hg)⟩
theorem KeepT.put {T : TypeId} {w : World} {B s n : Nat} {v : Value} {xs : List Value} (hr : w.ownsRow B T s v n xs) {p : Addr} (hp : v.ownBlock = some p.block) (u : Value) : KeepT T w (w.setCell p u) :=
  ⟨by simp, fun b hb hn => Below.heap_setCell w p u b (fun e => by
    subst e
    rcases hr.2 with ⟨rfl, _⟩ | ⟨g, cap, cur, rfl, _, hg, _⟩
    · cases hp
    · cases hp; exact hn cur hg)⟩
theorem KeepT.new {T : TypeId} {w w' : World} (h : KeepT T w w') {p : Addr} (hp : w.heap.size ≤ p.block) (u : Value) : KeepT T w (w'.setCell p u) :=
  ⟨by simpa using h.1, fun b hb hn => (Below.heap_setCell w' p u b (by omega)).trans (h.2 b hb hn)⟩
theorem HB.keep {T T' : TypeId} {w w' : World} {X : Nat} {cs : Array Value} (h : HB w X T' cs) (k : KeepT T w w') (hT : T' ≠ T) : HB w' X T' cs :=
  (k.2 X h.lt (fun c e => by unfold HB at h; rw [h] at e; cases e; exact hT rfl)).trans h
end Go.Proofs.Ytgecemngfpgcoaa
