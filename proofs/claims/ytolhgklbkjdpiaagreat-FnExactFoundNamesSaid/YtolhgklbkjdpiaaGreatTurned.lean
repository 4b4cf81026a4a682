/- Words for what has turned: only blocks of a set, and new ones. -/
import Derived.Test.YtolhgklbkjdpiaaGreatTreeMem
import Derived.Maps.AppendAt
set_option linter.unusedVariables false
set_option linter.unusedSimpArgs false
namespace Go.Proofs.YtolhgklbkjdpiaaGreat.Nm
open Go.RowKit

/-- Only blocks of S have turned among those that were there. -/
structure Turned (S : Nat → Prop) (w w' : World) : Prop where
  os : w'.os = w.os
  tape : w'.tape = w.tape
  output : w'.output = w.output
  size : w.heap.size ≤ w'.heap.size
  block : ∀ k, k < w.heap.size → ¬ S k → w'.heap[k]? = w.heap[k]?
theorem Turned.refl (S : Nat → Prop) (w : World) : Turned S w w := ⟨rfl, rfl, rfl, Nat.le_refl _, fun _ _ _ => rfl⟩
theorem Turned.trans {S : Nat → Prop} {a b c : World} (h : Turned S a b) (k : Turned S b c) : Turned S a c :=
  ⟨k.os.trans h.os, k.tape.trans h.tape, k.output.trans h.output, Nat.le_trans h.size k.size, fun i hi hs => (k.block i (Nat.lt_of_lt_of_le hi h.size) hs).trans (h.block i hi hs)⟩
theorem Turned.mono {S S' : Nat → Prop} {a b : World} (h : Turned S a b) (hs : ∀ k, S k → S' k) : Turned S' a b := ⟨h.os, h.tape, h.output, h.size, fun k hk hn => h.block k hk (fun e => hn (hs k e))⟩
theorem Turned.of_below {S : Nat → Prop} {a b : World} (h : Below a.heap.size a b) : Turned S a b := ⟨h.os, h.tape, h.output, h.size, fun k hk _ => h.block k hk⟩
theorem Turned.step {S : Nat → Prop} {a b c : World} (h : Turned S a b) (k : Below b.heap.size b c) : Turned S a c := h.trans (.of_below k)
theorem Turned.set {S : Nat → Prop} {a b : World} (h : Turned S a b) {p : Addr} (hp : S p.block) (u : Value) : Turned S a (b.setCell p u) :=
  h.trans ⟨rfl, rfl, rfl, by simp [World.setCell], fun k _ hk => Below.heap_setCell _ _ _ _ (fun e => hk (by rw [e]; exact hp))⟩
theorem Turned.drew {S : Nat → Prop} {a b : World} (h : Turned S a b) : Turned S a b.drew := ⟨h.os, h.tape, h.output, h.size, h.block⟩
theorem Turned.alloc {S : Nat → Prop} {a b : World} (h : Turned S a b) (o : Obj) : Turned S a (b.alloc o) := h.step (ba (Below.refl _ _) o)
theorem Turned.below {S : Nat → Prop} {B : Nat} {a b : World} (h : Turned S a b) (hB : B ≤ a.heap.size) (hs : ∀ k, S k → B ≤ k) : Below B a b :=
  ⟨h.os, h.tape, h.output, h.size, fun k hk => h.block k (by omega) (fun e => by have := hs k e; omega)⟩
theorem Turned.grown {S : Nat → Prop} {a b c : World} {row : Option Nat} (h : Turned S a b) (hg : b.grownBy c row) (hr : ∀ j, row = some j → j < a.heap.size → S j) : Turned S a c :=
  ⟨hg.os.trans h.os, hg.tape.trans h.tape, hg.output.trans h.output, Nat.le_trans h.size hg.size, fun j hj hn => (hg.block j (Nat.lt_of_lt_of_le hj h.size) (fun e => hn (hr j e.symm hj))).trans (h.block j hj hn)⟩
theorem at_or {g2 g n2 c2 n c W B : Nat} (h : (Value.slice (some ⟨g2, 0, none⟩) n2 c2).ownBlock = (Value.slice (some ⟨g, 0, none⟩) n c).ownBlock ∨ (Value.slice (some ⟨g2, 0, none⟩) n2 c2).ownBlock = some W) (hW : B ≤ W) : g2 = g ∨ B ≤ g2 := by
  rcases h with h | h
  · exact .inl (Option.some.inj h)
  · have := Option.some.inj h
    exact .inr (by dsimp only at this; omega)
end Go.Proofs.YtolhgklbkjdpiaaGreat.Nm
