/- The function that draws a tree: whatever the code, it answers a short one, in memory of its own. -/
import Derived.Test.YtgecemngfpgcoaaDrawF
import Derived.Test.YtgecemngfpgcoaaTrees
import Derived.Test.YtgecemngfpgcoaaPlainG
import Derived.Test.YtgecemngfpgcoaaMarks2
set_option linter.unusedVariables false
set_option linter.unusedSimpArgs false
namespace Go.Proofs.Ytgecemngfpgcoaa
open Go.RowKit Go.Proofs.Ytgecemngfpgcoaa.Nm

theorem OwnFils.gb {w w' : World} {B R : Nat} {v : Value} {ps : List (Fil × Value)} (h : OwnFils w B v ps) (hg : w.grownBy w' (some R)) (hR : R < B) : OwnFils w' B v ps :=
  ⟨owns_heap h.1 (fun b hb => hg.block b (owns_block h.1 hb).2 (fun e => by have h1 := (owns_block h.1 hb).1; have := Option.some.inj e; omega)),
   h.2.heap (fun b hB hlt _ => hg.block b hlt (fun e => by have := Option.some.inj e; omega))⟩
theorem OwnFils.set_at {w : World} {B : Nat} {v : Value} {ps : List (Fil × Value)} (h : OwnFils w B v ps) {p : Addr} (hp : p.block < B) (u : Value) : OwnFils (w.setCell p u) B v ps := h.set_low hp u
/-- One more file with its own body behind others, in a call that draws. -/
theorem fils_snocD {wr w4 W w7 : World} {B R : Nat} {ov v7 : Value} {qs : List (Fil × Value)} {q : Fil × Value} (h : OwnFils wr B ov qs) (hg4 : wr.grownBy w4 (some R)) (hR : R < B) (hb : Below w4.heap.size w4 W) (hB : B ≤ wr.heap.size)
    (hq : w4.ownsRow wr.heap.size 138 5 q.2 q.1.body.length (q.1.body.flatMap stmCells)) (hg : W.grownBy w7 ov.ownBlock)
    (h7 : w7.ownsRow B 36 6 v7 (qs.length + 1) (qs.flatMap filCells ++ filCells q)) : OwnFils w7 B v7 (qs ++ [q]) := by
  refine ⟨by simpa using h7, ?_⟩
  have h4 := h.gb hg4 hR
  have hW := h4.below hb
  have h1 : OwnBodies W B (qs ++ [q]) := by
    refine ⟨fun p hp => ?_, ?_⟩
    · rcases List.mem_append.1 hp with hp | hp
      · exact hW.2.1 p hp
      · simp at hp; subst hp; exact owns_mono (owns_below hq hb) hB
    · rw [List.pairwise_append]
      refine ⟨h.2.2, by simp, fun p hp x hx b hpb => ?_⟩
      simp at hx; subst hx
      intro hxb
      have e1 := owns_block (h.2.1 p hp) hpb
      have e2 := owns_block hq hxb
      omega
  exact h1.heap (fun b _ hlt ⟨p, hp, hpb⟩ => hg.block b hlt (fun e => own_types (T := 36) (T' := 138) (by decide) hW.1 (h1.1 p hp) e.symm hpb))
/-- A box stays while a row behind it grows. -/
theorem Dst.keepD {w w1 w2 : World} {R X : Nat} {cs : Array Value} {row : Option Nat} (h : Dst w R X cs w1) (hg : w1.grownBy w2 row) (hX : X < w1.heap.size) (hr : ∀ b, row = some b → X ≠ b) (hw : ∀ b, row = some b → w.heap.size ≤ b := by assumption) : Dst w R X cs w2 := by
  obtain ⟨⟨b1, b2⟩, f, g, hx, hw0⟩ := h
  have hb := hg.block X b1 (fun e => hr X e.symm rfl)
  refine ⟨⟨Nat.lt_of_lt_of_le b1 hg.size, fun i => ?_⟩, fun j => ?_, gb_own g hg hw, hx, hw0⟩
  · rw [World.cell?_of_block (w := w1) hb]; exact b2 i
  · rw [show w2.frozen? ⟨X, j, none⟩ = w1.frozen? ⟨X, j, none⟩ by simp only [World.frozen?, hb]]; exact f j
theorem len1D {v : Value} {w : World} {B : Nat} {ps : List (Fil × Value)} (h : OwnFils w B v ps) : ∃ a c, v = .slice a ps.length c := owns_shape h.1
/-- What a function that draws a tree comes to: it, too, says how the row lies. -/
def DrawTree0 (R q c : Nat) (w : World) (e : Ending) (w' : World) : Prop :=
  ∃ (v : Value) (ps : List (Fil × Value)), e = .returned (.agg #[v]) ∧ OwnFils w' w.heap.size v ps ∧ ShortT 8 (ps.map (·.1)) ∧ ps.length ≤ 10 ∧ (∀ p ∈ ps, p.1.body.length ≤ 4) ∧ ∃ q', q' ≤ q + c ∧ Rd w' R q' ∧ w.grownBy w' (some R)
/-- .. and the tree is a valid one. -/
def DrawTree0K (R q c : Nat) (w : World) (e : Ending) (w' : World) : Prop :=
  ∃ (v : Value) (ps : List (Fil × Value)), e = .returned (.agg #[v]) ∧ okTree (ps.map (·.1)) = true ∧ OwnFils w' w.heap.size v ps ∧ ShortT 8 (ps.map (·.1)) ∧ ps.length ≤ 10 ∧ (∀ p ∈ ps, p.1.body.length ≤ 4) ∧ ∃ q', q' ≤ q + c ∧ Rd w' R q' ∧ w.grownBy w' (some R)
theorem okTree_nil : okTree [] = true := by decide
theorem okTree_snoc {t : List Fil} {f : Fil} (h : okTree t = true) (hf : okFil f = true) (hl : t.length ≤ 11) (hp : firstAt t (place f) < 0) : okTree (t ++ [f]) = true := by
  have h1 : firstAt t (place f) = -1 := by
    rcases (firstAt_ge t (place f)).2 with h | h
    · exact h
    · omega
  have h2 := firstAt_none.1 h1
  obtain ⟨ha, hb, hc⟩ := okTree_all h
  unfold okTree
  simp only [List.all_append, ha, List.all_cons, hf, List.all_nil, Bool.and_true, Bool.true_and, List.map_append, List.map_cons, List.map_nil, Bool.and_eq_true, decide_eq_true_eq, List.length_append, List.length_cons, List.length_nil]
  refine ⟨?_, by omega⟩
  rw [List.nodup_append]
  refine ⟨hb, by simp, fun x hx y hy => ?_⟩
  simp at hy; subst hy
  obtain ⟨g, hg, rfl⟩ := List.mem_map.1 hx
  exact h2 g hg
end Go.Proofs.Ytgecemngfpgcoaa
