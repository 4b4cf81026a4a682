/- A range over a function whose iterator keeps cells of its own: own law over the library's first law of the statement. The caller's blocks are named by a set, which may turn from round to round; the iterator turns none of them, and a round turns no other. Nothing of the program stands here. -/
import Derived.RangeFuncNested
import Derived.RangeFuncBound
import Derived.RangeFuncCalls
import Derived.RangeFuncLeaves
import Derived.Below
set_option linter.unusedVariables false
namespace Go.Proofs.YtfchakfkgmhagaaGreat
open Go.RowKit

/-- From W with the blocks C to W' with the blocks C': what lay outside C lies as it lay; what is new in C' is new in the heap. -/
structure StepC (C : Nat → Prop) (W : World) (C' : Nat → Prop) (W' : World) : Prop where
  os : W'.os = W.os
  tape : W'.tape = W.tape
  output : W'.output = W.output
  size : W.heap.size ≤ W'.heap.size
  block : ∀ b, b < W.heap.size → ¬ C b → W'.heap[b]? = W.heap[b]?
  sub : ∀ b, C' b → C b ∨ W.heap.size ≤ b
theorem StepC.refl (C : Nat → Prop) (W : World) : StepC C W C W := ⟨rfl, rfl, rfl, Nat.le_refl _, fun _ _ _ => rfl, fun _ h => .inl h⟩
theorem StepC.trans {A B C : Nat → Prop} {X Y Z : World} (h : StepC A X B Y) (k : StepC B Y C Z) : StepC A X C Z :=
  ⟨k.os.trans h.os, k.tape.trans h.tape, k.output.trans h.output, Nat.le_trans h.size k.size, fun b hb hn => (k.block b (Nat.lt_of_lt_of_le hb h.size) (fun e => by
    rcases h.sub b e with h1 | h1
    · exact hn h1
    · omega)).trans (h.block b hb hn), fun b hb => by
    rcases k.sub b hb with h1 | h1
    · exact h.sub b h1
    · exact .inr (Nat.le_trans h.size h1)⟩
/-- What a world's turn outside a set leaves. -/
structure SameC (C : Nat → Prop) (W W' : World) : Prop where
  os : W'.os = W.os
  tape : W'.tape = W.tape
  output : W'.output = W.output
  size : W.heap.size ≤ W'.heap.size
  block : ∀ b, C b → b < W.heap.size → W'.heap[b]? = W.heap[b]?
theorem SameC.refl (C : Nat → Prop) (W : World) : SameC C W W := ⟨rfl, rfl, rfl, Nat.le_refl _, fun _ _ _ => rfl⟩
theorem SameC.trans {C : Nat → Prop} {X Y Z : World} (h : SameC C X Y) (k : SameC C Y Z) : SameC C X Z := ⟨k.os.trans h.os, k.tape.trans h.tape, k.output.trans h.output, Nat.le_trans h.size k.size, fun b hb hl => (k.block b hb (Nat.lt_of_lt_of_le hl h.size)).trans (h.block b hb hl)⟩
theorem SameC.of_below {C : Nat → Prop} {W W' : World} (h : Below W.heap.size W W') : SameC C W W' := ⟨h.os, h.tape, h.output, h.size, fun b _ hl => h.block b hl⟩
theorem SameC.of_grown {C : Nat → Prop} {W W' : World} {r : Option Nat} (h : W.grownBy W' r) (hr : ∀ b, r = some b → ¬ C b) : SameC C W W' := ⟨h.os, h.tape, h.output, h.size, fun b hb hl => h.block b hl (fun e => hr b e.symm hb)⟩
theorem SameC.alloc (C : Nat → Prop) (W : World) (o : Obj) : SameC C W (W.alloc o) := .of_below ((Below.refl _ W).alloc (Nat.le_refl _) o)
theorem SameC.put {C : Nat → Prop} {W : World} {l : Nat} {o : Obj} (h : ¬ C l) : SameC C W (W.putObj l o) := ⟨rfl, rfl, rfl, by simp, fun b hb _ => World.putObj_heap_other (fun e => h (e ▸ hb))⟩
theorem StepC.same {C D C' : Nat → Prop} {W W' : World} (h : StepC C W C' W') (hd : ∀ b, D b → ¬ C b) : SameC D W W' := ⟨h.os, h.tape, h.output, h.size, fun b hb hl => h.block b hl (hd b hb)⟩
/-- An invariant that speaks of the blocks of its set alone. -/
def AbC {β : Type} (J : β → (Nat → Prop) → World → Prop) : Prop := ∀ s C W W', J s C W → SameC C W W' → J s C W'
/-- The iterator's contract: it reads the blocks R of the world w. -/
def SeqC {α : Type} (F : Fence) (n : Nat) (P : Program) (g : Nat) (lb : Array Value) (encs : α → Array Value) (S Sp : List α → Prop) (N : Nat) (R : Nat → Prop) (w : World) : Prop :=
  ∀ (l : Nat) (J Jx : List α → (Nat → Prop) → World → Prop) (C : Nat → Prop) (W : World), SameC R w W → AbC J → AbC Jx → (∀ b, C b → ¬ R b ∧ b < W.heap.size) →
    (∀ pre x C1 W1, J pre C1 W1 → pre.length < N → YieldAt F (n - 1) P l (encs x) W1 fun e W' =>
      ∃ C', StepC C1 W1 C' W' ∧ (∀ b, C' b → b < W'.heap.size) ∧ ((e = .returned (.bool true) ∧ J (pre ++ [x]) C' W') ∨ (e = .returned (.bool false) ∧ Jx (pre ++ [x]) C' W'))) →
    J [] C W →
    CallsIn F n P g (#[.func (.yield l) #[] #[]] ++ lb) W fun e W' => (∃ v, e = .returned v) ∧ ∃ C', StepC C W C' W' ∧ ((∃ xs, S xs ∧ J xs C' W') ∨ (∃ pre, Sp pre ∧ Jx pre C' W'))
/-- How the body of a round may be left. -/
def postC {α : Type} (I : List α → (Nat → Prop) → World → Prop) (Ix : Code → List α → (Nat → Prop) → World → Prop) (xs : List α) (C : Nat → Prop) (W : World) : Exit → Act → World → Prop
  | .normal, _, W' => ∃ C', StepC C W C' W' ∧ (∀ b, C' b → b < W'.heap.size) ∧ I xs C' W'
  | .ret, _, W' => ∃ C', StepC C W C' W' ∧ (∀ b, C' b → b < W'.heap.size) ∧ Ix .ret xs C' W'
  | .exit id, _, W' => ∃ C', StepC C W C' W' ∧ (∀ b, C' b → b < W'.heap.size) ∧ Ix (.exit id) xs C' W'
  | .goto t, _, W' => ∃ C', StepC C W C' W' ∧ (∀ b, C' b → b < W'.heap.size) ∧ Ix (.goto t) xs C' W'
  | .panic _, _, _ => False
  | .outgrown, _, _ => False
variable {F : Fence} {n : Nat} {P : Program}
/-- THE LAW. -/
theorem wpIn_rangeFunc_C {α : Type} {g : Operand} {ps : Array Tmp} {assign body : Code} {Q : Exit → Act → World → Prop} {a : Act} {w : World}
    (hro : F.round = none) (h1 : 1 ≤ n) {gf : Nat} {lb : Array Value} (hg : a.eval g = .func (.func gf) #[] lb) (hFg : F.fn gf) (eg : ∀ args w, (callFunc gf args).run P w = .ok (.enter gf args) w)
    {encs : α → Array Value} {S Sp : List α → Prop} {N : Nat} {R : Nat → Prop} {w0 : World} (hseq : SeqC F (n - 1) P gf lb encs S Sp N R w0) (hw : SameC R w0 w) (hRl : ∀ b, R b → b < w.heap.size) (hps : ∀ x, (encs x).size = ps.size)
    (I : List α → (Nat → Prop) → World → Prop) (Ix : Code → List α → (Nat → Prop) → World → Prop) (hI : AbC I) (hIx : ∀ c, AbC (Ix c)) (C0 : Nat → Prop) (hC0 : ∀ b, C0 b → ¬ R b ∧ b < w.heap.size) (h0 : I [] C0 w) (a₁ : α → Act)
    (hassign : ∀ (l : Nat) (x : α) (W : World) (K : Act → World → Prop), K (a₁ x) W →
      assign.wpIn (F.inRound l) (n - 1 - 1) P (Exit.then K (fun _ _ _ => False)) { tmps := (ps.zip (encs x)).foldl (fun t (p, v) => t.setIfInBounds p v) a.tmps, defers := [] } W)
    (hbody : ∀ (l : Nat) (pre : List α) (x : α) (C : Nat → Prop) (W : World), I pre C W → (∀ b, C b → b < W.heap.size) → pre.length < N → body.wpIn (F.inRound l) (n - 1 - 1) P (postC I Ix (pre ++ [x]) C W) (a₁ x) W)
    (hdone : ∀ (D : Nat) (xs : List α) (C : Nat → Prop) (W : World), w.heap.size ≤ D → S xs → I xs C W → ¬ C D → StepC C0 w C W → W.heap[D]? = some (.deferred (some [])) → Q .normal { a with defers := { target := .collected D, args := #[] } :: a.defers } W)
    (hstop : ∀ (D : Nat) (c : Code) (pre : List α) (C : Nat → Prop) (W : World), w.heap.size ≤ D → Sp pre → Ix c pre C W → ¬ C D → StepC C0 w C W → W.heap[D]? = some (.deferred (some [])) → c.wpIn F n P Q { a with defers := { target := .collected D, args := #[] } :: a.defers } W) :
    (Code.rangeFunc g ps assign body).wpIn F n P Q a w := by
  refine wpIn_rangeFunc ?_
  intro fn hfn
  rw [hro]
  obtain ⟨rec, hrec⟩ : ∃ rec : LoopState → Option Code → Loop, rec = fun st pe => { state := st, pending := pe, fn, tmps := a.tmps, params := ps, assign, body, defers := w.heap.size } := ⟨_, rfl⟩
  obtain ⟨L, hL⟩ : ∃ L, L = w.heap.size + 1 := ⟨_, rfl⟩
  obtain ⟨D, hD⟩ : ∃ D, D = w.heap.size := ⟨_, rfl⟩
  obtain ⟨W1, hW1⟩ : ∃ W1, (w.alloc (.deferred (some []))).alloc (.loop (rec .ready none)) = W1 := ⟨_, rfl⟩
  have hs1 : W1.heap.size = w.heap.size + 2 := by rw [← hW1]; simp
  have hL1 : W1.heap[L]? = some (.loop (rec .ready none)) := by
    rw [← hW1, hL]; have := World.alloc_heap_new (w.alloc (.deferred (some []))) (.loop (rec .ready none)); rwa [World.size_alloc] at this
  have hK1 : W1.heap[D]? = some (.deferred (some [])) := by
    rw [← hW1, hD]; exact (Below.heap_alloc _ _ _ (by simp)).trans (World.alloc_heap_new w _)
  have hb1 : Below w.heap.size w W1 := by rw [← hW1]; exact ((Below.refl _ w).alloc (Nat.le_refl _) _).alloc (by simp) _
  -- what the iterator is told of: the caller's invariant, and the two blocks of the statement's own
  obtain ⟨J, hJd⟩ : ∃ J : List α → (Nat → Prop) → World → Prop, J = fun pre C W => ∃ Ci : Nat → Prop, (C = fun b => Ci b ∨ b = L ∨ b = D) ∧ I pre Ci W ∧ (∀ b, Ci b → b < W.heap.size) ∧ ¬ Ci L ∧ ¬ Ci D ∧ W.heap[L]? = some (.loop (rec .ready none)) ∧ W.heap[D]? = some (.deferred (some [])) := ⟨_, rfl⟩
  obtain ⟨Jx, hJxd⟩ : ∃ J : List α → (Nat → Prop) → World → Prop, J = fun pre C W => ∃ (Ci : Nat → Prop) (c : Code), (C = fun b => Ci b ∨ b = L ∨ b = D) ∧ Ix c pre Ci W ∧ (∀ b, Ci b → b < W.heap.size) ∧ ¬ Ci L ∧ ¬ Ci D ∧ W.heap[L]? = some (.loop (rec .done (some c))) ∧ W.heap[D]? = some (.deferred (some [])) := ⟨_, rfl⟩
  have lt_of : ∀ {X : World} {b : Nat} {o : Obj}, X.heap[b]? = some o → b < X.heap.size := fun h => (Array.getElem?_eq_some_iff.1 h).1
  have hJ : AbC J := by
    rw [hJd]
    rintro s C X Y ⟨Ci, rfl, h2, h3, h4, h5, h6, h7⟩ hs
    exact ⟨Ci, rfl, hI s Ci X Y h2 ⟨hs.os, hs.tape, hs.output, hs.size, fun b hb hl => hs.block b (.inl hb) hl⟩, fun b hb => Nat.lt_of_lt_of_le (h3 b hb) hs.size, h4, h5, (hs.block L (.inr (.inl rfl)) (lt_of h6)).trans h6, (hs.block D (.inr (.inr rfl)) (lt_of h7)).trans h7⟩
  have hJx : AbC Jx := by
    rw [hJxd]
    rintro s C X Y ⟨Ci, c, rfl, h2, h3, h4, h5, h6, h7⟩ hs
    exact ⟨Ci, c, rfl, hIx c s Ci X Y h2 ⟨hs.os, hs.tape, hs.output, hs.size, fun b hb hl => hs.block b (.inl hb) hl⟩, fun b hb => Nat.lt_of_lt_of_le (h3 b hb) hs.size, h4, h5, (hs.block L (.inr (.inl rfl)) (lt_of h6)).trans h6, (hs.block D (.inr (.inr rfl)) (lt_of h7)).trans h7⟩
  have hC1 : ∀ b, (C0 b ∨ b = L ∨ b = D) → ¬ R b ∧ b < W1.heap.size := by
    rintro b (h | rfl | rfl)
    · exact ⟨(hC0 b h).1, by have := (hC0 b h).2; omega⟩
    · exact ⟨fun h => by have := hRl _ h; omega, by omega⟩
    · exact ⟨fun h => by have := hRl _ h; omega, by omega⟩
  refine ⟨L, [{ target := .collected w.heap.size, args := #[] }], W1, { target := .fn (.func gf) lb, args := #[.func (.yield L) #[] #[]] }, W1, gf,
    #[.func (.yield L) #[] #[]] ++ lb, W1, ?_, ?_, ?_, ?_, fun _ => h1, ?_⟩
  · rw [← hW1, hrec, hL]; exact run_enterLoop_outer _ _ _ _ _
  · simp only [resolve, hg]
    simp [go_sem]
  · intro f' hf'; simp [Target.leads] at hf'; subst hf'; exact hFg
  · simp [invoke, go_sem, eg]
  · refine (hseq L J Jx (fun b => C0 b ∨ b = L ∨ b = D) W1 (hw.trans (.of_below hb1)) hJ hJx hC1 ?_ ?_).mono ?_
    · -- one round
      rw [hJd, hJxd]
      rintro pre x C1 W ⟨Ci, rfl, hi, hCl, hnl, hnd, hl, hk⟩ hlen
      have hlt := lt_of hl
      have hltD := lt_of hk
      have hy := run_yield (P := P) (args := encs x) hl (by rw [hrec]; exact hps x)
      rw [hrec] at hy
      refine ⟨fn, _, assign, body, hy, roundIn_of_wpIn hfn (hassign _ x W _ ⟨_, run_beginRound hl (by rw [hrec]), ?_⟩)⟩
      obtain ⟨W2, hW2⟩ : ∃ W2, W2 = W.putObj L (.loop { rec .ready none with state := .busy }) := ⟨_, rfl⟩
      rw [← hW2]
      have hl2 : W2.heap[L]? = some (.loop { rec .ready none with state := .busy }) := by rw [hW2]; exact World.putObj_heap_same hlt
      have hk2 : W2.heap[D]? = some (.deferred (some [])) := by rw [hW2]; exact (World.putObj_heap_other (by omega)).trans hk
      have hsm : SameC Ci W W2 := by rw [hW2]; exact .put hnl
      have hsz2 : W2.heap.size = W.heap.size := by rw [hW2]; simp
      refine wpIn_mono (hbody _ pre x Ci W2 (hI _ _ _ _ hi hsm) (fun b hb => by rw [hsz2]; exact hCl b hb) hlen) ?_
      have fin : ∀ (jump : Option Code) (C' : Nat → Prop) (W3 : World), StepC Ci W2 C' W3 → (∀ b, C' b → b < W3.heap.size) →
          ∃ W4, W4 = W3.putObj L (.loop (rec (if jump.isNone then .ready else .done) jump)) ∧
          (Instr.endRound L jump).run P W3 = .ok (.bool jump.isNone) W4 ∧ W4.heap[L]? = some (.loop (rec (if jump.isNone then .ready else .done) jump)) ∧ W4.heap[D]? = some (.deferred (some [])) ∧ ¬ C' L ∧ ¬ C' D ∧ SameC C' W3 W4 ∧
          StepC (fun b => Ci b ∨ b = L ∨ b = D) W (fun b => C' b ∨ b = L ∨ b = D) W4 := fun jump C' W3 hst hcl => by
        have hL2 : L < W2.heap.size := by omega
        have hD2 : D < W2.heap.size := by omega
        have hl3 := (hst.block L hL2 hnl).trans hl2
        have hk3 := (hst.block D hD2 hnd).trans hk2
        have hnl' : ¬ C' L := fun h => by
          rcases hst.sub _ h with h | h
          · exact hnl h
          · omega
        have hnd' : ¬ C' D := fun h => by
          rcases hst.sub _ h with h | h
          · exact hnd h
          · omega
        have hr := run_endRound (P := P) jump hl3
        have hl3s := lt_of hl3
        refine ⟨_, rfl, ?_, World.putObj_heap_same hl3s, (World.putObj_heap_other (by omega)).trans hk3, hnl', hnd', .put hnl', ?_⟩
        · rw [hrec] at hr ⊢; exact hr
        · refine ⟨?_, ?_, ?_, ?_, fun b hb hn => ?_, fun b hb => ?_⟩
          · show W3.os = W.os; rw [hst.os, hW2]; rfl
          · show W3.tape = W.tape; rw [hst.tape, hW2]; rfl
          · show W3.output = W.output; rw [hst.output, hW2]; rfl
          · simp; have := hst.size; omega
          · have hbl : b ≠ L := fun e => hn (.inr (.inl e))
            rw [World.putObj_heap_other hbl, hst.block b (by omega) (fun h => hn (.inl h)), hW2, World.putObj_heap_other hbl]
          · rcases hb with h | h | h
            · rcases hst.sub b h with h | h
              · exact .inl (.inl h)
              · exact .inr (by omega)
            · exact .inl (.inr (.inl h))
            · exact .inl (.inr (.inr h))
      rintro e a3 W3 hp
      cases e with
      | normal =>
        obtain ⟨C', hst, hcl, hi3⟩ := hp
        obtain ⟨W4, hW4, hr, hl4, hk4, hnl', hnd', hs4, hst4⟩ := fin none C' W3 hst hcl
        exact ⟨_, W4, hr, _, hst4, fun b hb => by
          rcases hb with h | rfl | rfl
          · exact Nat.lt_of_lt_of_le (hcl b h) hs4.size
          · exact lt_of hl4
          · exact lt_of hk4, .inl ⟨rfl, C', rfl, hI _ _ _ _ hi3 hs4, fun b h => Nat.lt_of_lt_of_le (hcl b h) hs4.size, hnl', hnd', hl4, hk4⟩⟩
      | ret =>
        obtain ⟨C', hst, hcl, hi3⟩ := hp
        obtain ⟨W4, hW4, hr, hl4, hk4, hnl', hnd', hs4, hst4⟩ := fin (some .ret) C' W3 hst hcl
        exact ⟨_, W4, hr, _, hst4, fun b hb => by
          rcases hb with h | rfl | rfl
          · exact Nat.lt_of_lt_of_le (hcl b h) hs4.size
          · exact lt_of hl4
          · exact lt_of hk4, .inr ⟨rfl, C', .ret, rfl, hIx _ _ _ _ _ hi3 hs4, fun b h => Nat.lt_of_lt_of_le (hcl b h) hs4.size, hnl', hnd', hl4, hk4⟩⟩
      | exit id =>
        obtain ⟨C', hst, hcl, hi3⟩ := hp
        obtain ⟨W4, hW4, hr, hl4, hk4, hnl', hnd', hs4, hst4⟩ := fin (some (.exit id)) C' W3 hst hcl
        exact ⟨_, W4, hr, _, hst4, fun b hb => by
          rcases hb with h | rfl | rfl
          · exact Nat.lt_of_lt_of_le (hcl b h) hs4.size
          · exact lt_of hl4
          · exact lt_of hk4, .inr ⟨rfl, C', .exit id, rfl, hIx _ _ _ _ _ hi3 hs4, fun b h => Nat.lt_of_lt_of_le (hcl b h) hs4.size, hnl', hnd', hl4, hk4⟩⟩
      | goto t =>
        obtain ⟨C', hst, hcl, hi3⟩ := hp
        obtain ⟨W4, hW4, hr, hl4, hk4, hnl', hnd', hs4, hst4⟩ := fin (some (.goto t)) C' W3 hst hcl
        exact ⟨_, W4, hr, _, hst4, fun b hb => by
          rcases hb with h | rfl | rfl
          · exact Nat.lt_of_lt_of_le (hcl b h) hs4.size
          · exact lt_of hl4
          · exact lt_of hk4, .inr ⟨rfl, C', .goto t, rfl, hIx _ _ _ _ _ hi3 hs4, fun b h => Nat.lt_of_lt_of_le (hcl b h) hs4.size, hnl', hnd', hl4, hk4⟩⟩
      | panic ch => exact hp.elim
      | outgrown => exact hp.elim
    · rw [hJd]
      exact ⟨C0, rfl, hI _ _ _ _ h0 (.of_below hb1), fun b hb => by have := (hC0 b hb).2; omega, fun h => by have := (hC0 _ h).2; omega, fun h => by have := (hC0 _ h).2; omega, hL1, hK1⟩
    · -- behind the iterator
      have st1 : StepC C0 w (fun b => C0 b ∨ b = L ∨ b = D) W1 := ⟨hb1.os, hb1.tape, hb1.output, hb1.size, fun b hb _ => hb1.block b hb, fun b hb => by
        rcases hb with h | h | h
        · exact .inl h
        · exact .inr (by omega)
        · exact .inr (by omega)⟩
      have endd : ∀ (W2 : World) (Ci : Nat → Prop) (o : Obj), StepC (fun b => C0 b ∨ b = L ∨ b = D) W1 (fun b => Ci b ∨ b = L ∨ b = D) W2 → StepC C0 w Ci (W2.putObj L o) := fun W2 Ci o hst => by
        have hst := st1.trans hst
        exact ⟨hst.os, hst.tape, hst.output, by simp; exact hst.size, fun b hb hn => (World.putObj_heap_other (by omega)).trans (hst.block b hb hn), fun b hb => hst.sub b (.inl hb)⟩
      rintro e W2 ⟨⟨v, rfl⟩, C', hst, (⟨xs, hS, hj⟩ | ⟨pre, hSp, hj⟩)⟩
      · rw [hJd] at hj
        obtain ⟨Ci, rfl, hi, hcl, hnl, hnd, hl, hk⟩ := hj
        refine ⟨none, W2.putObj L (.loop { rec .ready none with state := .exhausted }), by have := run_endLoop (P := P) hl (by rw [hrec]; simp); rw [hrec] at this ⊢; exact this, ?_⟩
        have := hdone D xs Ci (W2.putObj L (.loop { rec .ready none with state := .exhausted })) (by omega) hS (hI _ _ _ _ hi (.put hnl)) hnd (endd W2 Ci _ hst) ((World.putObj_heap_other (by omega)).trans hk)
        rw [hD] at this; exact this
      · rw [hJxd] at hj
        obtain ⟨Ci, c, rfl, hi, hcl, hnl, hnd, hl, hk⟩ := hj
        refine ⟨some c, W2.putObj L (.loop { rec .done (some c) with state := .exhausted }), by have := run_endLoop (P := P) hl (by rw [hrec]; simp); rw [hrec] at this ⊢; exact this, ?_⟩
        have := hstop D c pre Ci (W2.putObj L (.loop { rec .done (some c) with state := .exhausted })) (by omega) hSp (hIx _ _ _ _ _ hi (.put hnl)) hnd (endd W2 Ci _ hst) ((World.putObj_heap_other (by omega)).trans hk)
        rw [hD] at this; exact this
end Go.Proofs.YtfchakfkgmhagaaGreat
