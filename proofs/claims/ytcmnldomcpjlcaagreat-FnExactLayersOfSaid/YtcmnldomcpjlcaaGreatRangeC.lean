/- A range over a function whose iterator keeps cells of its own: own law over the library's first law of the statement. The caller's blocks are named by a set, which may turn from round to round; the iterator turns none of them, and a round turns no other. Nothing of the program stands here. -/
import Derived.RangeFuncNested
import Derived.RangeFuncBound
import Derived.RangeFuncCalls
import Derived.RangeFuncLeaves
import Derived.Below
import Derived.Test.YtcmnldomcpjlcaaGreatHBox
import Derived.Test.YtcmnldomcpjlcaaGreatTools
import Derived.Maps.AppendAt
import Derived.Maps.OwnIn
import Derived.Shelf.Abstract
import Derived.Shelf.RegionOpen
import Derived.WalkKit
import Derived.OwnWalkIn
import Derived.TacticsInMore
import Derived.Test.YtcmnldomcpjlcaaGreatGraph
import Derived.Test.YtcmnldomcpjlcaaGreatPlainN
import Derived.Deep.DeepCutAuto
import Derived.Deep.CutBlock
import Derived.RangeFuncRecord
import Derived.Test.YtcmnldomcpjlcaaGreatSorts
set_option linter.unusedVariables false
set_option linter.unusedSimpArgs false
namespace Go.Proofs.YtcmnldomcpjlcaaGreat
open Go.RowKit
open Go.RowKit Go.Proofs.YtcmnldomcpjlcaaGreat.Nm

/-- From W with the blocks C to W' with the blocks C': what lay outside C lies as it lay; what is new in C' is new in the heap. -/
structure StepC (C : Nat → Prop) (W : World) (C' : Nat → Prop) (W' : World) : Prop where
  os : W'.os = W.os
  tape : W'.tape = W.tape
  output : W'.output = W.output
  size : W.heap.size ≤ W'.heap.size
  block : ∀ b, b < W.heap.size → ¬ C b → W'.heap[b]? = W.heap[b]?
  sub : ∀ b, C' b → C b ∨ W.heap.size ≤ b
theorem StepC.refl (C : Nat → Prop) (W : World) : StepC C W C W := ⟨rfl, rfl, rfl, Nat.le_refl _, fun _ _ _ => rfl, fun _ h => .inl h⟩
theorem StepC.trans {A B C : Nat → Prop} {X Y Z : World} (h : StepC A X B Y) (k : StepC B Y C Z) : StepC A X C Z :=
  ⟨k.os.trans h.os, k.tape.trans h.tape, k.output.trans h.output, Nat.le_trans h.size k.size, fun b hb hn => (k.block b (Nat.lt_of_lt_of_le hb h.size) (fun e => by
    rcases h.sub b e with h1 | h1
    · exact hn h1
    · omega)).trans (h.block b hb hn), fun b hb => by
    rcases k.sub b hb with h1 | h1
    · exact h.sub b h1
    · exact .inr (Nat.le_trans h.size h1)⟩
/-- What a world's turn outside a set leaves. -/
structure SameC (C : Nat → Prop) (W W' : World) : Prop where
  os : W'.os = W.os
  tape : W'.tape = W.tape
  output : W'.output = W.output
  size : W.heap.size ≤ W'.heap.size
  block : ∀ b, C b → b < W.heap.size → W'.heap[b]? = W.heap[b]?
theorem SameC.refl (C : Nat → Prop) (W : World) : SameC C W W := ⟨rfl, rfl, rfl, Nat.le_refl _, fun _ _ _ => rfl⟩
theorem SameC.trans {C : Nat → Prop} {X Y Z : World} (h : SameC C X Y) (k : SameC C Y Z) : SameC C X Z := ⟨k.os.trans h.os, k.tape.trans h.tape, k.output.trans h.output, Nat.le_trans h.size k.size, fun b hb hl => (k.block b hb (Nat.lt_of_lt_of_le hl h.size)).trans (h.block b hb hl)⟩
theorem SameC.of_below {C : Nat → Prop} {W W' : World} (h : Below W.heap.size W W') : SameC C W W' := ⟨h.os, h.tape, h.output, h.size, fun b _ hl => h.block b hl⟩
theorem SameC.of_grown {C : Nat → Prop} {W W' : World} {r : Option Nat} (h : W.grownBy W' r) (hr : ∀ b, r = some b → ¬ C b) : SameC C W W' := ⟨h.os, h.tape, h.output, h.size, fun b hb hl => h.block b hl (fun e => hr b e.symm hb)⟩
theorem SameC.alloc (C : Nat → Prop) (W : World) (o : Obj) : SameC C W (W.alloc o) := .of_below ((Below.refl _ W).alloc (Nat.le_refl _) o)
theorem SameC.put {C : Nat → Prop} {W : World} {l : Nat} {o : Obj} (h : ¬ C l) : SameC C W (W.putObj l o) := ⟨rfl, rfl, rfl, by simp, fun b hb _ => World.putObj_heap_other (fun e => h (e ▸ hb))⟩
theorem StepC.same {C D C' : Nat → Prop} {W W' : World} (h : StepC C W C' W') (hd : ∀ b, D b → ¬ C b) : SameC D W W' := ⟨h.os, h.tape, h.output, h.size, fun b hb hl => h.block b hl (hd b hb)⟩
/-- An invariant that speaks of the blocks of its set alone. -/
def AbC {β : Type} (J : β → (Nat → Prop) → World → Prop) : Prop := ∀ s C W W', J s C W → SameC C W W' → J s C W'
/-- The iterator's contract: it reads the blocks R of the world w. -/
def SeqC {α : Type} (F : Fence) (n : Nat) (P : Program) (g : Nat) (lb : Array Value) (encs : α → Array Value) (S Sp : List α → Prop) (N : Nat) (R : Nat → Prop) (w : World) : Prop :=
  ∀ (l : Nat) (J Jx : List α → (Nat → Prop) → World → Prop) (C : Nat → Prop) (W : World), SameC R w W → AbC J → AbC Jx → (∀ b, C b → ¬ R b ∧ b < W.heap.size) →
    (∀ pre x C1 W1, J pre C1 W1 → pre.length < N → YieldAt F (n - 1) P l (encs x) W1 fun e W' =>
      ∃ C', StepC C1 W1 C' W' ∧ (∀ b, C' b → b < W'.heap.size) ∧ ((e = .returned (.bool true) ∧ J (pre ++ [x]) C' W') ∨ (e = .returned (.bool false) ∧ Jx (pre ++ [x]) C' W'))) →
    J [] C W →
    CallsIn F n P g (#[.func (.yield l) #[] #[]] ++ lb) W fun e W' => (∃ v, e = .returned v) ∧ ∃ C', StepC C W C' W' ∧ ((∃ xs, S xs ∧ J xs C' W') ∨ (∃ pre, Sp pre ∧ Jx pre C' W'))
/-- How the body of a round may be left. -/
def postC {α : Type} (I : List α → (Nat → Prop) → World → Prop) (Ix : Code → List α → (Nat → Prop) → World → Prop) (xs : List α) (C : Nat → Prop) (W : World) : Exit → Act → World → Prop
  | .normal, _, W' => ∃ C', StepC C W C' W' ∧ (∀ b, C' b → b < W'.heap.size) ∧ I xs C' W'
  | .ret, _, W' => ∃ C', StepC C W C' W' ∧ (∀ b, C' b → b < W'.heap.size) ∧ Ix .ret xs C' W'
  | .exit id, _, W' => ∃ C', StepC C W C' W' ∧ (∀ b, C' b → b < W'.heap.size) ∧ Ix (.exit id) xs C' W'
  | .goto t, _, W' => ∃ C', StepC C W C' W' ∧ (∀ b, C' b → b < W'.heap.size) ∧ Ix (.goto t) xs C' W'
  | .panic _, _, _ => False
  | .outgrown, _, _ => False
variable {F : Fence} {n : Nat} {P : Program}
/-- THE LAW. -/
theorem wpIn_rangeFunc_C {α : Type} {g : Operand} {ps : Array Tmp} {assign body : Code} {Q : Exit → Act → World → Prop} {a : Act} {w : World}
    (hro : F.round = none) (h1 : 1 ≤ n) {gf : Nat} {lb : Array Value} (hg : a.eval g = .func (.func gf) #[] lb) (hFg : F.fn gf) (eg : ∀ args w, (callFunc gf args).run P w = .ok (.enter gf args) w)
    {encs : α → Array Value} {S Sp : List α → Prop} {N : Nat} {R : Nat → Prop} {w0 : World} (hseq : SeqC F (n - 1) P gf lb encs S Sp N R w0) (hw : SameC R w0 w) (hRl : ∀ b, R b → b < w.heap.size) (hps : ∀ x, (encs x).size = ps.size)
    (I : List α → (Nat → Prop) → World → Prop) (Ix : Code → List α → (Nat → Prop) → World → Prop) (hI : AbC I) (hIx : ∀ c, AbC (Ix c)) (C0 : Nat → Prop) (hC0 : ∀ b, C0 b → ¬ R b ∧ b < w.heap.size) (h0 : I [] C0 w) (a₁ : α → Act)
    (hassign : ∀ (l : Nat) (x : α) (W : World) (K : Act → World → Prop), K (a₁ x) W →
      assign.wpIn (F.inRound l) (n - 1 - 1) P (Exit.then K (fun _ _ _ => False)) { tmps := (ps.zip (encs x)).foldl (fun t (p, v) => t.setIfInBounds p v) a.tmps, defers := [] } W)
    (hbody : ∀ (l : Nat) (pre : List α) (x : α) (C : Nat → Prop) (W : World), I pre C W → (∀ b, C b → b < W.heap.size) → pre.length < N → body.wpIn (F.inRound l) (n - 1 - 1) P (postC I Ix (pre ++ [x]) C W) (a₁ x) W)
    (hdone : ∀ (D : Nat) (xs : List α) (C : Nat → Prop) (W : World), w.heap.size ≤ D → S xs → I xs C W → ¬ C D → StepC C0 w C W → W.heap[D]? = some (.deferred (some [])) → Q .normal { a with defers := { target := .collected D, args := #[] } :: a.defers } W)
    (hstop : ∀ (D : Nat) (c : Code) (pre : List α) (C : Nat → Prop) (W : World), w.heap.size ≤ D → Sp pre → Ix c pre C W → ¬ C D → StepC C0 w C W → W.heap[D]? = some (.deferred (some [])) → c.wpIn F n P Q { a with defers := { target := .collected D, args := #[] } :: a.defers } W) :
    (Code.rangeFunc g ps assign body).wpIn F n P Q a w := by
  refine wpIn_rangeFunc ?_
  intro fn hfn
  rw [hro]
  obtain ⟨rec, hrec⟩ : ∃ rec : LoopState → Option Code → Loop, rec = fun st pe => { state := st, pending := pe, fn, tmps := a.tmps, params := ps, assign, body, defers := w.heap.size } := ⟨_, rfl⟩
  obtain ⟨L, hL⟩ : ∃ L, L = w.heap.size + 1 := ⟨_, rfl⟩
  obtain ⟨D, hD⟩ : ∃ D, D = w.heap.size := ⟨_, rfl⟩
  obtain ⟨W1, hW1⟩ : ∃ W1, (w.alloc (.deferred (some []))).alloc (.loop (rec .ready none)) = W1 := ⟨_, rfl⟩
  have hs1 : W1.heap.size = w.heap.size + 2 := by rw [← hW1]; simp
  have hL1 : W1.heap[L]? = some (.loop (rec .ready none)) := by
    rw [← hW1, hL]; have := World.alloc_heap_new (w.alloc (.deferred (some []))) (.loop (rec .ready none)); rwa [World.size_alloc] at this
  have hK1 : W1.heap[D]? = some (.deferred (some [])) := by
    rw [← hW1, hD]; exact (Below.heap_alloc _ _ _ (by simp)).trans (World.alloc_heap_new w _)
  have hb1 : Below w.heap.size w W1 := by rw [← hW1]; exact ((Below.refl _ w).alloc (Nat.le_refl _) _).alloc (by simp) _
  -- what the iterator is told of: the caller's invariant, and the two blocks of the statement's own
  obtain ⟨J, hJd⟩ : ∃ J : List α → (Nat → Prop) → World → Prop, J = fun pre C W => ∃ Ci : Nat → Prop, (C = fun b => Ci b ∨ b = L ∨ b = D) ∧ I pre Ci W ∧ (∀ b, Ci b → b < W.heap.size) ∧ ¬ Ci L ∧ ¬ Ci D ∧ W.heap[L]? = some (.loop (rec .ready none)) ∧ W.heap[D]? = some (.deferred (some [])) := ⟨_, rfl⟩
  obtain ⟨Jx, hJxd⟩ : ∃ J : List α → (Nat → Prop) → World → Prop, J = fun pre C W => ∃ (Ci : Nat → Prop) (c : Code), (C = fun b => Ci b ∨ b = L ∨ b = D) ∧ Ix c pre Ci W ∧ (∀ b, Ci b → b < W.heap.size) ∧ ¬ Ci L ∧ ¬ Ci D ∧ W.heap[L]? = some (.loop (rec .done (some c))) ∧ W.heap[D]? = some (.deferred (some [])) := ⟨_, rfl⟩
  have lt_of : ∀ {X : World} {b : Nat} {o : Obj}, X.heap[b]? = some o → b < X.heap.size := fun h => (Array.getElem?_eq_some_iff.1 h).1
  have hJ : AbC J := by
    rw [hJd]
    rintro s C X Y ⟨Ci, rfl, h2, h3, h4, h5, h6, h7⟩ hs
    exact ⟨Ci, rfl, hI s Ci X Y h2 ⟨hs.os, hs.tape, hs.output, hs.size, fun b hb hl => hs.block b (.inl hb) hl⟩, fun b hb => Nat.lt_of_lt_of_le (h3 b hb) hs.size, h4, h5, (hs.block L (.inr (.inl rfl)) (lt_of h6)).trans h6, (hs.block D (.inr (.inr rfl)) (lt_of h7)).trans h7⟩
  have hJx : AbC Jx := by
    rw [hJxd]
    rintro s C X Y ⟨Ci, c, rfl, h2, h3, h4, h5, h6, h7⟩ hs
    exact ⟨Ci, c, rfl, hIx c s Ci X Y h2 ⟨hs.os, hs.tape, hs.output, hs.size, fun b hb hl => hs.block b (.inl hb) hl⟩, fun b hb => Nat.lt_of_lt_of_le (h3 b hb) hs.size, h4, h5, (hs.block L (.inr (.inl rfl)) (lt_of h6)).trans h6, (hs.block D (.inr (.inr rfl)) (lt_of h7)).trans h7⟩
  have hC1 : ∀ b, (C0 b ∨ b = L ∨ b = D) → ¬ R b ∧ b < W1.heap.size := by
    rintro b (h | rfl | rfl)
    · exact ⟨(hC0 b h).1, by have := (hC0 b h).2; omega⟩
    · exact ⟨fun h => by have := hRl _ h; omega, by omega⟩
    · exact ⟨fun h => by have := hRl _ h; omega, by omega⟩
  refine ⟨L, [{ target := .collected w.heap.size, args := #[] }], W1, { target := .fn (.func gf) lb, args := #[.func (.yield L) #[] #[]] }, W1, gf,
    #[.func (.yield L) #[] #[]] ++ lb, W1, ?_, ?_, ?_, ?_, fun _ => h1, ?_⟩
  · rw [← hW1, hrec, hL]; exact run_enterLoop_outer _ _ _ _ _
  · simp only [resolve, hg]
    simp [go_sem]
  · intro f' hf'; simp [Target.leads] at hf'; subst hf'; exact hFg
  · simp [invoke, go_sem, eg]
  · refine (hseq L J Jx (fun b => C0 b ∨ b = L ∨ b = D) W1 (hw.trans (.of_below hb1)) hJ hJx hC1 ?_ ?_).mono ?_
    · -- one round
      rw [hJd, hJxd]
      rintro pre x C1 W ⟨Ci, rfl, hi, hCl, hnl, hnd, hl, hk⟩ hlen
      have hlt := lt_of hl
      have hltD := lt_of hk
      have hy := run_yield (P := P) (args := encs x) hl (by rw [hrec]; exact hps x)
      rw [hrec] at hy
      refine ⟨fn, _, assign, body, hy, roundIn_of_wpIn hfn (hassign _ x W _ ⟨_, run_beginRound hl (by rw [hrec]), ?_⟩)⟩
      obtain ⟨W2, hW2⟩ : ∃ W2, W2 = W.putObj L (.loop { rec .ready none with state := .busy }) := ⟨_, rfl⟩
      rw [← hW2]
      have hl2 : W2.heap[L]? = some (.loop { rec .ready none with state := .busy }) := by rw [hW2]; exact World.putObj_heap_same hlt
      have hk2 : W2.heap[D]? = some (.deferred (some [])) := by rw [hW2]; exact (World.putObj_heap_other (by omega)).trans hk
      have hsm : SameC Ci W W2 := by rw [hW2]; exact .put hnl
      have hsz2 : W2.heap.size = W.heap.size := by rw [hW2]; simp
      refine wpIn_mono (hbody _ pre x Ci W2 (hI _ _ _ _ hi hsm) (fun b hb => by rw [hsz2]; exact hCl b hb) hlen) ?_
      have fin : ∀ (jump : Option Code) (C' : Nat → Prop) (W3 : World), StepC Ci W2 C' W3 → (∀ b, C' b → b < W3.heap.size) →
          ∃ W4, W4 = W3.putObj L (.loop (rec (if jump.isNone then .ready else .done) jump)) ∧
          (Instr.endRound L jump).run P W3 = .ok (.bool jump.isNone) W4 ∧ W4.heap[L]? = some (.loop (rec (if jump.isNone then .ready else .done) jump)) ∧ W4.heap[D]? = some (.deferred (some [])) ∧ ¬ C' L ∧ ¬ C' D ∧ SameC C' W3 W4 ∧
          StepC (fun b => Ci b ∨ b = L ∨ b = D) W (fun b => C' b ∨ b = L ∨ b = D) W4 := fun jump C' W3 hst hcl => by
        have hL2 : L < W2.heap.size := by omega
        have hD2 : D < W2.heap.size := by omega
        have hl3 := (hst.block L hL2 hnl).trans hl2
        have hk3 := (hst.block D hD2 hnd).trans hk2
        have hnl' : ¬ C' L := fun h => by
          rcases hst.sub _ h with h | h
          · exact hnl h
          · omega
        have hnd' : ¬ C' D := fun h => by
          rcases hst.sub _ h with h | h
          · exact hnd h
          · omega
        have hr := run_endRound (P := P) jump hl3
        have hl3s := lt_of hl3
        refine ⟨_, rfl, ?_, World.putObj_heap_same hl3s, (World.putObj_heap_other (by omega)).trans hk3, hnl', hnd', .put hnl', ?_⟩
        · rw [hrec] at hr ⊢; exact hr
        · refine ⟨?_, ?_, ?_, ?_, fun b hb hn => ?_, fun b hb => ?_⟩
          · show W3.os = W.os; rw [hst.os, hW2]; rfl
          · show W3.tape = W.tape; rw [hst.tape, hW2]; rfl
          · show W3.output = W.output; rw [hst.output, hW2]; rfl
          · simp; have := hst.size; omega
          · have hbl : b ≠ L := fun e => hn (.inr (.inl e))
            rw [World.putObj_heap_other hbl, hst.block b (by omega) (fun h => hn (.inl h)), hW2, World.putObj_heap_other hbl]
          · rcases hb with h | h | h
            · rcases hst.sub b h with h | h
              · exact .inl (.inl h)
              · exact .inr (by omega)
            · exact .inl (.inr (.inl h))
            · exact .inl (.inr (.inr h))
      rintro e a3 W3 hp
      cases e with
      | normal =>
        obtain ⟨C', hst, hcl, hi3⟩ := hp
        obtain ⟨W4, hW4, hr, hl4, hk4, hnl', hnd', hs4, hst4⟩ := fin none C' W3 hst hcl
        exact ⟨_, W4, hr, _, hst4, fun b hb => by
          rcases hb with h | rfl | rfl
          · exact Nat.lt_of_lt_of_le (hcl b h) hs4.size
          · exact lt_of hl4
          · exact lt_of hk4, .inl ⟨rfl, C', rfl, hI _ _ _ _ hi3 hs4, fun b h => Nat.lt_of_lt_of_le (hcl b h) hs4.size, hnl', hnd', hl4, hk4⟩⟩
      | ret =>
        obtain ⟨C', hst, hcl, hi3⟩ := hp
        obtain ⟨W4, hW4, hr, hl4, hk4, hnl', hnd', hs4, hst4⟩ := fin (some .ret) C' W3 hst hcl
        exact ⟨_, W4, hr, _, hst4, fun b hb => by
          rcases hb with h | rfl | rfl
          · exact Nat.lt_of_lt_of_le (hcl b h) hs4.size
          · exact lt_of hl4
          · exact lt_of hk4, .inr ⟨rfl, C', .ret, rfl, hIx _ _ _ _ _ hi3 hs4, fun b h => Nat.lt_of_lt_of_le (hcl b h) hs4.size, hnl', hnd', hl4, hk4⟩⟩
      | exit id =>
        obtain ⟨C', hst, hcl, hi3⟩ := hp
        obtain ⟨W4, hW4, hr, hl4, hk4, hnl', hnd', hs4, hst4⟩ := fin (some (.exit id)) C' W3 hst hcl
        exact ⟨_, W4, hr, _, hst4, fun b hb => by
          rcases hb with h | rfl | rfl
          · exact Nat.lt_of_lt_of_le (hcl b h) hs4.size
          · exact lt_of hl4
          · exact lt_of hk4, .inr ⟨rfl, C', .exit id, rfl, hIx _ _ _ _ _ hi3 hs4, fun b h => Nat.lt_of_lt_of_le (hcl b h) hs4.size, hnl', hnd', hl4, hk4⟩⟩
      | goto t =>
        obtain ⟨C', hst, hcl, hi3⟩ := hp
        obtain ⟨W4, hW4, hr, hl4, hk4, hnl', hnd', hs4, hst4⟩ := fin (some (.goto t)) C' W3 hst hcl
        exact ⟨_, W4, hr, _, hst4, fun b hb => by
          rcases hb with h | rfl | rfl
          · exact Nat.lt_of_lt_of_le (hcl b h) hs4.size
          · exact lt_of hl4
          · exact lt_of hk4, .inr ⟨rfl, C', .goto t, rfl, hIx _ _ _ _ _ hi3 hs4, fun b h => Nat.lt_of_lt_of_le (hcl b h) hs4.size, hnl', hnd', hl4, hk4⟩⟩
      | panic ch => exact hp.elim
      | outgrown => exact hp.elim
    · rw [hJd]
      exact ⟨C0, rfl, hI _ _ _ _ h0 (.of_below hb1), fun b hb => by have := (hC0 b hb).2; omega, fun h => by have := (hC0 _ h).2; omega, fun h => by have := (hC0 _ h).2; omega, hL1, hK1⟩
    · -- behind the iterator
      have st1 : StepC C0 w (fun b => C0 b ∨ b = L ∨ b = D) W1 := ⟨hb1.os, hb1.tape, hb1.output, hb1.size, fun b hb _ => hb1.block b hb, fun b hb => by
        rcases hb with h | h | h
        · exact .inl h
        · exact .inr (by omega)
        · exact .inr (by omega)⟩
      have endd : ∀ (W2 : World) (Ci : Nat → Prop) (o : Obj), StepC (fun b => C0 b ∨ b = L ∨ b = D) W1 (fun b => Ci b ∨ b = L ∨ b = D) W2 → StepC C0 w Ci (W2.putObj L o) := fun W2 Ci o hst => by
        have hst := st1.trans hst
        exact ⟨hst.os, hst.tape, hst.output, by simp; exact hst.size, fun b hb hn => (World.putObj_heap_other (by omega)).trans (hst.block b hb hn), fun b hb => hst.sub b (.inl hb)⟩
      rintro e W2 ⟨⟨v, rfl⟩, C', hst, (⟨xs, hS, hj⟩ | ⟨pre, hSp, hj⟩)⟩
      · rw [hJd] at hj
        obtain ⟨Ci, rfl, hi, hcl, hnl, hnd, hl, hk⟩ := hj
        refine ⟨none, W2.putObj L (.loop { rec .ready none with state := .exhausted }), by have := run_endLoop (P := P) hl (by rw [hrec]; simp); rw [hrec] at this ⊢; exact this, ?_⟩
        have := hdone D xs Ci (W2.putObj L (.loop { rec .ready none with state := .exhausted })) (by omega) hS (hI _ _ _ _ hi (.put hnl)) hnd (endd W2 Ci _ hst) ((World.putObj_heap_other (by omega)).trans hk)
        rw [hD] at this; exact this
      · rw [hJxd] at hj
        obtain ⟨Ci, c, rfl, hi, hcl, hnl, hnd, hl, hk⟩ := hj
        refine ⟨some c, W2.putObj L (.loop { rec .done (some c) with state := .exhausted }), by have := run_endLoop (P := P) hl (by rw [hrec]; simp); rw [hrec] at this ⊢; exact this, ?_⟩
        have := hstop D c pre Ci (W2.putObj L (.loop { rec .done (some c) with state := .exhausted })) (by omega) hSp (hIx _ _ _ _ _ hi (.put hnl)) hnd (endd W2 Ci _ hst) ((World.putObj_heap_other (by omega)).trans hk)
        rw [hD] at this; exact this

/-! ### slices.AppendSeq and slices.Collect over an iterator under the own law of RangeC. -/
attribute [local go_sem] Oper.semAt_some
/-- The append to an owned row inside a fence, with the place of the row that it leaves. -/
theorem wpListIn_append_at {F : Fence} {n : Nat} {P : Program} (w : World) {ops : Array Oper} {rest : List Oper} {o : Oper} {a : Act} {Q : Exit → Act → World → Prop}
    (hg : o.guard = none) (s x : Operand) (t : TypeId) (hop : o.op = Op.call { callee := Callee.builtin Builtin.append, args := #[s, x], argTypes := #[t, t] })
    (base : Nat) (e : TypeId) (i : TypeInfo) (z : Value) (size bytes : Nat) (h1 : P.underlying t = some (.slice e)) (h2 : P.info? e = some i) (h3 : i.zero = some z) (h4 : i.size = size) (h5 : i.bytes = bytes) (h6 : z.cells.size = size) (h7 : 0 < size)
    (v : Value) (k : Nat) (xs : List Value) (hs : a.eval s = v) (hown : w.ownsRow base e size v k xs) (ad : Addr) (m c : Nat) (news : List Value) (hx : a.eval x = .slice (some ad) m c) (hn : news.length = m * size)
    (hc : ∀ j u, news[j]? = some u → w.cell? (ad.add j) = some u) (h1c : ∀ u ∈ news, u.oneCell' = true) (b1 : k + m ≤ maxLen) (b2 : (k + m) * bytes ≤ 140737488355328) (b3 : base ≤ w.heap.size)
    (hK : ∀ v' w', w'.ownsRow base e size v' (k + m) (xs ++ news) → w.grownBy w' v.ownBlock → (v'.ownBlock = v.ownBlock ∨ v'.ownBlock = some w.heap.size) → wpListIn F n P ops Q rest (a.put o.dst v') w') :
    wpListIn F n P ops Q (o :: rest) a w := by
  refine wpListIn_plain hg fun K hK' => ?_
  obtain ⟨v', w', hrun, r1, r2, _, r4⟩ := run_append_own_at (P := P) (w := w) base t o.type e i z size bytes h1 h2 h3 h4 h5 h6 h7 v k xs hown ad m c news hn hc h1c b1 b2 b3
  unfold Oper.wpIn
  refine ⟨by simp [Oper.about, hop, resolve, Target.leads, Sem.run_pure], ?_⟩
  rw [Oper.semAt_plain F _ _ (by rw [hop]; intro c hc'; cases hc')]
  simp [execOp, hop, resolve, invoke, builtin, hs, hx, hrun, Result.andThen]
  exact hK' _ _ (hK v' w' r1 r2 r4)
/-- What AppendSeq holds between two rounds. -/
def Gathered (B : Nat) (xs : List Bs) (C : Nat → Prop) (W : World) : Prop :=
  ∃ v, HB W B 27 #[v] ∧ W.ownsRow (B + 1) 9 1 v xs.length (xs.map sv) ∧ (∀ b, C b ↔ (b = B ∨ v.ownBlock = some b))
theorem gathered_ab (B : Nat) : AbC (Gathered B) := by
  rintro xs C W W' ⟨v, h1, h2, h3⟩ hs
  exact ⟨v, (hs.block B ((h3 B).2 (.inl rfl)) h1.lt).trans h1, owns_heap h2 (fun b hb => hs.block b ((h3 b).2 (.inr hb)) (owns_block h2 hb).2), h3⟩
set_option maxRecDepth 100000 in
set_option maxHeartbeats 4000000 in
theorem slices_AppendSeqC (gf : Nat) (lb : Array Value) (S Sp : List Bs → Prop) (N : Nat) (R : Nat → Prop) (w : World) (eg : ∀ args w, (callFunc gf args).run Tryz.prog w = .ok (.enter gf args) w) (hN : N ≤ 100000)
    (hseq : SeqC Fence.wide 3 Tryz.prog gf lb (fun s : Bs => #[.string (mk s)]) S Sp N R w) (hR : ∀ b, R b → b < w.heap.size) :
    Calls Tryz.prog 157 #[.slice none 0 0, .func (.func gf) #[] lb] w fun e w' => ∃ xs, S xs ∧ NewStrs 9 xs w e w' := by
  obtain ⟨i0, hi, hz0, hz1, hz2⟩ := info_parts infoS
  have Hi := Lib.hid hi
  have Hz0 := Lib.hid hz0
  have Hz1 := Lib.hid hz1
  have Hz2 := Lib.hid hz2
  clear hi hz0 hz1 hz2
  refine (callsIn_wide (n := 4)).1 ?_
  refine callsIn_of_wp_marks Tryz.func157 rfl trivial ?_ rfl
  simp only [Tryz.ntmps157, List.size_toArray, List.length_cons, List.length_nil, Nat.reduceAdd, Nat.reduceSub, Array.replicate_succ, Array.replicate_zero, List.push_toArray, List.append_toArray, List.nil_append, List.cons_append]
  gi_wp2
  obtain ⟨B, hB⟩ : ∃ B, B = w.heap.size := ⟨_, rfl⟩
  have hI0 : Gathered B [] (fun b => b = B) (w.alloc (.cells #[.slice none 0 0] 27)) := ⟨.slice none 0 0, by rw [hB]; exact HB.new _ _ _, World.ownsRow_nil _ _ _ _, fun b => by simp [Value.ownBlock]⟩
  rw [← hB]
  refine wpIn_rangeFunc_C (n := 4) (F := Fence.wide) rfl (by omega) (gf := gf) (lb := lb) rfl trivial eg hseq (.alloc R w _) (fun b hb => by have := hR b hb; simp; omega) (fun _ => rfl)
    (Gathered B) (fun _ _ _ _ => False) (gathered_ab B) (fun _ _ _ _ _ h _ => h) (fun b => b = B) (fun b hb => ⟨fun h => by have := hR b h; omega, by simp; omega⟩) hI0
    (fun x => { tmps := #[.slice none 0 0, .func (.func gf) #[] lb, .pointer (some ⟨B, 0, none⟩), undef, .slice none 0 0, .string (mk x), .func (.func gf) #[] lb, .string (mk x), undef, undef, undef, undef, undef], defers := [] }) ?assign ?body ?done ?stop
  case assign =>
    intro l x W K hK
    clear hB
    gi_wp2
    exact hK
  case body =>
    intro l pre x C W ⟨v, hb, hown, hC⟩ hCl hlen
    clear hB
    have x0 := hb.cell 0
    have xf := hb.frozen 0
    have hBl := hb.lt
    have hapart : v.ownBlock ≠ some B := fun e => by have := (owns_block hown e).1; omega
    gi_wp2_with (gi_at_builtin; refine wpListIn_append_at _ rfl _ _ 27 rfl (B + 1) 9 i0 (.string ByteArray.empty) 1 16 Tryz.underlying27 Hi.out Hz0.out Hz1.out Hz2.out rfl (by decide) _ pre.length _ rfl (hown.alloc _) ⟨W.heap.size, 0, none⟩ 1 1 [.string (mk x)] rfl rfl (cell_one_new _ _ _) (fun u hu => by simp at hu; subst hu; rfl) (by unfold maxLen; omega) (by omega) (by simp; omega) ?_; intro v1 w1 hown1 hg1 hat1; obtain ⟨g1, c1, rfl⟩ := ownsRow_succ hown1; have hb1 : HB w1 B 27 #[v] := (hb.alloc _).grown hg1 hapart; have y0 := hb1.cell 0; have yf := hb1.frozen 0; have yl := hb1.lt)
    have hgB : g1 ≠ B := fun e => by have h1 : B + 1 ≤ g1 := (owns_block hown1 rfl).1; omega
    have hg1l : g1 < w1.heap.size := (owns_block hown1 rfl).2
    have hkeep : ∀ b, b ≠ B → (w1.setCell ⟨B, 0, none⟩ (.slice (some ⟨g1, 0, none⟩) (pre.length + 1) c1)).heap[b]? = w1.heap[b]? := fun b hb => Below.heap_setCell _ _ _ _ hb
    have hsz : w1.heap.size = (w1.setCell ⟨B, 0, none⟩ (.slice (some ⟨g1, 0, none⟩) (pre.length + 1) c1)).heap.size := by simp [World.setCell]
    refine ⟨fun b => b = B ∨ b = g1, ⟨hg1.os, hg1.tape, hg1.output, by rw [← hsz]; have := hg1.size; simp at this; omega, fun b hbl hn => ?_, fun b hb => ?_⟩, fun b hb => ?_, _, hb1.put 0 _, ?_, fun b => by simp [Value.ownBlock, eq_comm]⟩
    · have hnB : b ≠ B := fun e => hn ((hC b).2 (.inl e))
      rw [hkeep b hnB, hg1.block b (by simp; omega) (fun e => hn ((hC b).2 (.inr e.symm)))]
      exact Below.heap_alloc _ _ _ hbl
    · rcases hb with rfl | rfl
      · exact .inl ((hC _).2 (.inl rfl))
      · rcases hat1 with e | e
        · exact .inl ((hC _).2 (.inr (e.symm.trans rfl)))
        · right
          simp only [Value.ownBlock, Option.some.injEq, World.size_alloc] at e
          omega
    · rw [← hsz]
      rcases hb with rfl | rfl
      · exact yl
      · exact hg1l
    · have h := owns_heap (w' := w1.setCell ⟨B, 0, none⟩ (.slice (some ⟨g1, 0, none⟩) (pre.length + 1) c1)) hown1 (fun b hb => hkeep b (fun e => by simp only [Value.ownBlock, Option.some.injEq] at hb; exact hgB (hb.trans e)))
      rw [List.length_append, List.map_append]
      exact h
  case done =>
    intro D ys C W hD hS ⟨v, hb, hown, hC⟩ hnD hst hK
    have HB0 := Lib.hid hB
    clear hB
    have x0 := hb.cell 0
    gi_wp2
    refine ⟨by simp, .inl ⟨_, _, rfl, run_takeDeferred hK, ?_⟩⟩
    have hDw : w.heap.size < D := by simp at hD; omega
    refine ⟨_, results_tmp rfl _ _ _, ys, hS, v, rfl, ?_, ⟨hst.os, hst.tape, hst.output, by have := hst.size; simp at this ⊢; omega, fun b hb2 => ?_⟩⟩
    · exact owns_heap (owns_mono hown (by rw [HB0.out]; exact Nat.le_succ _)) (fun b hb2 => World.putObj_heap_other (fun e => hnD ((hC D).2 (.inr (by rw [← e]; exact hb2)))))
    · rw [World.putObj_heap_other (by omega), hst.block b (by simp; omega) (by rw [HB0.out]; omega)]
      exact Below.heap_alloc _ _ _ hb2
  case stop =>
    intro D c pre C W _ _ h
    exact h.elim
set_option maxRecDepth 100000 in
set_option maxHeartbeats 1000000 in
theorem slices_CollectC (gf : Nat) (lb : Array Value) (S Sp : List Bs → Prop) (N : Nat) (R : Nat → Prop) (w : World) (eg : ∀ args w, (callFunc gf args).run Tryz.prog w = .ok (.enter gf args) w) (hN : N ≤ 100000)
    (hseq : SeqC Fence.wide 3 Tryz.prog gf lb (fun s : Bs => #[.string (mk s)]) S Sp N R w) (hR : ∀ b, R b → b < w.heap.size) :
    Calls Tryz.prog 117 #[.func (.func gf) #[] lb] w fun e w' => ∃ xs, S xs ∧ NewStrs 9 xs w e w' := by
  have Hseq := Lib.hid hseq
  have Heg := Lib.hid eg
  clear hseq eg
  go_enter Tryz.func117, Tryz.ntmps117
  go_wp2_with (go_at_call 157; refine (slices_AppendSeqC gf lb S Sp N R _ Heg.out hN Hseq.out hR).mono ?_; rintro _ w5 ⟨xs, hS, v5, rfl, hown5, hb5⟩; have HS := Lib.hid hS; have Hown5 := Lib.hid hown5; have Hb5 := Lib.hid hb5; clear hS hown5 hb5)
  go_ret
  exact ⟨_, HS.out, _, rfl, Hown5.out, Hb5.out⟩

/-! ### The program's iterator over the names to which ways lead: its contract under the own law of RangeC. -/
attribute [local go_sem] Oper.semAt_some
theorem GraphV.shape {w : World} {D : Nat → Prop} {fs : List Fil} {path : List Int} {g : Value} (h : GraphV w D fs path g) : ∃ o, g = .map o := by
  rcases h with ⟨rfl, _⟩ | ⟨_, b, rfl, _⟩
  · exact ⟨none, rfl⟩
  · exact ⟨some b, rfl⟩
/-- What the iterator reads. -/
def WaysAt (w : World) (D : Nat → Prop) (fs : List Fil) (path : List Int) (n₀ : Nat) (g fv : Value) (xs : List Bs) (B1 B2 : Nat) (R : Nat → Prop) : Prop :=
  n₀ ≤ w.heap.size ∧ (∃ wg : World, wg.heap.size = n₀ ∧ GraphV wg D fs path g ∧ Below n₀ wg w) ∧ HB w B1 27 #[fv] ∧ HB w B2 68 #[g] ∧ (∃ Bf, w.ownsRow Bf 9 1 fv xs.length (xs.map sv)) ∧
    (∀ b, R b ↔ (b < n₀ ∨ b = B1 ∨ b = B2 ∨ fv.ownBlock = some b))
theorem WaysAt.lt {w : World} {D : Nat → Prop} {fs : List Fil} {path : List Int} {n₀ : Nat} {g fv : Value} {xs : List Bs} {B1 B2 : Nat} {R : Nat → Prop} (h : WaysAt w D fs path n₀ g fv xs B1 B2 R) : ∀ b, R b → b < w.heap.size := by
  obtain ⟨h0, _, h1, h2, ⟨Bf, h3⟩, hR⟩ := h
  intro b hb
  rcases (hR b).1 hb with h | rfl | rfl | h
  · omega
  · exact h1.lt
  · exact h2.lt
  · exact (owns_block h3 h).2
theorem WaysAt.same {w w' : World} {D : Nat → Prop} {fs : List Fil} {path : List Int} {n₀ : Nat} {g fv : Value} {xs : List Bs} {B1 B2 : Nat} {R : Nat → Prop} (h : WaysAt w D fs path n₀ g fv xs B1 B2 R) (hs : SameC R w w') : WaysAt w' D fs path n₀ g fv xs B1 B2 R := by
  have hl := h.lt
  obtain ⟨h0, ⟨wg, hg1, hg2, hg3⟩, h1, h2, ⟨Bf, h3⟩, hR⟩ := h
  refine ⟨Nat.le_trans h0 hs.size, ⟨wg, hg1, hg2, hg3.trans ⟨hs.os, hs.tape, hs.output, hs.size, fun b hb => hs.block b ((hR b).2 (.inl hb)) (by omega)⟩⟩, (hs.block B1 ((hR _).2 (.inr (.inl rfl))) h1.lt).trans h1, (hs.block B2 ((hR _).2 (.inr (.inr (.inl rfl)))) h2.lt).trans h2, ⟨Bf, owns_heap h3 (fun b hb => hs.block b ((hR b).2 (.inr (.inr (.inr hb)))) (owns_block h3 hb).2)⟩, hR⟩
theorem WaysAt.graph {w : World} {D : Nat → Prop} {fs : List Fil} {path : List Int} {n₀ : Nat} {g fv : Value} {xs : List Bs} {B1 B2 : Nat} {R : Nat → Prop} (h : WaysAt w D fs path n₀ g fv xs B1 B2 R) : GraphV w D fs path g := by
  obtain ⟨h0, ⟨wg, rfl, hg2, hg3⟩, _⟩ := h
  exact hg2.below hg3
theorem StepC.below {C C' : Nat → Prop} {X Y Z : World} (h : StepC C X C' Y) (k : Below X.heap.size Y Z) : StepC C X C' Z :=
  ⟨k.os.trans h.os, k.tape.trans h.tape, k.output.trans h.output, Nat.le_trans h.size k.size, fun b hb hn => (k.block b hb).trans (h.block b hb hn), h.sub⟩
set_option maxRecDepth 100000 in
set_option maxHeartbeats 4000000 in
theorem ways_seq (g fv : Value) (fs : List Fil) (path : List Int) (D : Nat → Prop) (n₀ B1 B2 : Nat) (xs : List Bs) (R : Nat → Prop) (N : Nat) (w : World) (ht : okTree fs = true) (hn : xs.Nodup) (hx : ∀ x ∈ xs, vn x = true) (hxl : xs.length ≤ 100) (hN : xs.length + 288 ≤ N) (h : WaysAt w D fs path n₀ g fv xs B1 B2 R) :
    SeqC Fence.wide 3 Tryz.prog 158 #[.pointer (some ⟨B1, 0, none⟩), .pointer (some ⟨B2, 0, none⟩)] (fun s : Bs => #[.string (mk s)]) (fun ys => ys = reachAll fs path xs) (fun ys => ys <+: reachAll fs path xs) N R w := by
  intro l J Jx C W hsame hJ hJx hC hY h0
  have hW := h.same hsame
  have hWl := hW.lt
  have HW := Lib.hid hW
  have HJ := Lib.hid hJ
  have HY := Lib.hid hY
  have H0 := Lib.hid h0
  have HC := Lib.hid hC
  obtain ⟨Bf, hfv⟩ := hW.2.2.2.2.1
  have Hfv := Lib.hid hfv
  have x1 := hW.2.2.1.cell 0
  have x2 := hW.2.2.2.1.cell 0
  have l1 := hW.2.2.1.lt
  have l2 := hW.2.2.2.1.lt
  have Hxs := Lib.hid (show addNew [] xs = xs by rw [addNew_nodup xs [] (by simpa using hn)]; rfl)
  clear hsame hJ hJx hC hY h0 hW h
  refine callsIn_wide.2 ?_
  go_enter Tryz.func158, Tryz.ntmps158
  go_wp2_with (go_at_call 136; refine (impl_withNew W.heap.size Bf _ _ [] xs _ (World.ownsRow_nil _ _ _ _) (Nat.le_refl _) Hfv.out (fun b hb e => by simp [Value.ownBlock] at e) (by simp; omega)).mono ?_; rintro _ w1 ⟨v1, rfl, hown1, hg1, hat1⟩; rw [Hxs.out] at hown1)
  obtain ⟨rk, hrk⟩ : ∃ f : Nat → List Bs, f = reachK (edgesOf fs path) xs := ⟨_, rfl⟩
  have hrl : ∀ k, (rk k).length ≤ xs.length + 288 := by rw [hrk]; exact reachK_len ht hn
  have Hrk := Lib.hid hrk
  have Hvn := Lib.hid (show ∀ k, ∀ x ∈ rk k, vn x = true by rw [hrk]; exact reachK_all hx (fun n _ y hy => (edgesOf_ok fs path n).1 y hy))
  have Hown1 := Lib.hid (show w1.ownsRow W.heap.size 9 1 v1 (rk 0).length ((rk 0).map sv) by rw [hrk]; exact hown1)
  have Hst1 := Lib.hid (show StepC C W C w1 from ⟨hg1.os, hg1.tape, hg1.output, hg1.size, fun b hb _ => hg1.block b hb (by simp [Value.ownBlock]), fun _ h => .inl h⟩)
  have HJ1 := Lib.hid (HJ.out _ _ _ _ H0.out (.of_grown hg1 (fun b e => by simp [Value.ownBlock] at e)))
  have Hna1 := Lib.hid (show ∀ b, v1.ownBlock = some b → ¬ C b from fun b hb hc => by
    rcases hat1 b hb with e | e
    · simp [Value.ownBlock] at e
    · have := (HC.out b hc).2; omega)
  have HCl1 := Lib.hid (show ∀ b, C b → b < w1.heap.size from fun b hb => Nat.lt_of_lt_of_le (HC.out b hb).2 hg1.size)
  clear hown1 hg1 hat1 hrk hfv x1 x2 l1 l2
  go_loopw [4, 5] (fun nv kv wr => ∃ (k : Nat) (C' : Nat → Prop), k ≤ (rk k).length ∧ kv = .int .i64 k ∧ J ((rk k).take k) C' wr ∧ StepC C W C' wr ∧ (∀ b, C' b → b < wr.heap.size) ∧ wr.ownsRow W.heap.size 9 1 nv (rk k).length ((rk k).map sv) ∧ (∀ b, nv.ownBlock = some b → ¬ C' b)) (fun _ kv _ => xs.length + 288 - (intOf kv).toNat)
  case atStart => exact ⟨0, C, by omega, rfl, HJ1.out, Hst1.out, HCl1.out, Hown1.out, Hna1.out⟩
  case round =>
    obtain ⟨k, C', hk, rfl, hj, hst, hcl, hown, hna⟩ := hrel
    obtain ⟨na, nc, rfl⟩ := owns_shape hown
    have Hj := Lib.hid hj
    have Hst := Lib.hid hst
    have Hcl := Lib.hid hcl
    have Hown := Lib.hid hown
    have Hna := Lib.hid hna
    clear hj hst hcl hna HJ1 Hst1 HCl1 Hown1 Hna1
    have hkl := hrl k
    by_cases hlt : k < (rk k).length
    · obtain ⟨gl, cl, el, hgl1, hgl2⟩ := hown.form (by omega)
      simp only [Value.slice.injEq] at el
      obtain ⟨rfl, _, rfl⟩ := el
      have hcj : wr.cell? ⟨gl, k, none⟩ = some (.string (mk (rk k)[k])) := by
        rw [hown.cellAt k (by omega), List.getElem?_map, List.getElem?_eq_getElem hlt]; rfl
      have hyl := HY.out _ (rk k)[k] C' wr Hj.out (by rw [List.length_take]; omega)
      have hk1 : (k : Int) < ((rk k).length : Int) := by omega
      have hk0 : (0 : Int) ≤ (k : Int) := by omega
      have hgs : gl < wr.heap.size := (hown.lt gl rfl).2
      clear hown hgl1 hgl2
      obtain ⟨x, hxk⟩ : ∃ x, x = (rk k)[k] := ⟨_, rfl⟩
      rw [← hxk] at hcj hyl
      have Hxk := Lib.hid hxk
      clear hxk
      obtain ⟨fn, tmps, assign, body, hy, hR⟩ := hyl
      go_upto_region 4 with fail
      refine (wpIn_wide (n := 3)).1 ?_
      gi_wp2
      refine hR.mono ?_
      rintro e W6 ⟨C6, hst6, hcl6, (⟨rfl, hJ6⟩ | ⟨rfl, hJ6⟩)⟩
      · have Hst6 := Lib.hid hst6
        have HJ6 := Lib.hid hJ6
        have Hcl6 := Lib.hid hcl6
        clear hst6 hJ6 hcl6 hR hy
        gi_wp2
        have hs6 := Hst6.out.size
        have hglC : ¬ C6 gl := fun h => by
          rcases Hst6.out.sub _ h with h1 | h1
          · exact Hna.out gl rfl h1
          · omega
        have HglC := Lib.hid hglC
        have HC6 := Lib.hid (Hst.out.trans Hst6.out)
        have HW6 := Lib.hid (HW.out.same (HC6.out.same (fun b hb hc => (HC.out b hc).1 hb)))
        have x2 := HW6.out.2.2.2.1.cell 0
        have l2 := HW6.out.2.2.2.1.lt
        have hown6 := owns_heap Hown.out (fun b hb => Hst6.out.block b (owns_block Hown.out hb).2 (Hna.out b hb))
        have hc6 : W6.cell? ⟨gl, k, none⟩ = some (.string (mk x)) := by
          rw [hown6.cellAt k (by omega), List.getElem?_map, List.getElem?_eq_getElem hlt, ← Hxk.out]; rfl
        have Hown6 := Lib.hid hown6
        have hgs6 : gl < W6.heap.size := by omega
        have hxv := Hvn.out k x (by rw [Hxk.out]; exact List.getElem_mem hlt)
        have hxl8 : x.length ≤ 8000000 := Nat.le_trans (vn_len hxv) (by omega)
        have Hnext := Lib.hid (show rk (k + 1) = addNew (rk k) (edgesOf fs path x) by rw [Hxk.out]; simp only [Hrk.out] at hlt ⊢; exact reachK_step hlt)
        have Hpre := Lib.hid (show (rk k).take k ++ [x] = (rk (k + 1)).take (k + 1) by
          obtain ⟨r, hr⟩ := addNew_pre (rk k) (edgesOf fs path x)
          rw [Hnext.out, ← hr, List.take_append_of_le_length (by omega), List.take_succ_eq_append_getElem hlt, ← Hxk.out])
        have hrl1 := hrl (k + 1)
        have heL := (edgesOf_ok fs path x).2.2
        have Hk := Lib.hid (fun (w' : World) (hC : Below W6.heap.size W6 w') => (⟨(HW6.out.2.2.2.1.step hC).cell 0, (hC.cell (p := ⟨gl, k, none⟩) hgs6).trans hc6, hC⟩ : w'.cell? ⟨B2, 0, none⟩ = some g ∧ w'.cell? ⟨gl, k, none⟩ = some (.string (mk x)) ∧ Below W6.heap.size W6 w'))
        have hWW : W.heap.size ≤ W6.heap.size := HC6.out.size
        clear hown6 hglC hcj hxv
        obtain ⟨es, hes⟩ : ∃ es, es = edgesOf fs path x := ⟨_, rfl⟩
        rw [← hes] at Hnext heL
        have Hes := Lib.hid hes.symm
        clear hes
        go_wp2_with fail
        go_region_law
          (first
            | (go_simp; go_at_call 87; refine (impl_edges g fs path D x _ (HW6.out.graph.below (by (repeat (with_reducible first | exact Below.refl _ _ | assumption | refine ba ?_ _ | refine bd ?_ | refine bdN ?_ _ | refine bs ?_ (by first | exact Nat.le_refl _ | (dsimp only; omega) | (simp; done)) _ | refine bt ?_ (by assumption))))) hxl8).mono ?_; rintro _ w9 ⟨v9, rfl, hown9, hb9⟩; rw [Hes.out] at hown9; obtain ⟨a9, c9, rfl⟩ := owns_shape hown9; have Hown9 := Lib.hid (owns_mono hown9 (show W6.heap.size ≤ _ from (show Below W6.heap.size W6 _ by (repeat (with_reducible first | exact Below.refl _ _ | assumption | refine ba ?_ _ | refine bd ?_ | refine bdN ?_ _ | refine bs ?_ (by first | exact Nat.le_refl _ | (dsimp only; omega) | (simp; done)) _ | refine bt ?_ (by assumption)))).size)); have Hb9 := Lib.hid (show Below W6.heap.size W6 w9 by (repeat (with_reducible first | exact Below.refl _ _ | assumption | refine ba ?_ _ | refine bd ?_ | refine bdN ?_ _ | refine bs ?_ (by first | exact Nat.le_refl _ | (dsimp only; omega) | (simp; done)) _ | refine bt ?_ (by assumption)))); clear hown9 hb9)
            | (go_simp; go_at_call 136; refine (impl_withNew W.heap.size W6.heap.size _ _ (rk k) es _ (owns_below Hown6.out Hb9.out) (Nat.le_trans hWW Hb9.out.size) Hown9.out (fun b hb e => by have h1 := (owns_block Hown9.out hb).1; simp only [Value.ownBlock, Option.some.injEq] at e; omega) (by omega)).mono ?_; rintro _ w8 ⟨v8, rfl, hown8, hg8, hat8⟩; rw [← Hnext.out] at hown8; have Hown8 := Lib.hid hown8; have Hg8 := Lib.hid hg8; have Hat8 := Lib.hid hat8; clear hown8 hg8 hat8))
        all_goals
          have hsm := (SameC.of_below (C := C6) Hb9.out).trans (SameC.of_grown (C := C6) Hg8.out (fun b e hc => by simp only [Value.ownBlock, Option.some.injEq] at e; exact HglC.out (e ▸ hc)))
          have hHJ8 := HJ.out _ _ _ _ HJ6.out hsm
          rw [Hpre.out] at hHJ8
          have HJ8 := Lib.hid hHJ8
          have hglW : W.heap.size ≤ gl := (owns_block Hown6.out rfl).1
          have Hst8 := Lib.hid (HC6.out.below ((Hb9.out.mono hWW).grown Hg8.out (Nat.le_trans hWW Hb9.out.size) (fun b e => by simp only [Value.ownBlock, Option.some.injEq] at e; omega)))
          have Hcl8 := Lib.hid (show ∀ b, C6 b → b < w8.heap.size from fun b hb => Nat.lt_of_lt_of_le (Hcl6.out b hb) hsm.size)
          have Hna8 := Lib.hid (show ∀ b, v8.ownBlock = some b → ¬ C6 b from fun b hb hc => by
            rcases Hat8.out b hb with e | e
            · simp only [Value.ownBlock, Option.some.injEq] at e
              exact HglC.out (e ▸ hc)
            · have h1 := Hcl6.out b hc
              have h2 := Hb9.out.size
              omega)
          clear hsm hHJ8
          go_wp2_with fail
          have hk2 : k + 1 ≤ (rk (k + 1)).length := by
            rw [Hnext.out]
            have := (addNew_pre (rk k) es).length_le
            omega
          go_roundw
          case rel => exact ⟨k + 1, C6, hk2, by go_num, HJ8.out, Hst8.out, Hcl8.out, Hown8.out, Hna8.out⟩
          case measure => simp [intOf]; omega
      · have Hst6 := Lib.hid hst6
        have HJ6 := Lib.hid hJ6
        clear hst6 hJ6 hcl6 hR hy
        gi_wp2
        go_wp2_with fail
        refine bodyPost_ret (results_none rfl _ _ _) rfl ?_
        refine ⟨⟨_, rfl⟩, C6, Hst.out.trans Hst6.out, .inr ⟨_, ?_, HJ6.out⟩⟩
        have h1 : (rk k).take k ++ [x] <+: rk k := by
          rw [Hxk.out, ← List.take_succ_eq_append_getElem hlt]; exact List.take_prefix _ _
        refine h1.trans ?_
        rw [Hrk.out]
        exact reachK_le _ _ (by omega)
    · have hek : (rk k).length = k := by omega
      go_wp2_with fail
      go_end0
      refine ⟨⟨_, rfl⟩, C', Hst.out, .inl ⟨(rk k).take k, ?_, Hj.out⟩⟩
      rw [List.take_of_length_le (by omega)]
      rw [Hrk.out] at hek ⊢
      exact reachAll_at ht hn (by omega) (by have := hrl k; rw [Hrk.out] at this; omega)

/-! ### The names that are reached: contracts of the program's side. -/
set_option maxRecDepth 100000 in
set_option maxHeartbeats 1000000 in
theorem impl_ways (g fv : Value) (w : World) (hg : ∃ o, g = .map o) (hf : ∃ a n c, fv = .slice a n c) :
    Calls Tryz.prog 118 #[g, fv] w fun e w' => e = .returned (.func (.func 158) #[] #[.pointer (some ⟨w.heap.size + 1, 0, none⟩), .pointer (some ⟨w.heap.size, 0, none⟩)]) ∧ w' = (w.alloc (.cells #[g] 68)).alloc (.cells #[fv] 27) := by
  obtain ⟨o, rfl⟩ := hg
  obtain ⟨a, n, c, rfl⟩ := hf
  have hmf : ∀ (fn : Fn) (first cap : Array Value) (w : World), (Instr.makeFunc fn first cap).run Tryz.prog w = .ok (.func fn first cap) w := fun _ _ _ _ => rfl
  go_enter Tryz.func118, Tryz.ntmps118
  go_wp2_with fail
  go_ret
  exact ⟨rfl, rfl⟩
set_option maxRecDepth 100000 in
theorem ways_enters : ∀ args w, (callFunc 158 args).run Tryz.prog w = .ok (.enter 158 args) w := enters_of Tryz.func158 (by kernel_rfl) rfl
set_option maxRecDepth 100000 in
set_option maxHeartbeats 1000000 in
theorem ways_collected (g fv : Value) (fs : List Fil) (path : List Int) (D : Nat → Prop) (xs : List Bs) (B : Nat) (w : World) (ht : okTree fs = true) (hn : xs.Nodup) (hx : ∀ x ∈ xs, vn x = true) (hxl : xs.length ≤ 100) (hg : GraphV w D fs path g) (hf : w.ownsRow B 9 1 fv xs.length (xs.map sv)) :
    Calls Tryz.prog 117 #[.func (.func 158) #[] #[.pointer (some ⟨w.heap.size + 1, 0, none⟩), .pointer (some ⟨w.heap.size, 0, none⟩)]] ((w.alloc (.cells #[g] 68)).alloc (.cells #[fv] 27)) (NewStrs 9 (reachAll fs path xs) ((w.alloc (.cells #[g] 68)).alloc (.cells #[fv] 27))) := by
  obtain ⟨W, hW⟩ : ∃ W, W = (w.alloc (.cells #[g] 68)).alloc (.cells #[fv] 27) := ⟨_, rfl⟩
  have hb : Below w.heap.size w W := by rw [hW]; exact ba (ba (Below.refl _ _) _) _
  have h2 : HB W w.heap.size 68 #[g] := by rw [hW]; exact (HB.new _ _ _).alloc _
  have h1 : HB W (w.heap.size + 1) 27 #[fv] := by
    have h := HB.new (w.alloc (.cells #[g] 68)) #[fv] 27
    rw [← hW] at h; simpa using h
  rw [← hW]
  have hA : WaysAt W D fs path w.heap.size g fv xs (w.heap.size + 1) w.heap.size (fun b => b < w.heap.size ∨ b = w.heap.size + 1 ∨ b = w.heap.size ∨ fv.ownBlock = some b) :=
    ⟨hb.size, ⟨w, rfl, hg, hb⟩, h1, h2, ⟨B, owns_below hf hb⟩, fun _ => Iff.rfl⟩
  have hs := ways_seq g fv fs path D w.heap.size (w.heap.size + 1) w.heap.size xs _ 400 W ht hn hx hxl (by omega) hA
  have hc := slices_CollectC 158 _ _ _ 400 _ W ways_enters (by omega) hs hA.lt
  exact hc.mono (fun e w' h => by obtain ⟨ys, h1, h2⟩ := h; rw [h1] at h2; exact h2)
set_option maxRecDepth 100000 in
set_option maxHeartbeats 4000000 in
theorem impl_reached (v : Value) (fs : List Fil) (D : Nat → Prop) (pv : Value) (path : List Int) (s : Bs) (w : World) (hr : FilsIn w D v fs) (hz : ShortT 2000000 fs) (hp : IntsIn w pv path) (hsl : s.length ≤ 8000000) :
    Calls Tryz.prog 69 #[.agg #[v], pv, .string (mk s)] w fun e w' => ∃ g v', e = .returned (.tuple #[g, v']) ∧ (∃ D', GraphV w' D' fs path g) ∧ w'.ownsRow w.heap.size 9 1 v' (reachOf fs path s).length ((reachOf fs path s).map sv) ∧ Below w.heap.size w w' := by
  have Hr := Lib.hid hr
  have Hz := Lib.hid hz
  have Hp := Lib.hid hp
  obtain ⟨aa, ca, rfl, hl, hm⟩ := hr.len
  clear hr hz hp hl hm
  obtain ⟨ns, hns⟩ : ∃ ns, ns = namesAbove s := ⟨_, rfl⟩
  have Hns := Lib.hid hns
  have Hre := Lib.hid (show okLook fs path = true → sortUp (reachAll fs path ns) = reachOf fs path s from fun h => by rw [hns]; unfold reachOf; rw [h]; rfl)
  have h3 : ns.length ≤ 3 := by rw [hns]; exact namesAbove_le3 s
  have Hn := Lib.hid (show ns.Nodup by rw [hns]; exact namesAbove_nodup s)
  have Hv := Lib.hid (show ∀ x ∈ ns, vn x = true by rw [hns]; exact fun x hx => namesAbove_vn hx)
  clear hns
  have hq1 : ∀ (o : Option Nat) (w : World), (eqGuard BinOp.eql 68 (Operand.tmp 12) (Operand.const (.map none)) (.map o) (.map none)).run Tryz.prog w = .ok () w := fun o _ => by cases o <;> kernel_rfl
  have hq2 : ∀ (o : Option Nat) (w : World), (binOp BinOp.eql 68 (.map o) (.map none)).run Tryz.prog w = .ok (.bool o.isNone) w := fun o _ => by cases o <;> kernel_rfl
  go_enter Tryz.func69, Tryz.ntmps69
  go_wp2_with (go_at_call 86; refine (impl_graphOf _ fs D _ path _ (Hr.out.below (by (repeat (with_reducible first | exact Below.refl _ _ | assumption | refine ba ?_ _ | refine bd ?_ | refine bdN ?_ _ | refine bs ?_ (by first | exact Nat.le_refl _ | (dsimp only; omega) | (simp; done)) _ | refine bt ?_ (by assumption))))) Hz.out (Hp.out.below (by (repeat (with_reducible first | exact Below.refl _ _ | assumption | refine ba ?_ _ | refine bd ?_ | refine bdN ?_ _ | refine bs ?_ (by first | exact Nat.le_refl _ | (dsimp only; omega) | (simp; done)) _ | refine bt ?_ (by assumption)))))).mono ?_; rintro _ w5 ⟨g5, rfl, hg5, hb5⟩; obtain ⟨o5, rfl⟩ := hg5.shape; have Hg5 := Lib.hid hg5; have Hb5 := Lib.hid (show Below w.heap.size w w5 by (repeat (with_reducible first | exact Below.refl _ _ | assumption | refine ba ?_ _ | refine bd ?_ | refine bdN ?_ _ | refine bs ?_ (by first | exact Nat.le_refl _ | (dsimp only; omega) | (simp; done)) _ | refine bt ?_ (by assumption)))); clear hb5)
  · rename_i hnone
    have ho : o5 = none := by cases o5 <;> simp_all
    subst ho
    have hg5 := Hg5.out
    rcases hg5 with ⟨_, hno⟩ | ⟨_, b, hb, _⟩
    · have hre : reachOf fs path s = [] := by unfold reachOf; rw [hno]; rfl
      go_ret2
      exact ⟨_, _, rfl, ⟨_, Hg5.out⟩, by rw [hre]; exact World.ownsRow_nil _ _ _ _, Hb5.out⟩
    · cases hb
  · have hl5 : okLook fs path = true := by
      rcases Hg5.out with ⟨h, _⟩ | ⟨h, _⟩
      · cases h; simp_all
      · exact h
    have Ht := Lib.hid (okLook_tree hl5)
    have Hre := Lib.hid (Hre.out hl5)
    have hrl := reachAll_len (t := fs) (path := path) Ht.out Hn.out
    clear hl5
    refine (impl_NamesAbove s _ hsl).mono ?_
    rintro _ w6 ⟨v6, rfl, hown6, hb6⟩
    rw [← Hns.out] at hown6
    obtain ⟨a6, c6, rfl⟩ := owns_shape hown6
    have Hown6 := Lib.hid hown6
    have Hg6 := Lib.hid (Hg5.out.below hb6)
    have Hb6 := Lib.hid (Hb5.out.trans (hb6.mono Hb5.out.size))
    clear hown6 hb6
    go_wp2_with fail
    refine (impl_ways _ _ _ ⟨_, rfl⟩ ⟨_, _, _, rfl⟩).mono ?_
    rintro _ w7 ⟨rfl, hw7⟩
    have Hc := Lib.hid (ways_collected _ _ fs path _ ns _ w6 Ht.out Hn.out Hv.out (by omega) Hg6.out Hown6.out)
    rw [← hw7] at Hc
    have Hb7 := Lib.hid (show Below w6.heap.size w6 w7 by rw [hw7]; exact ba (ba (Below.refl _ _) _) _)
    clear hw7
    go_wp2_with fail
    refine Hc.out.mono ?_
    rintro _ w8 ⟨v8, rfl, hown8, hb8⟩
    obtain ⟨a8, c8, rfl⟩ := owns_shape hown8
    have Hown8 := Lib.hid hown8
    have Hb8 := Lib.hid (Hb7.out.trans (hb8.mono Hb7.out.size))
    have hz8 := hb8.size
    clear hown8 hb8
    go_wp2_with fail
    refine (impl_ascending w7.heap.size _ _ _ Hown8.out hz8 (by omega)).mono ?_
    rintro _ w9 ⟨v9, rfl, hown9, hb9⟩
    rw [Hre.out] at hown9
    have Hb9 := Lib.hid (Hb8.out.trans (hb9.mono Hb7.out.size))
    go_wp2_with fail
    go_ret2
    exact ⟨_, _, rfl, ⟨_, Hg6.out.below Hb9.out⟩, owns_mono hown9 (Nat.le_trans Hb6.out.size Hb7.out.size), Hb6.out.trans (Hb9.out.mono Hb6.out.size)⟩
set_option maxRecDepth 100000 in
set_option maxHeartbeats 1000000 in
theorem impl_ReachOf (v : Value) (fs : List Fil) (D : Nat → Prop) (pv : Value) (path : List Int) (s : Bs) (w : World) (hr : FilsIn w D v fs) (hz : ShortT 2000000 fs) (hp : IntsIn w pv path) (hsl : s.length ≤ 8000000) :
    Calls Tryz.prog 38 #[.agg #[v], pv, .string (mk s)] w (NewStrs 9 (reachOf fs path s) w) := by
  have Hr := Lib.hid hr
  have Hz := Lib.hid hz
  have Hp := Lib.hid hp
  obtain ⟨aa, ca, rfl, hl, hm⟩ := hr.len
  clear hr hz hp hl hm
  go_enter Tryz.func38, Tryz.ntmps38
  go_wp2_with (go_at_call 69; refine (impl_reached _ fs D _ path s _ (Hr.out.below (by (repeat (with_reducible first | exact Below.refl _ _ | assumption | refine ba ?_ _ | refine bd ?_ | refine bdN ?_ _ | refine bs ?_ (by first | exact Nat.le_refl _ | (dsimp only; omega) | (simp; done)) _ | refine bt ?_ (by assumption))))) Hz.out (Hp.out.below (by (repeat (with_reducible first | exact Below.refl _ _ | assumption | refine ba ?_ _ | refine bd ?_ | refine bdN ?_ _ | refine bs ?_ (by first | exact Nat.le_refl _ | (dsimp only; omega) | (simp; done)) _ | refine bt ?_ (by assumption))))) hsl).mono ?_; rintro _ w5 ⟨g5, v5, rfl, ⟨D5, hg5⟩, hown5, hb5⟩; obtain ⟨o5, rfl⟩ := hg5.shape; obtain ⟨a5, c5, rfl⟩ := owns_shape hown5; have Hown5 := Lib.hid hown5; have Hb5 := Lib.hid (show Below w.heap.size w w5 by (repeat (with_reducible first | exact Below.refl _ _ | assumption | refine ba ?_ _ | refine bd ?_ | refine bdN ?_ _ | refine bs ?_ (by first | exact Nat.le_refl _ | (dsimp only; omega) | (simp; done)) _ | refine bt ?_ (by assumption)))); clear hown5 hb5 hg5)
  go_ret
  exact ⟨_, rfl, owns_mono Hown5.out (by simp), Hb5.out⟩
end Go.Proofs.YtcmnldomcpjlcaaGreat
