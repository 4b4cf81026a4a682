/- The two contracts of LoadBody, as the exact law takes them. -/
import Derived.Test.YtebfafefeajemaaSLoad
import Derived.Test.YtebfafefeajemaaMarkC
set_option linter.unusedVariables false
set_option linter.unusedSimpArgs false
namespace Go.Proofs.Ytebfafefeajemaa
open Go.RowKit Go.Proofs.Ytebfafefeajemaa.Nm

/-- What LoadBody comes to, part by part. -/
def NewLoadX (L1 : List Stm) (L2 : List Cmp) (had : Bool) (w : World) (e : Ending) (w' : World) : Prop :=
  ∃ bv sv ps, e = .returned (.tuple #[bv, sv, .bool had]) ∧ w'.ownsRow w.heap.size 110 5 bv L1.length (L1.flatMap stmCells) ∧ ps.map (·.1) = L2 ∧ OwnCmps w' w.heap.size sv ps ∧ Apart bv ps ∧ Below w.heap.size w w'
theorem newLoadX {r : List Stm × List Cmp × Bool} {w : World} {e : Ending} {w' : World} (h : NewLoad r w e w') : NewLoadX r.1 r.2.1 r.2.2 w e w' := by
  obtain ⟨bv, sv, ps, h1, h2, h3, h4, h5, h6⟩ := h
  exact ⟨bv, sv, ps, h1, h3, h2, h4, h5, h6⟩
/-- The row of the body shares no block with the store. -/
theorem apart_blk {w : World} {B n : Nat} {bv sv : Value} {xs : List Value} {ps : List (Cmp × Value)} (h1 : w.ownsRow B 110 5 bv n xs) (h2 : OwnCmps w B sv ps) (ha : Apart bv ps) : ∀ b, bv.ownBlock = some b → ¬ BlkC sv ps b := fun b hb hS => by
  rcases hS with hS | ⟨p, hp, hS⟩
  · exact own_types (by decide) h2.1 h1 hS hb
  · exact ha p hp b hS hb
theorem okBody_len {b : List Stm} (h : okBody b = true) : b.length ≤ 8 := by
  unfold okBody at h; simp only [Bool.and_eq_true, decide_eq_true_eq] at h; exact h.2
theorem loadB_fine (cs : List Cmp) (f : Fil) (mode : Int) : (loadB cs f mode).1.length ≤ 8 ∧ (∀ c ∈ (loadB cs f mode).2.1, okBody c.body = true) ∧ (loadB cs f mode).2.1.length ≤ 12 := by
  cases h1 : (okStore cs && okFil f && inr mode 0 2)
  · rw [loadB_none h1]; simp
  · simp only [Bool.and_eq_true] at h1
    obtain ⟨⟨h1, h2⟩, h3⟩ := h1
    obtain ⟨f1, _, f3⟩ := okStore_facts h1
    have hb : ∀ c ∈ cs, okBody c.body = true := fun c hc => okCmp_body (f1 c hc)
    have hf : okBody f.body = true := okFil_body h2
    rcases usAt_range cs f with h | ⟨k, hk, h⟩
    · rw [loadB_new h1 h2 h3 h]
      refine ⟨okBody_len hf, ?_, ?_⟩
      · intro c hc
        dsimp only at hc
        unfold putC at hc
        split at hc
        · rcases List.mem_or_eq_of_mem_set hc with hc | rfl
          · exact hb c hc
          · exact hf
        · split at hc
          · exact hb c hc
          · rcases List.mem_append.1 hc with hc | hc
            · exact hb c hc
            · simp at hc; subst hc; exact hf
      · dsimp only
        unfold putC
        split
        · rw [List.length_set]; exact f3
        · split
          · exact f3
          · rw [List.length_append]; simp; omega
    · rw [loadB_had hk h1 h2 h3 h]
      exact ⟨okBody_len (hb _ (List.getElem_mem hk)), hb, f3⟩
theorem impl_LoadBodyX (v : Value) (cs : List Cmp) (ps : List (Cmp × Value)) (r st : Int) (p n : Bs) (i : Bool) (bv : Value) (fb : List Stm) (mode : Int) (B B' : Nat) (w : World) (h : OwnCmps w B v ps) (hps : ps.map (·.1) = cs) (hz : ShortCs 1048576 cs) (hl : cmpsCost' cs)
    (hf : w.ownsRow B' 110 5 bv fb.length (fb.flatMap stmCells)) (hzf : ShortF 1048576 ⟨r, p, n, i, st, fb⟩) (hfl : fb.length ≤ 1048576) :
    Calls Try.prog 30 #[v, .agg #[.int .i64 r, .string (mk p), .string (mk n), .bool i, .int .i64 st, bv], .int .i64 mode] w (NewLoadX (loadB cs ⟨r, p, n, i, st, fb⟩ mode).1 (loadB cs ⟨r, p, n, i, st, fb⟩ mode).2.1 (loadB cs ⟨r, p, n, i, st, fb⟩ mode).2.2 w) := by
  subst hps
  exact (impl_LoadBody v ps r st p n i bv fb mode B B' w h hz (by have := hl.1; simpa using this) (fun q hq => hl.2 _ (List.mem_map.2 ⟨q, hq, rfl⟩)) hf hzf hfl).mono (fun _ _ h => newLoadX h)
theorem spec_LoadBodyX (v : Value) (cs : List Cmp) (ps : List (Cmp × Value)) (r st : Int) (p n : Bs) (i : Bool) (bv : Value) (fb : List Stm) (mode : Int) (B B' : Nat) (w : World) (h : OwnCmps w B v ps) (hps : ps.map (·.1) = cs) (hz : ShortCs 1048576 cs) (hl : cmpsCost' cs)
    (hf : w.ownsRow B' 110 5 bv fb.length (fb.flatMap stmCells)) (hzf : ShortF 1048576 ⟨r, p, n, i, st, fb⟩) (hfl : fb.length ≤ 1048576) :
    Calls Try.prog 28 #[v, .agg #[.int .i64 r, .string (mk p), .string (mk n), .bool i, .int .i64 st, bv], .int .i64 mode] w (NewLoadX (loadB cs ⟨r, p, n, i, st, fb⟩ mode).1 (loadB cs ⟨r, p, n, i, st, fb⟩ mode).2.1 (loadB cs ⟨r, p, n, i, st, fb⟩ mode).2.2 w) := by
  subst hps
  exact (spec_LoadBody v ps r st p n i bv fb mode B B' w h hz (by have := hl.1; simpa using this) (fun q hq => hl.2 _ (List.mem_map.2 ⟨q, hq, rfl⟩)) hf hzf hfl).mono (fun _ _ h => newLoadX h)
end Go.Proofs.Ytebfafefeajemaa
