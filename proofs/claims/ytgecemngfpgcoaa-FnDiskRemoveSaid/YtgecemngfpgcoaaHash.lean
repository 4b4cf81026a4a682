/- Contracts of the functions that make hashes. -/
import Derived.Test.YtgecemngfpgcoaaStmts
set_option linter.unusedVariables false
set_option linter.unusedSimpArgs false
namespace Go.Proofs.Ytgecemngfpgcoaa
open Go.RowKit Go.Proofs.Ytgecemngfpgcoaa.Nm

/-- What a hash may be. -/
def HashOk (n : Int) : Prop := 0 ≤ n ∧ n < 1000003
theorem mixed_eq {n k : Int} (h : 0 ≤ n) (hk : 0 ≤ k) : mixed n k = (n * 131 + k + 1) % 1000003 := by
  unfold mixed; rw [Int.tmod_eq_emod_of_nonneg (by omega)]
theorem mixed_ok {n k : Int} (h : HashOk n) (hk : 0 ≤ k) : HashOk (mixed n k) := by
  obtain ⟨h0, h1⟩ := h
  rw [mixed_eq h0 hk]
  unfold HashOk
  omega
def SmallInts (ks : List Int) : Prop := ∀ k ∈ ks, 0 ≤ k ∧ k ≤ 1000
theorem fold_ok {n : Int} (h : HashOk n) (ks : List Int) (hk : SmallInts ks) : HashOk (ks.foldl mixed n) := by
  induction ks generalizing n with
  | nil => exact h
  | cons k r ih => exact ih (mixed_ok h (hk k (by simp)).1) (fun x hx => hk x (by simp [hx]))
theorem foldl_snoc (f : Int → Int → Int) (n : Int) (ks : List Int) (i : Nat) (h : i < ks.length) : (ks.take (i + 1)).foldl f n = f ((ks.take i).foldl f n) ks[i] := by
  rw [List.take_succ_eq_append_getElem h, List.foldl_append]; rfl
theorem take_small {ks : List Int} (hk : SmallInts ks) (i : Nat) : SmallInts (ks.take i) := fun k h => hk k (List.mem_of_mem_take h)
theorem ret_i64 {a b : Int} (h : a = b) : Ending.returned (.int .i64 a) = .returned (.int .i64 b) := by rw [h]

/-- The bytes of a text as numbers. -/
def nums (s : Bs) : List Int := s.map (fun c => (c.toNat : Int))
theorem nums_len (s : Bs) : (nums s).length = s.length := by simp [nums]
theorem nums_get (s : Bs) (i : Nat) (h : i < s.length) : (nums s)[i]'(by rw [nums_len]; exact h) = (s[i].toNat : Int) := by simp [nums]
theorem nums_small (s : Bs) : SmallInts (nums s) := by
  intro k hk
  simp only [nums, List.mem_map] at hk
  obtain ⟨c, _, rfl⟩ := hk
  have := c.toNat_lt
  omega
theorem mixedText_eq (n : Int) (s : Bs) : mixedText n s = mixed ((nums s).foldl mixed n) 0 := by
  unfold mixedText nums; rw [List.foldl_map]
theorem mixedText_ok {n : Int} (h : HashOk n) (s : Bs) : HashOk (mixedText n s) := by
  rw [mixedText_eq]; exact mixed_ok (fold_ok h _ (nums_small s)) (by omega)




/-- The hash after some statements. -/
theorem okStm_small {s : Stm} (h : okStm s = true) : SmallInts [s.kind, s.level, s.value] := by
  have : (s.kind = 0 ∨ s.kind = 1 ∨ s.kind = 2 ∨ s.kind = 3 ∨ s.kind = 4 ∨ s.kind = 5) ∧ (0 ≤ s.level ∧ s.level ≤ 3) ∧ 0 ≤ s.value ∧ s.value ≤ 99 := by
    unfold okStm at h
    split at h
    · rename_i hk; simp [hk] at h ⊢; omega
    split at h
    · rename_i hk; simp [hk, okSrc, inr] at h ⊢; omega
    split at h
    · rename_i hk; simp [hk] at h ⊢; omega
    split at h
    · rename_i hk; simp [hk, inr] at h ⊢; omega
    split at h
    · rename_i hk; simp [hk] at h ⊢; omega
    split at h
    · rename_i hk; simp [hk] at h ⊢; omega
    · cases h
  intro k hk
  simp at hk
  omega
theorem hash3 (n : Int) (s : Stm) : hashStm n s = mixedText (mixedText ([s.kind, s.level, s.value].foldl mixed n) s.module) s.name := rfl
theorem hashStm_ok {n : Int} (h : HashOk n) {s : Stm} (hs : okStm s = true) : HashOk (hashStm n s) := by
  rw [hash3]; exact mixedText_ok (mixedText_ok (fold_ok h _ (okStm_small hs)) _) _
theorem hashes_ok {n : Int} (h : HashOk n) (ss : List Stm) (hs : ss.all okStm = true) : HashOk (ss.foldl hashStm n) := by
  induction ss generalizing n with
  | nil => exact h
  | cons s r ih =>
    simp only [List.all_cons, Bool.and_eq_true] at hs
    exact ih (hashStm_ok h hs.1) hs.2
theorem one_ok : HashOk 1 := ⟨by omega, by omega⟩
theorem okBody_all {ss : List Stm} (h : okBody ss = true) : ss.all okStm = true ∧ ss.length ≤ 8 := by
  simp only [okBody, Bool.and_eq_true, decide_eq_true_eq] at h; exact h
theorem hashes_snoc (n : Int) (ss : List Stm) (i : Nat) (h : i < ss.length) : (ss.take (i + 1)).foldl hashStm n = hashStm ((ss.take i).foldl hashStm n) ss[i] := by
  rw [List.take_succ_eq_append_getElem h, List.foldl_append]; rfl
theorem all_take {ss : List Stm} (h : ss.all okStm = true) (i : Nat) : (ss.take i).all okStm = true := by
  rw [List.all_eq_true] at h ⊢; exact fun s hs => h s (List.mem_of_mem_take hs)
theorem hashOf_range {b : List Stm} (h : okBody b = true) : HashOk (hashOf b) := by
  unfold hashOf; rw [if_pos h]; exact hashes_ok one_ok b (okBody_all h).1

end Go.Proofs.Ytgecemngfpgcoaa
