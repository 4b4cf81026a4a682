/- Plain facts on what is under what, on common packages, and on relative names, for the laws. Nothing of the program stands here. -/
import Derived.Test.YtolhgklbkjdpiaaGreatPlain3
set_option linter.unusedVariables false
set_option linter.unusedSimpArgs false
namespace Go.Proofs.YtolhgklbkjdpiaaGreat.Nm

theorem join_append {ps ts : List Bs} (h1 : ps ≠ []) (h2 : ts ≠ []) : join (ps ++ ts) = join ps ++ 46 :: join ts := by
  cases ps with
  | nil => exact absurd rfl h1
  | cons p ps => cases ts with
    | nil => exact absurd rfl h2
    | cons t ts => simp [join]

theorem split_inj {a b : Bs} (h : split a = split b) : a = b := by rw [← join_split a, h, join_split]

theorem under_iff {s n : Bs} (hs : vn s = true) (hn : vn n = true) : under s n = true ↔ split n <+: split s := by
  have hn0 := vn_ne hn
  constructor
  · intro h
    rcases under_shape h hn0 with rfl | ⟨r, rfl⟩
    · exact List.prefix_rfl
    · rw [split_append]; exact List.prefix_append _ _
  · rintro ⟨t, ht⟩
    by_cases h0 : t = []
    · subst h0
      rw [List.append_nil] at ht
      rw [split_inj ht]; exact under_self
    · have e : s = n ++ 46 :: join t := by
        rw [← join_split s, ← ht, join_append (split_ne n) h0, join_split]
      unfold under pre
      have h1 : (n ++ [46]).length ≤ s.length := by rw [e]; simp
      have h2 : s.take (n ++ [46]).length = n ++ [46] := by
        rw [e, show n ++ 46 :: join t = (n ++ [46]) ++ join t by simp, List.take_left']
        rfl
      rw [decide_eq_true h1, h2]; simp

theorem above_len (l : Bs) : (above l).length = (split l).length := by simp [above]
theorem above_get (l : Bs) (i : Nat) (h : i < (above l).length) : (above l)[i] = join ((split l).take (i + 1)) := by simp [above]

theorem take_vps {l : Bs} (h : vn l = true) (k : Nat) (h1 : 1 ≤ k) : vps ((split l).take k) = true := by
  obtain ⟨⟨h2, h3⟩, hv⟩ := vps_iff.1 (show vps (split l) = true from h)
  exact vps_iff.2 ⟨⟨by simp; omega, by simp; omega⟩, fun p hp => hv p (List.mem_of_mem_take hp)⟩

theorem split_above {l : Bs} (h : vn l = true) (i : Nat) (hi : i < (above l).length) : split (above l)[i] = (split l).take (i + 1) := by
  rw [above_get]; exact split_of_vps (take_vps h (i + 1) (by omega))

theorem mem_above {s n : Bs} (hs : vn s = true) (hn : vn n = true) : n ∈ above s ↔ under s n = true := by
  rw [under_iff hs hn]
  constructor
  · intro h
    obtain ⟨i, hi, rfl⟩ := List.getElem_of_mem h
    rw [split_above hs]; exact List.take_prefix _ _
  · intro h
    have hp := split_pos n
    have hl := h.length_le
    have e : split n = (split s).take (split n).length := (List.prefix_iff_eq_take.1 h)
    have hi : (split n).length - 1 < (above s).length := by rw [above_len]; omega
    have : n = (above s)[(split n).length - 1] := by
      apply split_inj
      rw [split_above hs, show (split n).length - 1 + 1 = (split n).length by omega]; exact e
    rw [this]; exact List.getElem_mem hi

theorem under_antisymm {s p : Bs} (hs : vn s = true) (hp : vn p = true) (h1 : under s p = true) (h2 : under p s = true) : s = p := by
  have a := (under_iff hs hp).1 h1
  have b := (under_iff hp hs).1 h2
  exact split_inj (b.eq_of_length (Nat.le_antisymm b.length_le a.length_le))

/-! ### The names above a name -/
theorem above_parent {l : Bs} (h : vn l = true) (i : Nat) (hi : i < (above l).length) (h0 : 0 < i) : parentOf (above l)[i] = (above l)[i - 1] := by
  have hvn : vn (above l)[i] = true := above_vn h _ (List.getElem_mem hi)
  have hl := above_len l
  rw [parentOf_of hvn]
  unfold parent
  rw [split_above h, above_get, show i - 1 + 1 = i by omega]
  congr 1
  rw [List.dropLast_eq_take, List.length_take, List.take_take]
  congr 1
  omega

theorem above_parent0 {l : Bs} (h : vn l = true) (hi : 0 < (above l).length) : parentOf (above l)[0] = [] := by
  have hvn : vn (above l)[0] = true := above_vn h _ (List.getElem_mem hi)
  rw [parentOf_of hvn]
  unfold parent
  rw [split_above h]
  have hl := above_len l
  have : ((split l).take (0 + 1)).dropLast = [] := by
    apply List.eq_nil_of_length_eq_zero; simp; omega
  rw [this]; rfl

theorem above_last (l : Bs) (h : (above l).length - 1 < (above l).length) : (above l)[(above l).length - 1] = l := by
  rw [above_get, show (above l).length - 1 + 1 = (above l).length by omega, above_len, List.take_length, join_split]

theorem above_under {l : Bs} (h : vn l = true) (i : Nat) (hi : i < (above l).length) : isUnder l (above l)[i] = true := by
  have hvn : vn (above l)[i] = true := above_vn h _ (List.getElem_mem hi)
  rw [isUnder_of h hvn]
  exact (mem_above h hvn).1 (List.getElem_mem hi)

/-! ### Common packages -/
def lcp : List Bs → List Bs → Nat
  | x :: xs, y :: ys => if x = y then lcp xs ys + 1 else 0
  | _, _ => 0

theorem lcp_comm (xs ys : List Bs) : lcp xs ys = lcp ys xs := by
  induction xs generalizing ys with
  | nil => cases ys <;> rfl
  | cons x xs ih =>
    cases ys with
    | nil => rfl
    | cons y ys =>
      unfold lcp
      by_cases h : x = y
      · rw [if_pos h, if_pos h.symm, ih]
      · rw [if_neg h, if_neg (fun e => h e.symm)]

theorem lcp_le (xs ys : List Bs) : lcp xs ys ≤ xs.length := by
  induction xs generalizing ys with
  | nil => simp [lcp]
  | cons x xs ih =>
    cases ys with
    | nil => simp [lcp]
    | cons y ys => unfold lcp; split
                   · have := ih ys; simp; omega
                   · simp

theorem lcp_take (xs ys : List Bs) : xs.take (lcp xs ys) = ys.take (lcp xs ys) := by
  induction xs generalizing ys with
  | nil => simp [lcp]
  | cons x xs ih =>
    cases ys with
    | nil => simp [lcp]
    | cons y ys =>
      unfold lcp
      by_cases h : x = y
      · rw [if_pos h, h]; simp [ih ys]
      · rw [if_neg h]; simp

theorem lcp_iff (xs ys : List Bs) (k : Nat) (hk : k ≤ xs.length) : xs.take k <+: ys ↔ k ≤ lcp xs ys := by
  induction xs generalizing ys k with
  | nil => simp at hk; subst hk; simp
  | cons x xs ih =>
    cases k with
    | zero => simp
    | succ k =>
      cases ys with
      | nil => simp [lcp]
      | cons y ys =>
        rw [List.take_succ_cons, List.cons_prefix_cons]
        unfold lcp
        by_cases h : x = y
        · rw [if_pos h, ih ys k (by simpa using hk)]
          constructor
          · intro h'; omega
          · intro h'; exact ⟨h, by omega⟩
        · rw [if_neg h]
          constructor
          · intro h'; exact absurd h'.1 h
          · intro h'; omega

theorem common_eq {a b : Bs} (ha : vn a = true) (hb : vn b = true) : common a b = join ((split a).take (lcp (split a) (split b))) := by
  have hna : namesAbove a = above a := by simp [namesAbove, ha]
  have hl := above_len a
  have hle := lcp_le (split a) (split b)
  have key : ∀ j (hj : j < (above a).length), isUnder b (above a)[j] = decide (j + 1 ≤ lcp (split a) (split b)) := by
    intro j hj
    have hvn : vn (above a)[j] = true := above_vn ha _ (List.getElem_mem hj)
    rw [isUnder_of hb hvn, Bool.eq_iff_iff, under_iff hb hvn, split_above ha, decide_eq_true_iff]
    exact lcp_iff _ _ _ (by omega)
  unfold common
  rw [hna]
  by_cases h0 : lcp (split a) (split b) = 0
  · rw [h0, lastWith_none _ _ (fun j hj => by rw [key j hj, h0]; rfl)]
    rfl
  · have hi : lcp (split a) (split b) - 1 < (above a).length := by omega
    rw [lastWith_at (fun n => isUnder b n) (above a) (lcp (split a) (split b) - 1) hi (by rw [key _ hi]; simp; omega) (fun j hj h => by rw [key j hj]; simp; omega)]
    rw [above_get, show lcp (split a) (split b) - 1 + 1 = lcp (split a) (split b) by omega]

theorem common_comm {a b : Bs} (ha : vn a = true) (hb : vn b = true) : common a b = common b a := by
  rw [common_eq ha hb, common_eq hb ha, lcp_comm (split b) (split a), lcp_take]

theorem lastWith_len (f : Bs → Bool) (xs : List Bs) (m : Nat) (h : ∀ n ∈ xs, n.length ≤ m) : (lastWith f xs).length ≤ m := by
  unfold lastWith
  have : ∀ c : Bs, c.length ≤ m → (xs.foldl (fun c n => if f n then n else c) c).length ≤ m := by
    induction xs with
    | nil => intro c hc; exact hc
    | cons x xs ih =>
      intro c hc
      simp only [List.foldl_cons]
      apply ih (fun n hn => h n (by simp [hn]))
      split
      · exact h x (by simp)
      · exact hc
  exact this [] (by simp)

theorem common_len (a b : Bs) : (common a b).length ≤ 11 := lastWith_len _ _ 11 (fun n hn => vn_len (namesAbove_vn hn))

theorem common_under_left {a b : Bs} (ha : vn a = true) (hb : vn b = true) : isUnder a (common a b) = true := by
  rw [common_eq ha hb]
  by_cases h0 : lcp (split a) (split b) = 0
  · rw [h0]; unfold isUnder; rw [ha]; rfl
  · have hv := take_vps ha (lcp (split a) (split b)) (by omega)
    have hvn := vn_join hv
    rw [isUnder_of ha hvn, under_iff ha hvn, split_of_vps hv]
    exact List.take_prefix _ _

theorem common_under_right {a b : Bs} (ha : vn a = true) (hb : vn b = true) : isUnder b (common a b) = true := by
  rw [common_comm ha hb]; exact common_under_left hb ha

theorem common_longest {a b : Bs} (ha : vn a = true) {k : Nat} (h : k < (namesAbove a).length) (hu : isUnder b (namesAbove a)[k] = true) : (namesAbove a)[k].length ≤ (common a b).length := by
  have hb : vn b = true := by
    unfold isUnder at hu; rw [Bool.and_eq_true, Bool.and_eq_true] at hu; exact hu.1.1
  have hna : namesAbove a = above a := by simp [namesAbove, ha]
  simp only [hna] at h hu ⊢
  have hvn : vn (above a)[k] = true := above_vn ha _ (List.getElem_mem h)
  rw [isUnder_of hb hvn, under_iff hb hvn, split_above ha] at hu
  have hl := above_len a
  have hk := (lcp_iff _ _ _ (by omega)).1 hu
  rw [common_eq ha hb, above_get]
  have e : (split a).take (k + 1) = ((split a).take (lcp (split a) (split b))).take (k + 1) := by
    rw [List.take_take]; congr 1; omega
  rw [e]
  exact join_take_le _ _

theorem namesAbove_len (l : Bs) : (namesAbove l).length ≤ l.length + 1 := by
  cases h : vn l
  · simp [namesAbove, h]
  · have : namesAbove l = above l := by simp [namesAbove, h]
    rw [this, above_len]; exact split_count l

/-! ### Relative names -/
theorem vn_of_vpk {p : Bs} (h : vpk p = true) (h0 : p ≠ []) : vn p = true := by
  rcases vpk_iff.1 h with h | h
  · exact absurd h h0
  · exact h

theorem resolved_valid {p s : Bs} {lv : Int} (h : resolved p lv s ≠ []) : vpk p = true ∧ vpk s = true ∧ 0 ≤ lv ∧ lv ≤ 4 := by
  unfold resolved at h
  by_cases hc : (vpk p && vpk s && decide (0 ≤ lv) && decide (lv ≤ 4)) = true
  · simp only [Bool.and_eq_true, decide_eq_true_eq] at hc
    exact ⟨hc.1.1.1, hc.1.1.2, hc.1.2, hc.2⟩
  · rw [if_neg hc] at h; exact absurd rfl h

theorem resolved_zero {p s : Bs} (h : resolved p 0 s ≠ []) : resolved p 0 s = s := by
  obtain ⟨h1, h2, _, _⟩ := resolved_valid h
  unfold resolved; rw [h1, h2]; rfl

theorem resolved_pos {p s : Bs} {N : Nat} (h1 : vpk p = true) (h2 : vpk s = true) (hN : N ≤ 3) :
    resolved p ((N : Int) + 1) s = if upN p N = [] then [] else nameOr (jn [upN p N, s]) := by
  have e : ((N : Int) + 1 - 1).toNat = N := by omega
  unfold resolved
  rw [h1, h2, decide_eq_true (by omega : (0 : Int) ≤ (N : Int) + 1), decide_eq_true (by omega : (N : Int) + 1 ≤ 4), e]
  simp only [Bool.and_self, if_true]
  rw [if_neg (by omega)]

theorem nameOr_vn {l : Bs} (h : nameOr l ≠ []) : vn l = true ∧ nameOr l = l := by
  cases hv : vn l
  · exact absurd (nameOr_no hv) h
  · exact ⟨rfl, nameOr_yes hv⟩

/-- What a name that was resolved by at least one dot looks like. -/
theorem resolved_facts {p s : Bs} {N : Nat} (hN : N ≤ 3) (h : resolved p ((N : Int) + 1) s ≠ []) :
    vn (resolved p ((N : Int) + 1) s) = true ∧ resolved p 1 [] = p ∧ (∀ M, N = M + 1 → resolved (parentOf p) ((M : Int) + 1) s = resolved p ((N : Int) + 1) s) ∧
    (s ≠ [] → ∃ b, resolved p ((N : Int) + 1) s = b ++ s) := by
  obtain ⟨h1, h2, _, _⟩ := resolved_valid h
  have e := resolved_pos h1 h2 hN
  by_cases hu : upN p N = []
  · rw [e, if_pos hu] at h; exact absurd rfl h
  · rw [if_neg hu] at e
    rw [e] at h
    obtain ⟨hv, hj⟩ := nameOr_vn h
    have hp0 : p ≠ [] := by rintro rfl; exact hu (upN_nil N)
    refine ⟨by rw [e, hj]; exact hv, ?_, ?_, ?_⟩
    · have := resolved_pos (N := 0) h1 (by decide : vpk [] = true) (by omega)
      simp only [upN, if_neg hp0, jn_nil_right] at this
      rw [show ((0 : Nat) : Int) + 1 = 1 by omega] at this
      rw [this]; exact nameOr_yes (vn_of_vpk h1 hp0)
    · rintro M rfl
      rw [resolved_pos (vpk_parentOf h1) h2 (by omega), e]
      show (if upN p (M + 1) = [] then [] else nameOr (jn [upN p (M + 1), s])) = _
      rw [if_neg hu]
    · intro hs
      rw [e, hj, child_jn hs]
      unfold child
      rw [if_neg hu]
      exact ⟨upN p N ++ [46], by simp⟩

/-- RelativeName leads back, by the least level. -/
theorem relGo_facts (s : Bs) (hs : vn s = true) : ∀ (f : Nat) (p : Bs) (lv : Int), vpk p = true → 1 ≤ lv → (relGo s f p lv).1 ≠ 0 →
    ∃ k : Nat, k < f ∧ (relGo s f p lv).1 = lv + k ∧ upN p k ≠ [] ∧ under s (upN p k) = true ∧ (relGo s f p lv).2 = s.drop ((upN p k).length + 1) ∧ ∀ j, j < k → isUnder s (upN p j) = false := by
  intro f
  induction f with
  | zero => intro p lv _ _ h; exact absurd rfl h
  | succ f ih =>
    intro p lv hp hlv h
    by_cases h0 : p = []
    · subst h0; rw [relGo_nil] at h; exact absurd rfl h
    · cases hu : under s p
      · rw [relGo_no h0 hu] at h ⊢
        obtain ⟨k, hk, e1, e2, e3, e4, e5⟩ := ih (parentOf p) (lv + 1) (vpk_parentOf hp) (by omega) h
        refine ⟨k + 1, by omega, by rw [e1]; omega, e2, e3, e4, fun j hj => ?_⟩
        cases j with
        | zero => show isUnder s p = false
                  rw [isUnder_of hs (vn_of_vpk hp h0)]; exact hu
        | succ j => exact e5 j (by omega)
      · rw [relGo_yes h0 hu]
        exact ⟨0, by omega, by simp, h0, hu, rfl, fun j hj => absurd hj (by omega)⟩

theorem relName_facts {p s : Bs} (h : (relName p s).1 ≠ 0) : vpk p = true ∧ vn s = true ∧
    ∃ k : Nat, k ≤ 3 ∧ (relName p s).1 = (k : Int) + 1 ∧ (∀ j, j < k → isUnder s (upN p j) = false) ∧ resolved p ((k : Int) + 1) (relName p s).2 = s ∧ (relName p s).2.length ≤ s.length := by
  unfold relName at h ⊢
  by_cases hc : (vpk p && vn s) = true
  · rw [if_pos hc] at h ⊢
    rw [Bool.and_eq_true] at hc
    obtain ⟨hp, hs⟩ := hc
    obtain ⟨k, hk, e1, e2, e3, e4, e5⟩ := relGo_facts s hs 4 p 1 hp (by omega) h
    refine ⟨hp, hs, k, by omega, by rw [e1]; omega, e5, ?_, by rw [e4]; simp⟩
    rw [e4]
    have hun := vn_of_vpk (vpk_upN hp k) e2
    rcases under_shape e3 e2 with e | ⟨r, e⟩
    · have hd : s.drop ((upN p k).length + 1) = [] := List.drop_eq_nil_of_le (by rw [← e]; omega)
      rw [hd, resolved_pos hp (by decide) (by omega), if_neg e2, jn_nil_right, nameOr_yes hun]
      exact e.symm
    · have hd : s.drop ((upN p k).length + 1) = r := by
        have h1 : s.drop (upN p k).length = 46 :: r := by
          have := congrArg (List.drop (upN p k).length) e
          rw [this]; simp
        rw [← List.drop_drop, h1]; rfl
      have hsp : split s = split (upN p k) ++ split r := by
        have := congrArg split e
        rw [this]; exact split_append _ _
      have hsv := vps_iff.1 (show vps (split s) = true from hs)
      have hr : vn r = true := by
        refine vps_iff.2 ⟨⟨split_pos r, ?_⟩, fun q hq => hsv.2 q (by rw [hsp]; simp [hq])⟩
        have := hsv.1.2
        rw [hsp, List.length_append] at this
        omega
      rw [hd, resolved_pos hp (vpk_iff.2 (.inr hr)) (by omega), if_neg e2, child_jn (vn_ne hr)]
      have hc : child (upN p k) r = s := by
        unfold child; rw [if_neg e2]; exact e.symm
      rw [hc]; exact nameOr_yes hs
  · rw [if_neg hc] at h; exact absurd rfl h

theorem resolved_len (p s : Bs) (lv : Int) : (resolved p lv s).length ≤ 11 := by
  by_cases h : resolved p lv s = []
  · rw [h]; decide
  · obtain ⟨h1, h2, h3, h4⟩ := resolved_valid h
    by_cases h0 : lv = 0
    · subst h0; rw [resolved_zero h]; exact vpk_len h2
    · obtain ⟨N, hN, hN3⟩ : ∃ N : Nat, lv = (N : Int) + 1 ∧ N ≤ 3 := ⟨(lv - 1).toNat, by omega, by omega⟩
      subst hN
      exact vn_len (resolved_facts hN3 h).1

end Go.Proofs.YtolhgklbkjdpiaaGreat.Nm
