/- Plain facts on relative names and common packages. Nothing of the program stands here. -/
import Derived.Test.YtolhgklbkjdpiaaGreatPlain2
set_option linter.unusedVariables false
set_option linter.unusedSimpArgs false
namespace Go.Proofs.YtolhgklbkjdpiaaGreat.Nm

/-- The package k packages above p. -/
def upN : Bs → Nat → Bs
  | p, 0 => p
  | p, k + 1 => upN (parentOf p) k

theorem upN_snoc (p : Bs) (k : Nat) : upN p (k + 1) = parentOf (upN p k) := by
  induction k generalizing p with
  | zero => rfl
  | succ k ih => rw [upN, ih]; rfl

theorem parentOf_nil : parentOf [] = [] := by decide
theorem upN_nil (k : Nat) : upN [] k = [] := by
  induction k with
  | zero => rfl
  | succ k ih => rw [upN, parentOf_nil, ih]

theorem vpk_iff {p : Bs} : vpk p = true ↔ p = [] ∨ vn p = true := by
  unfold vpk; rw [Bool.or_eq_true, List.isEmpty_iff]

theorem vpk_parentOf {p : Bs} (h : vpk p = true) : vpk (parentOf p) = true := by
  rcases vpk_iff.1 h with rfl | h
  · decide
  · have : parentOf p = parent p := by simp [parentOf, h]
    rw [this]; exact vpk_parent h

theorem vpk_upN {p : Bs} (h : vpk p = true) (k : Nat) : vpk (upN p k) = true := by
  induction k generalizing p with
  | zero => exact h
  | succ k ih => exact ih (vpk_parentOf h)

theorem parentOf_of {p : Bs} (h : vn p = true) : parentOf p = parent p := by simp [parentOf, h]

/-- The name that a relative one means. -/
def resolved (p : Bs) (lv : Int) (s : Bs) : Bs :=
  if vpk p && vpk s && decide (0 ≤ lv) && decide (lv ≤ 4) then
    (if lv = 0 then s else if upN p (lv - 1).toNat = [] then [] else nameOr (jn [upN p (lv - 1).toNat, s]))
  else []

theorem jn_nil_right (b : Bs) : jn [b, []] = b := by simp [jn, jstep]

/-- How a name is told in a package: the level and the rest. -/
def relGo (s : Bs) : Nat → Bs → Int → Int × Bs
  | 0, _, _ => (0, [])
  | f + 1, p, lv => if p = [] then (0, []) else if under s p then (lv, s.drop (p.length + 1)) else relGo s f (parentOf p) (lv + 1)
def relName (p s : Bs) : Int × Bs := if vpk p && vn s then relGo s 4 p 1 else (0, [])

/-- What a package has to do with its fuel. -/
def fits (p : Bs) (f : Nat) : Prop := p = [] ∨ (vn p = true ∧ (split p).length ≤ f)
theorem fits_start {p : Bs} (h : vpk p = true) : fits p 3 := by
  rcases vpk_iff.1 h with rfl | h
  · exact .inl rfl
  · exact .inr ⟨h, (vps_iff.1 (show vps (split p) = true from h)).1.2⟩
theorem fits_step {p : Bs} {f : Nat} (h : fits p (f + 1)) (h0 : p ≠ []) : fits (parentOf p) f := by
  rcases h with h | ⟨h, hl⟩
  · exact absurd h h0
  · rw [parentOf_of h]
    by_cases hp : parent p = []
    · exact .inl hp
    · refine .inr ⟨parent_vn h hp, ?_⟩
      have : split (parent p) = (split p).dropLast := split_of_vps (parent_vps h hp)
      rw [this]; simp; omega
theorem fits_zero {p : Bs} (h : fits p 0) : p = [] := by
  rcases h with h | ⟨h, hl⟩
  · exact h
  · have := split_pos p; omega
theorem fits_vpk {p : Bs} {f : Nat} (h : fits p f) : vpk p = true := by
  rcases h with rfl | ⟨h, _⟩
  · rfl
  · exact vpk_iff.2 (.inr h)

theorem under_shape {s p : Bs} (h : under s p = true) (h0 : p ≠ []) : s = p ∨ ∃ r, s = p ++ 46 :: r := by
  unfold under at h
  rw [Bool.or_eq_true, Bool.or_eq_true] at h
  rcases h with (h | h) | h
  · rw [List.isEmpty_iff] at h; exact absurd h h0
  · exact .inl (by simpa using h)
  · right
    unfold pre at h
    rw [Bool.and_eq_true, decide_eq_true_eq, beq_iff_eq] at h
    refine ⟨s.drop (p ++ [46]).length, ?_⟩
    have := List.take_append_drop (p ++ [46]).length s
    rw [h.2] at this
    rw [← this]; simp

theorem trim_eq {s p : Bs} (h : under s p = true) (h0 : p ≠ []) : (if pre [46] (s.drop p.length) then (s.drop p.length).drop 1 else s.drop p.length) = s.drop (p.length + 1) := by
  rcases under_shape h h0 with rfl | ⟨r, rfl⟩
  · simp [pre]
  · have e : (p ++ 46 :: r).drop p.length = 46 :: r := by simp
    rw [e]
    have : pre [46] (46 :: r) = true := by simp [pre]
    rw [if_pos this]
    rw [← List.drop_drop, e]

/-- The last of the texts for which f holds, nothing if there is none. -/
def lastWith (f : Bs → Bool) (xs : List Bs) : Bs := xs.foldl (fun c n => if f n then n else c) []

theorem lastWith_snoc (f : Bs → Bool) (xs : List Bs) (k : Nat) (h : k < xs.length) : lastWith f (xs.take (k + 1)) = if f xs[k] then xs[k] else lastWith f (xs.take k) := by
  unfold lastWith
  rw [List.take_succ_eq_append_getElem h, List.foldl_append]; rfl

theorem lastWith_at (f : Bs → Bool) (xs : List Bs) (k : Nat) (h : k < xs.length) (hf : f xs[k] = true) (hn : ∀ j (hj : j < xs.length), k < j → f xs[j] = false) : lastWith f xs = xs[k] := by
  have : ∀ m, k < m → m ≤ xs.length → lastWith f (xs.take m) = xs[k] := by
    intro m
    induction m with
    | zero => intro h1; omega
    | succ m ih =>
      intro h1 h2
      rw [lastWith_snoc f xs m (by omega)]
      by_cases hm : m = k
      · subst hm; rw [if_pos hf]
      · rw [hn m (by omega) (by omega)]; exact ih (by omega) (by omega)
  have := this xs.length h (Nat.le_refl _)
  rwa [List.take_length] at this

theorem lastWith_none (f : Bs → Bool) (xs : List Bs) (hn : ∀ j (hj : j < xs.length), f xs[j] = false) : lastWith f xs = [] := by
  have : ∀ m, m ≤ xs.length → lastWith f (xs.take m) = [] := by
    intro m
    induction m with
    | zero => intro _; rfl
    | succ m ih => intro h2; rw [lastWith_snoc f xs m (by omega), hn m (by omega)]; exact ih (by omega)
  have := this xs.length (Nat.le_refl _)
  rwa [List.take_length] at this

def common (a b : Bs) : Bs := lastWith (fun n => isUnder b n) (namesAbove a)

theorem above_vn {l : Bs} (h : vn l = true) : ∀ n ∈ above l, vn n = true := by
  intro n hn
  unfold above at hn
  rw [List.mem_map] at hn
  obtain ⟨i, hi, rfl⟩ := hn
  rw [List.mem_range] at hi
  obtain ⟨⟨h1, h3⟩, hv⟩ := vps_iff.1 (show vps (split l) = true from h)
  exact vn_join (vps_iff.2 ⟨⟨by simp; omega, by simp; omega⟩, fun p hp => hv p (List.mem_of_mem_take hp)⟩)

theorem namesAbove_vn {l n : Bs} (hn : n ∈ namesAbove l) : vn n = true := by
  unfold namesAbove at hn
  split at hn
  · rename_i h; exact above_vn h n hn
  · simp at hn

theorem isUnder_of {s p : Bs} (hs : vn s = true) (hp : vn p = true) : isUnder s p = under s p := by
  unfold isUnder; rw [hs, vpk_iff.2 (.inr hp)]; rfl

theorem relGo_nil (s : Bs) (f : Nat) (lv : Int) : relGo s (f + 1) [] lv = (0, []) := by simp [relGo]
theorem relGo_yes {s p : Bs} (h0 : p ≠ []) (hu : under s p = true) (f : Nat) (lv : Int) : relGo s (f + 1) p lv = (lv, s.drop (p.length + 1)) := by simp [relGo, h0, hu]
theorem relGo_no {s p : Bs} (h0 : p ≠ []) (hu : under s p = false) (f : Nat) (lv : Int) : relGo s (f + 1) p lv = relGo s f (parentOf p) (lv + 1) := by simp [relGo, h0, hu]
theorem fits_pos {p : Bs} {f : Nat} (h : fits p f) (h0 : p ≠ []) : ∃ g, f = g + 1 := by
  cases f with
  | zero => exact absurd (fits_zero h) h0
  | succ g => exact ⟨g, rfl⟩
theorem fits_len {p : Bs} {f : Nat} (h : fits p f) : p.length ≤ 11 := vpk_len (fits_vpk h)
theorem under_len {s p : Bs} (h : under s p = true) (h0 : p ≠ []) : p.length ≤ s.length := by
  rcases under_shape h h0 with rfl | ⟨r, rfl⟩
  · exact Nat.le_refl _
  · simp
theorem isUnder_fits {s p : Bs} {f : Nat} (hs : vn s = true) (h : fits p f) : isUnder s p = under s p := by
  unfold isUnder; rw [hs, fits_vpk h]; rfl
theorem fits_vn {p : Bs} {f : Nat} (h : fits p f) (h0 : p ≠ []) : vn p = true := by
  rcases h with h | h
  · exact absurd h h0
  · exact h.1
theorem under_self {p : Bs} : under p p = true := by unfold under; simp
theorem under_ne {s p : Bs} (h : under s p = true) (h0 : p ≠ []) (hne : s ≠ p) : p.length + 1 ≤ s.length := by
  rcases under_shape h h0 with rfl | ⟨r, rfl⟩
  · exact absurd rfl hne
  · simp

end Go.Proofs.YtolhgklbkjdpiaaGreat.Nm
