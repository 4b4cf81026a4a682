/- Plain facts on names, for the laws. Nothing of the program stands here. -/
import Derived.Test.YtolhgklbkjdpiaaGreatPlain
set_option linter.unusedVariables false
set_option linter.unusedSimpArgs false
namespace Go.Proofs.YtolhgklbkjdpiaaGreat.Nm

theorem getLast_vp {l : Bs} (h : vn l = true) : vp (last l) = true := (vps_iff.1 h).2 _ (last_mem l)

theorem child_join {ps : List Bs} (hn : ps ≠ []) (h : vps ps = true) : child (join ps.dropLast) (ps.getLast hn) = join ps := by
  obtain ⟨⟨h1, h3⟩, hv⟩ := vps_iff.1 h
  unfold child
  match ps, h1, h3, hv, hn with
  | [x], _, _, _, _ => simp [join]
  | [x, y], _, _, hv, _ =>
    have := vp_ne (hv x (by simp))
    simp [List.dropLast, join, this]
  | [x, y, z], _, _, hv, _ =>
    have := vp_ne (hv x (by simp))
    simp [List.dropLast, join, this]

theorem child_parent_last (l : Bs) (h : vn l = true) : child (parent l) (last l) = l :=
  (child_join (split_ne l) h).trans (join_split l)

theorem parent_vps {l : Bs} (h : vn l = true) (h0 : parent l ≠ []) : vps (split l).dropLast = true := by
  obtain ⟨⟨h1, h3⟩, hv⟩ := vps_iff.1 (show vps (split l) = true from h)
  refine vps_iff.2 ⟨⟨?_, by simp; omega⟩, fun p hp => hv p (List.dropLast_subset _ hp)⟩
  unfold parent at h0
  generalize (split l).dropLast = ps at *
  cases ps with
  | nil => exact absurd rfl h0
  | cons => simp

theorem parent_vn {l : Bs} (h : vn l = true) (h0 : parent l ≠ []) : vn (parent l) = true := vn_join (parent_vps h h0)

theorem split_append (l r : Bs) : split (l ++ 46 :: r) = split l ++ split r := by
  induction l with
  | nil => rw [List.nil_append, split_cons_dot]; rfl
  | cons c t ih =>
    by_cases hc : c = 46
    · subst hc; rw [List.cons_append, split_cons_dot, split_cons_dot, ih]; rfl
    · obtain ⟨a, b, h1, h2⟩ := split_cons c (t ++ 46 :: r) hc
      obtain ⟨a', b', h1', h2'⟩ := split_cons c t hc
      rw [List.cons_append, h2, h2']
      rw [ih, h1'] at h1
      simp only [List.cons_append] at h1
      obtain ⟨rfl, rfl⟩ := List.cons.inj h1
      rfl

theorem dot_end (l : Bs) : vn (l ++ [46]) = false := by
  have e : split (l ++ [46]) = split l ++ [[]] := split_append l []
  rw [Bool.eq_false_iff]; intro h
  have := (vps_iff.1 (show vps (split (l ++ [46])) = true from h)).2 [] (by rw [e]; simp)
  revert this; decide

theorem vpk_parent {l : Bs} (h : vn l = true) : vpk (parent l) = true := by
  by_cases h0 : parent l = []
  · rw [h0]; rfl
  · have := parent_vn h h0
    unfold vpk; rw [this, Bool.or_true]

theorem name_facts {l : Bs} (h : vn l = true) : (parent l ≠ [] → vn (parent l) = true) ∧ childOf (parent l) (last l) = l ∧ vn (l ++ [46]) = false ∧ vp (last l) = true := by
  refine ⟨parent_vn h, ?_, dot_end l, getLast_vp h⟩
  unfold childOf
  rw [child_parent_last l h, vpk_parent h, getLast_vp h, h]; rfl

/-- The dots of a text are one less than its pieces. -/
theorem dots_split (l : Bs) : (l.filter (· == 46)).length + 1 = (split l).length := by
  induction l with
  | nil => rfl
  | cons c t ih =>
    by_cases hc : c = 46
    · subst hc; rw [split_cons_dot]; simp [ih]
    · obtain ⟨a, b, h1, h2⟩ := split_cons c t hc
      rw [h1] at ih; rw [h2]
      simp [hc]; simpa using ih

theorem parts_parent {l : Bs} (h : vn l = true) : (parts (parent l)).length = (parts l).length - 1 := by
  rw [parts_of h]
  by_cases h0 : parent l = []
  · rw [h0]
    have : (split l).dropLast = [] := by
      obtain ⟨_, hv⟩ := vps_iff.1 (show vps (split l) = true from h)
      unfold parent at h0
      cases hd : (split l).dropLast with
      | nil => rfl
      | cons a as =>
        rw [hd] at h0
        have := vp_ne (hv a (List.dropLast_subset _ (by rw [hd]; simp)))
        simp [join, this] at h0
    have hl : (split l).dropLast.length = (split l).length - 1 := by simp
    rw [this] at hl
    rw [← hl]; decide
  · rw [parts_of (parent_vn h h0)]
    show (split (join (split l).dropLast)).length = _
    rw [split_of_vps (parent_vps h h0)]; simp

theorem under_parent {l : Bs} (h : vn l = true) : isUnder l (parent l) = true := by
  unfold isUnder
  rw [h, vpk_parent h]
  unfold under
  by_cases h0 : parent l = []
  · rw [h0]; rfl
  · have e := child_parent_last l h
    unfold child at e
    rw [if_neg h0] at e
    have : pre (parent l ++ [46]) l = true := by
      have e2 : l = (parent l ++ [46]) ++ last l := by rw [List.append_assoc]; exact e.symm
      unfold pre
      have hl : (parent l ++ [46]).length ≤ l.length := by
        have := congrArg List.length e2
        simp only [List.length_append] at this ⊢
        omega
      rw [decide_eq_true hl, Bool.true_and, beq_iff_eq]
      have h3 := congrArg (List.take (parent l ++ [46]).length) e2
      rw [h3, List.take_left']
      rfl
    rw [this]; simp

theorem parent_childOf {p s : Bs} (h : childOf p s ≠ []) : parentOf (childOf p s) = p ∧ lastOf (childOf p s) = s ∧ vn (childOf p s) = true := by
  unfold childOf at h ⊢
  by_cases hc : (vpk p && vp s && vn (child p s)) = true
  · rw [if_pos hc]
    simp only [Bool.and_eq_true] at hc
    obtain ⟨⟨hp, hs⟩, hn⟩ := hc
    have key : (split (child p s)).dropLast = (if p = [] then [] else split p) ∧ last (child p s) = s := by
      unfold child last
      by_cases h0 : p = []
      · subst h0
        simp only [if_true]
        have e : split s = [s] := split_nodot (vp_nodot hs)
        constructor
        · rw [e]; rfl
        · simp [e]
      · simp only [h0, if_false]
        have e : split (p ++ 46 :: s) = split p ++ [s] := by rw [split_append, split_nodot (vp_nodot hs)]
        constructor
        · rw [e]; simp
        · simp [e]
    refine ⟨?_, ?_, hn⟩
    · unfold parentOf parent
      rw [hn, key.1]
      by_cases h0 : p = []
      · subst h0; rfl
      · simp only [h0, if_false, if_true]; exact join_split p
    · unfold lastOf; rw [hn]; simpa using key.2
  · rw [if_neg hc] at h; exact absurd rfl h

theorem dots_step (l : Bs) (k : Nat) (h : k < l.length) : ((l.take (k + 1)).filter (· == 46)).length = ((l.take k).filter (· == 46)).length + (if l[k] = 46 then 1 else 0) := by
  rw [List.take_succ_eq_append_getElem h, List.filter_append, List.length_append]
  congr 1
  by_cases hc : l[k] = 46
  · rw [if_pos hc, hc]; rfl
  · rw [if_neg hc, List.filter_cons_of_neg (by simpa using hc)]; rfl

theorem dots_yes (l : Bs) (k : Nat) (h : k < l.length) (hc : l[k] = 46) : ((l.take (k + 1)).filter (· == 46)).length = ((l.take k).filter (· == 46)).length + 1 := by
  rw [dots_step l k h, if_pos hc]
theorem dots_no (l : Bs) (k : Nat) (h : k < l.length) (hc : ¬ l[k] = 46) : ((l.take (k + 1)).filter (· == 46)).length = ((l.take k).filter (· == 46)).length := by
  rw [dots_step l k h, if_neg hc]; rfl

theorem join_len_le (xs : List Bs) (m : Nat) (h : ∀ p ∈ xs, p.length ≤ m) : (join xs).length ≤ xs.length * (m + 1) := by
  cases xs with
  | nil => simp [join]
  | cons a as =>
    have ha := h a (by simp)
    have : ∀ ys : List Bs, (∀ p ∈ ys, p.length ≤ m) → (ys.flatMap (fun q => (46 : UInt8) :: q)).length ≤ ys.length * (m + 1) := by
      intro ys hy
      induction ys with
      | nil => simp
      | cons b bs ih =>
        have h1 := hy b (by simp)
        have h2 := ih (fun p hp => hy p (by simp [hp]))
        simp only [List.flatMap_cons, List.length_append, List.length_cons]
        have h4 : (bs.length + 1) * (m + 1) = bs.length * (m + 1) + (m + 1) := Nat.succ_mul _ _
        omega
    have h2 := this as (fun p hp => h p (by simp [hp]))
    simp only [join, List.length_append, List.length_cons]
    have h4 : (as.length + 1) * (m + 1) = as.length * (m + 1) + (m + 1) := Nat.succ_mul _ _
    omega

theorem joinParts_len (xs : List Bs) : (joinParts xs).length ≤ 11 := by
  unfold joinParts; split
  · rename_i h; exact join_len h
  · simp

end Go.Proofs.YtolhgklbkjdpiaaGreat.Nm
