/- Plain facts of ascending lists: a sorted and compacted list is the one that is made by putting in each text at its place. -/
import Derived.Test.YtolhgklbkjdpiaaGreatPlainT
import Derived.Lib.RowBridge
set_option linter.unusedVariables false
set_option linter.unusedSimpArgs false
namespace Go.Proofs.YtolhgklbkjdpiaaGreat.Nm

theorem ltB_iff : ∀ (a b : Bs), ltB a b = true ↔ a < b
  | [], [] => by simp [ltB]
  | _ :: _, [] => by simp [ltB]
  | [], _ :: _ => by simp [ltB]
  | a :: s, b :: t => by
    rw [List.cons_lt_cons_iff, ltB]
    by_cases h : a = b
    · subst h
      rw [if_pos rfl, ltB_iff s t]
      constructor
      · exact fun h => .inr ⟨rfl, h⟩
      · rintro (h | ⟨_, h⟩)
        · exact absurd h (UInt8.lt_irrefl a)
        · exact h
    · rw [if_neg h]
      simp [h, UInt8.lt_iff_toNat_lt]
theorem leB_iff (a b : Bs) : decide (a ≤ b) = !ltB b a := by
  by_cases h : b < a
  · rw [(ltB_iff b a).2 h]
    exact decide_eq_false (fun h' => List.not_lt.2 h' h)
  · have : ltB b a = false := by cases hb : ltB b a with | false => rfl | true => exact absurd ((ltB_iff b a).1 hb) h
    rw [this]
    exact decide_eq_true (List.not_lt.1 h)

theorem ltB_irr : ∀ (a : Bs), ltB a a = false
  | [] => rfl
  | a :: s => by rw [ltB, if_pos rfl, ltB_irr s]
theorem ltB_tr : ∀ {a b c : Bs}, ltB a b = true → ltB b c = true → ltB a c = true
  | _, _, [], _, h => by cases h' : ‹Bs› <;> simp_all [ltB]
  | _, [], _ :: _, h, _ => by cases h' : ‹Bs› <;> simp_all [ltB]
  | [], _ :: _, _ :: _, _, _ => rfl
  | a :: s, b :: t, c :: u, h1, h2 => by
    rw [ltB] at h1 h2 ⊢
    by_cases e1 : a = b
    · subst e1
      rw [if_pos rfl] at h1
      by_cases e2 : a = c
      · subst e2; rw [if_pos rfl] at h2 ⊢; exact ltB_tr h1 h2
      · rw [if_neg e2] at h2 ⊢; exact h2
    · rw [if_neg e1] at h1
      by_cases e2 : b = c
      · subst e2; rw [if_neg e1]; exact h1
      · rw [if_neg e2] at h2
        simp only [decide_eq_true_eq] at h1 h2
        rw [if_neg (fun e => by subst e; omega)]
        simp only [decide_eq_true_eq]; omega
theorem ltB_tri : ∀ (a b : Bs), ltB a b = false → a ≠ b → ltB b a = true
  | [], [], _, h => absurd rfl h
  | [], _ :: _, h, _ => by simp [ltB] at h
  | _ :: _, [], _, _ => rfl
  | a :: s, b :: t, h, hne => by
    rw [ltB] at h ⊢
    by_cases e : a = b
    · subst e
      rw [if_pos rfl] at h ⊢
      exact ltB_tri s t h (fun e => hne (by rw [e]))
    · rw [if_neg e] at h
      rw [if_neg (Ne.symm e)]
      simp only [decide_eq_false_iff_not, decide_eq_true_eq] at h ⊢
      have : a.toNat ≠ b.toNat := fun e1 => e (UInt8.toNat_inj.1 e1)
      omega

/-- Strictly ascending. -/
def Up (l : List Bs) : Prop := l.Pairwise (fun a b => ltB a b = true)
theorem up_ext : ∀ {l m : List Bs}, Up l → Up m → (∀ x, x ∈ l ↔ x ∈ m) → l = m
  | [], [], _, _, _ => rfl
  | [], y :: m, _, _, h => absurd ((h y).2 (by simp)) (by simp)
  | x :: l, [], _, _, h => absurd ((h x).1 (by simp)) (by simp)
  | x :: l, y :: m, h1, h2, h => by
    obtain ⟨hx, hl⟩ := List.pairwise_cons.1 h1
    obtain ⟨hy, hm⟩ := List.pairwise_cons.1 h2
    have hxy : x = y := by
      rcases List.mem_cons.1 ((h x).1 (by simp)) with e | e
      · exact e
      · rcases List.mem_cons.1 ((h y).2 (by simp)) with e' | e'
        · exact e'.symm
        · have := ltB_tr (hx y e') (hy x e)
          rw [ltB_irr] at this; cases this
    subst hxy
    rw [up_ext hl hm (fun z => ⟨fun hz => by
      rcases List.mem_cons.1 ((h z).1 (List.mem_cons_of_mem _ hz)) with e | e
      · subst e; have := hx _ hz; rw [ltB_irr] at this; cases this
      · exact e, fun hz => by
      rcases List.mem_cons.1 ((h z).2 (List.mem_cons_of_mem _ hz)) with e | e
      · subst e; have := hy _ hz; rw [ltB_irr] at this; cases this
      · exact e⟩)]

theorem insTo_mem (s x : Bs) : ∀ (l : List Bs), x ∈ insTo l s ↔ x ∈ l ∨ x = s
  | [] => by simp [insTo]
  | y :: r => by
    rw [insTo]
    by_cases h : ltB y s = true
    · rw [if_pos h, List.mem_cons, insTo_mem s x r, List.mem_cons, or_assoc]
    · rw [if_neg h]
      by_cases e : y = s
      · rw [if_pos e]; subst e
        exact ⟨.inl, fun h => h.elim id (fun e => by subst e; exact List.mem_cons_self ..)⟩
      · rw [if_neg e, List.mem_cons]
        exact ⟨Or.symm, Or.symm⟩
theorem insTo_up (s : Bs) : ∀ {l : List Bs}, Up l → Up (insTo l s)
  | [], _ => List.pairwise_singleton _ _
  | y :: r, h => by
    obtain ⟨hy, hr⟩ := List.pairwise_cons.1 h
    rw [insTo]
    by_cases h1 : ltB y s = true
    · rw [if_pos h1]
      refine List.pairwise_cons.2 ⟨fun z hz => ?_, insTo_up s hr⟩
      rcases (insTo_mem s z r).1 hz with e | e
      · exact hy z e
      · subst e; exact h1
    · rw [if_neg h1]
      by_cases e : y = s
      · rw [if_pos e]; exact h
      · rw [if_neg e]
        have hsy := ltB_tri y s (by cases hb : ltB y s with | false => rfl | true => exact absurd hb h1) e
        refine List.pairwise_cons.2 ⟨fun z hz => ?_, h⟩
        rcases List.mem_cons.1 hz with e' | e'
        · subst e'; exact hsy
        · exact ltB_tr hsy (hy z e')
theorem foldIns_mem (x : Bs) : ∀ (xs l : List Bs), x ∈ xs.foldl insTo l ↔ x ∈ l ∨ x ∈ xs
  | [], l => by simp
  | y :: r, l => by rw [List.foldl_cons, foldIns_mem x r, insTo_mem, List.mem_cons, or_assoc]
theorem foldIns_up : ∀ (xs : List Bs) {l : List Bs}, Up l → Up (xs.foldl insTo l)
  | [], _, h => h
  | y :: r, _, h => foldIns_up r (insTo_up y h)
theorem sortUp_mem (x : Bs) (xs : List Bs) : x ∈ sortUp xs ↔ x ∈ xs := by rw [sortUp, foldIns_mem]; simp
theorem sortUp_up (xs : List Bs) : Up (sortUp xs) := foldIns_up xs List.Pairwise.nil

def asc (xs : List Bs) : List Bs := Lib.compact (xs.mergeSort fun x y => decide (x ≤ y))

theorem get!_eq (zs : List Bs) (j : Nat) (h : j < zs.length) : zs.toArray[j]! = zs[j] := by simp [h]
theorem compact_mem (x : Bs) (zs : List Bs) : x ∈ Lib.compact zs ↔ x ∈ zs := by
  rw [Lib.compact, Lib.compactUpTo, List.mem_map]
  constructor
  · rintro ⟨j, hj, rfl⟩
    have hj' : j < zs.length := List.mem_range.1 (List.mem_filter.1 hj).1
    rw [get!_eq zs j hj']
    exact List.getElem_mem hj'
  · intro h
    obtain ⟨j, hj, rfl⟩ := List.mem_iff_getElem.1 h
    clear h
    induction j with
    | zero => exact ⟨0, List.mem_filter.2 ⟨List.mem_range.2 hj, by simp [Lib.keeps]⟩, get!_eq zs 0 hj⟩
    | succ j ih =>
      by_cases hk : zs[j + 1] = zs[j]
      · rw [hk]; exact ih (by omega)
      · refine ⟨j + 1, List.mem_filter.2 ⟨List.mem_range.2 hj, ?_⟩, get!_eq zs (j + 1) hj⟩
        rw [Lib.keeps, get!_eq zs (j + 1) hj, show j + 1 - 1 = j by omega, get!_eq zs j (by omega)]
        simp [hk]
theorem compact_up {zs : List Bs} (h : zs.Pairwise (fun a b => (!ltB b a) = true)) : Up (Lib.compact zs) := by
  rw [Lib.compact, Lib.compactUpTo, Up, List.pairwise_map, List.pairwise_filter]
  have hle := List.pairwise_iff_getElem.1 h
  refine List.pairwise_iff_getElem.2 (fun i j hi hj hij => ?_)
  simp only [List.length_range] at hi hj
  rw [List.getElem_range, List.getElem_range]
  intro _ hk
  rw [Lib.keeps, get!_eq zs j hj, get!_eq zs (j - 1) (by omega)] at hk
  rw [get!_eq zs i hi, get!_eq zs j hj]
  have hne : zs[j - 1] ≠ zs[j] := fun e => by
    simp only [decide_eq_true_eq] at hk
    rcases hk with hk | hk
    · omega
    · exact hk e.symm
  have h1 : ltB zs[j] zs[j - 1] = false := by simpa using hle (j - 1) j (by omega) hj (by omega)
  have h2 := ltB_tri _ _ h1 (Ne.symm hne)
  by_cases e : i = j - 1
  · subst e; exact h2
  · have h3 : ltB zs[j - 1] zs[i] = false := by simpa using hle i (j - 1) hi (by omega) (by omega)
    by_cases e1 : zs[i] = zs[j - 1]
    · rw [e1]; exact h2
    · exact ltB_tr (ltB_tri _ _ h3 (Ne.symm e1)) h2
theorem asc_eq (xs : List Bs) : asc xs = sortUp xs := by
  refine up_ext (compact_up ?_) (sortUp_up xs) (fun x => ?_)
  · have := List.pairwise_mergeSort (le := fun x y : Bs => decide (x ≤ y)) (fun a b c h1 h2 => by
      rw [leB_iff] at *
      simp only [Bool.not_eq_true'] at *
      cases h : ltB c a with
      | false => rfl
      | true =>
        exfalso
        by_cases e : b = a
        · subst e; rw [h] at h2; cases h2
        · have := ltB_tr h (ltB_tri b a h1 e); rw [this] at h2; cases h2) (fun a b => by
      rw [leB_iff, leB_iff]
      cases h : ltB b a with
      | false => rfl
      | true =>
        cases h' : ltB a b with
        | false => rfl
        | true => have := ltB_tr h h'; rw [ltB_irr] at this; cases this) xs
    exact this.imp (fun h => by rw [leB_iff] at h; exact h)
  · rw [asc, compact_mem, List.mem_mergeSort, sortUp_mem]
theorem insTo_len (s : Bs) : ∀ (l : List Bs), (insTo l s).length ≤ l.length + 1
  | [] => by simp [insTo]
  | x :: r => by
    rw [insTo]
    split
    · have := insTo_len s r; simp; omega
    · split <;> simp
theorem foldIns_len : ∀ (xs l : List Bs), (xs.foldl insTo l).length ≤ l.length + xs.length
  | [], l => by simp
  | x :: r, l => by have := foldIns_len r (insTo l x); have := insTo_len x l; simp only [List.foldl_cons, List.length_cons]; omega
theorem sortUp_len (xs : List Bs) : (sortUp xs).length ≤ xs.length := by have := foldIns_len xs []; simpa [sortUp] using this
theorem sortUp_snoc (xs : List Bs) (x : Bs) : sortUp (xs ++ [x]) = insTo (sortUp xs) x := by simp [sortUp]


theorem bytesLess_eq : ∀ (a b : Bs), Op.bytesLess a b = ltB a b
  | [], [] => rfl
  | _ :: _, [] => rfl
  | [], _ :: _ => rfl
  | a :: s, b :: t => by
    rw [Op.bytesLess, ltB, bytesLess_eq s t]
    by_cases h : a = b
    · subst h; simp [UInt8.lt_irrefl]
    · simp [h, UInt8.lt_iff_toNat_lt]
theorem gt_eq (a b : Bs) : (!(Op.bytesLess a b || a == b)) = ltB b a := by
  rw [bytesLess_eq]
  cases h : ltB a b with
  | true =>
    simp only [Bool.true_or, Bool.not_true]
    cases h' : ltB b a with
    | false => rfl
    | true => have := ltB_tr h h'; rw [ltB_irr] at this; cases this
  | false =>
    by_cases e : a = b
    · subst e; simp [ltB_irr]
    · rw [ltB_tri a b h e]; simp [e]

theorem insTo_in {s : Bs} : ∀ {l : List Bs}, Up l → s ∈ l → insTo l s = l
  | [], _, h => absurd h (by simp)
  | x :: r, hu, h => by
    obtain ⟨hx, hr⟩ := List.pairwise_cons.1 hu
    rw [insTo]
    rcases List.mem_cons.1 h with e | e
    · subst e; rw [ltB_irr]; simp
    · rw [if_pos (hx s e), insTo_in hr e]
theorem insTo_at {s : Bs} : ∀ {l : List Bs} (i : Nat), Up l → s ∉ l → (∀ j (h : j < l.length), i ≤ j → ltB s l[j] = true) → (∀ h : i - 1 < l.length, 0 < i → ltB s l[i - 1] = false) → i ≤ l.length →
    insTo l s = l.take i ++ s :: l.drop i
  | [], i, _, _, _, _, hi => by simp at hi; subst hi; rfl
  | x :: r, 0, hu, hn, ha, _, _ => by
    have h0 := ha 0 (by simp) (by omega)
    rw [List.getElem_cons_zero] at h0
    have : ltB x s = false := by
      cases h : ltB x s with
      | false => rfl
      | true => have := ltB_tr h h0; rw [ltB_irr] at this; cases this
    rw [insTo, this, if_neg (by simp), if_neg (fun e => hn (by subst e; exact List.mem_cons_self ..))]
    rfl
  | x :: r, i + 1, hu, hn, ha, hb, hi => by
    obtain ⟨hx, hr⟩ := List.pairwise_cons.1 hu
    have hnr : s ∉ r := fun h => hn (List.mem_cons_of_mem _ h)
    have hne : x ≠ s := fun e => hn (by subst e; exact List.mem_cons_self ..)
    have hlt : ltB x s = true := by
      have hb' := hb (by simp at hi ⊢; omega) (by omega)
      simp only [Nat.add_sub_cancel] at hb'
      cases i with
      | zero => rw [List.getElem_cons_zero] at hb'; exact ltB_tri s x hb' (Ne.symm hne)
      | succ k =>
        rw [List.getElem_cons_succ] at hb'
        have hk : k < r.length := by simp at hi; omega
        have h1 : ltB r[k] s = true := ltB_tri s r[k] hb' (fun e => hnr (by rw [e]; exact List.getElem_mem hk))
        exact ltB_tr (hx _ (List.getElem_mem hk)) h1
    rw [insTo, if_pos hlt, insTo_at i hr hnr (fun j h hij => by have := ha (j + 1) (by simp; omega) (by omega); rwa [List.getElem_cons_succ] at this) (fun h h0 => by
      have := hb (by simp at h ⊢; omega) (by omega)
      simp only [Nat.add_sub_cancel] at this
      cases i with
      | zero => omega
      | succ k => rw [List.getElem_cons_succ] at this; exact this) (by simp at hi; omega)]
    rfl

end Go.Proofs.YtolhgklbkjdpiaaGreat.Nm
