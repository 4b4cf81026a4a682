/- Facts of the promises about files that are wrong, trees that are compiled, and stores that are pruned. -/
import Derived.Test.YtomdmkhgkaalnaaLoad
import Derived.Test.YtomdmkhgkaalnaaPrune
set_option linter.unusedVariables false
set_option linter.unusedSimpArgs false
namespace Go.Proofs.Ytomdmkhgkaalnaa
open Go.RowKit Go.Proofs.Ytomdmkhgkaalnaa.Nm

theorem mem_wrongGo {cs : List Cmp} : ∀ {l : List Fil} {i j : Int}, j ∈ wrongGo cs l i ↔ ∃ k, ∃ h : k < l.length, j = i + k ∧ isWrong cs l[k] = true
  | [], i, j => by simp [wrongGo]
  | f :: r, i, j => by
    unfold wrongGo
    rw [List.mem_append, mem_wrongGo]
    constructor
    · rintro (h | ⟨k, hk, e, hw⟩)
      · split at h
        · rename_i hw
          simp at h
          exact ⟨0, by simp, by simp [h], hw⟩
        · cases h
      · exact ⟨k + 1, by simpa using hk, by rw [e]; push_cast; omega, by simpa using hw⟩
    · rintro ⟨k, hk, e, hw⟩
      cases k with
      | zero =>
        left
        have hw' : isWrong cs f = true := hw
        rw [if_pos hw']
        simp at e
        simp [e]
      | succ k => exact .inr ⟨k, by simpa using hk, by rw [e]; push_cast; omega, by simpa using hw⟩
theorem wrongGo_ge {cs : List Cmp} {l : List Fil} {i j : Int} (h : j ∈ wrongGo cs l i) : i ≤ j := by
  obtain ⟨k, _, e, _⟩ := mem_wrongGo.1 h
  omega
theorem wrongGo_up {cs : List Cmp} : ∀ (l : List Fil) (i : Int), (wrongGo cs l i).Pairwise (fun a b => a < b)
  | [], i => by simp [wrongGo]
  | f :: r, i => by
    unfold wrongGo
    rw [List.pairwise_append]
    refine ⟨by split <;> simp, wrongGo_up r (i + 1), fun x hx y hy => ?_⟩
    have h1 := wrongGo_ge hy
    split at hx
    · simp at hx; omega
    · cases hx
theorem mem_wrongs {cs : List Cmp} {t : List Fil} (h1 : okStore cs = true) (h2 : okTree t = true) (k : Nat) (hk : k < t.length) : decide ((k : Int) ∈ wrongs cs t) = isWrong cs t[k] := by
  rw [wrongs_at h1 h2, List.take_length]
  cases hw : isWrong cs t[k]
  · rw [decide_eq_false_iff_not]
    intro h
    obtain ⟨j, hj, e, hw'⟩ := mem_wrongGo.1 h
    have : j = k := by omega
    subst this
    rw [hw] at hw'; cases hw'
  · rw [decide_eq_true_eq]
    exact mem_wrongGo.2 ⟨k, hk, by omega, hw⟩
theorem wrongs_up (cs : List Cmp) (t : List Fil) : (wrongs cs t).Pairwise (fun a b => a < b) := by
  unfold wrongs
  split
  · exact wrongGo_up _ _
  · simp
theorem inr_stamp : inr 0 0 2 = true := by decide
/-- A file is wrong if something else is run for it. -/
theorem wrong_body {cs : List Cmp} {f : Fil} (h1 : okStore cs = true) (h2 : okFil f = true) : decide ((loadB cs f 0).1 = f.body) = !isWrong cs f := by
  rcases usAt_range cs f with h | ⟨k, hk, h⟩
  · rw [loadB_new h1 h2 inr_stamp h, isWrong_none h]; simp
  · rw [loadB_had hk h1 h2 inr_stamp h, isWrong_at hk h]; simp

/-! ### Facts of the promises about trees that are compiled, and stores that are pruned. -/
theorem nodup_getElem {α : Type} {l : List α} (h : l.Nodup) {i j : Nat} (hi : i < l.length) (hj : j < l.length) (e : l[i] = l[j]) : i = j := by
  rcases Nat.lt_trichotomy i j with hlt | he | hlt
  · exact absurd e (List.pairwise_iff_getElem.1 h i j hi hj hlt)
  · exact he
  · exact absurd e.symm (List.pairwise_iff_getElem.1 h j i hj hi hlt)
theorem nodup_sub_len {α : Type} [DecidableEq α] : ∀ {l l' : List α}, l.Nodup → (∀ x ∈ l, x ∈ l') → l.length ≤ l'.length
  | [], l', _, _ => by simp
  | x :: r, l', h, hs => by
    obtain ⟨h1, h2⟩ := List.nodup_cons.1 h
    have hx := hs x (List.mem_cons_self ..)
    have hr := nodup_sub_len (l' := l'.erase x) h2 (fun y hy => (List.mem_erase_of_ne (fun e => h1 (by rw [← e]; exact hy))).2 (hs y (List.mem_cons_of_mem _ hy)))
    have hl := List.length_erase_of_mem hx
    have hp : 0 < l'.length := List.length_pos_of_mem hx
    simp only [List.length_cons]
    omega
/-- What LoadBody comes to, where a valid store has something of a file's place. -/
theorem loadB_at {cs : List Cmp} {f : Fil} {c : Cmp} (h1 : okStore cs = true) (h2 : okFil f = true) (hc : c ∈ cs) (hp : cplace c = fplace f) :
    (loadB cs f 0).1 = (if isUsable c f then c.body else f.body) ∧ (loadB cs f 0).2.2 = isUsable c f := by
  obtain ⟨_, hn, _⟩ := okStore_facts h1
  obtain ⟨k, hk, rfl⟩ := List.getElem_of_mem hc
  have hka : keyAt cplace cs (fplace f) = (k : Int) := keyAt_yes (key := cplace) cs k hk _ (fun j hj hjk e => by
    have := nodup_getElem hn (i := j) (j := k) (by simpa using hj) (by simpa using hk) (by simp only [List.getElem_map]; rw [e, hp])
    omega) hp
  cases hu : isUsable cs[k] f
  · rw [loadB_new h1 h2 inr_stamp (usAt_bad hk hka hu)]
    exact ⟨rfl, rfl⟩
  · rw [loadB_had hk h1 h2 inr_stamp (usAt_good hk hka hu)]
    exact ⟨rfl, rfl⟩
theorem loadB_not {cs : List Cmp} {f : Fil} (h1 : okStore cs = true) (h2 : okFil f = true) (hp : ∀ c ∈ cs, cplace c ≠ fplace f) :
    (loadB cs f 0).1 = f.body ∧ (loadB cs f 0).2.2 = false := by
  rw [loadB_new h1 h2 inr_stamp (usAt_none (keyAt_no (key := cplace) cs _ (fun j hj => hp _ (List.getElem_mem hj))))]
  exact ⟨rfl, rfl⟩
theorem okStore_filter {cs : List Cmp} (h : okStore cs = true) (q : Cmp → Bool) : okStore (cs.filter q) = true := by
  obtain ⟨h1, h2, h3⟩ := okStore_facts h
  have hs : (cs.filter q).Sublist cs := List.filter_sublist
  exact okStore_of (fun c hc => h1 c (hs.subset hc)) ((hs.map cplace).nodup h2) (Nat.le_trans hs.length_le h3)
theorem okStore_prune {cs : List Cmp} {t : List Fil} (h1 : okStore cs = true) (h2 : okTree t = true) : okStore (prune cs t) = true := by
  rw [prune_at h1 h2]; exact okStore_filter h1 _
theorem inTree_iff {t : List Fil} {c : Cmp} : inTree t c = true ↔ ∃ f ∈ t, fplace f = cplace c := by
  unfold inTree
  rw [List.any_eq_true]
  constructor
  · rintro ⟨f, hf, e⟩; exact ⟨f, hf, of_decide_eq_true e⟩
  · rintro ⟨f, hf, e⟩; exact ⟨f, hf, decide_eq_true e⟩
/-- A pruned store is as good, for the files of the tree. -/
theorem loadB_prune {cs : List Cmp} {t : List Fil} {f : Fil} (h1 : okStore cs = true) (h2 : okTree t = true) (hf : f ∈ t) :
    (loadB (prune cs t) f 0).1 = (loadB cs f 0).1 ∧ (loadB (prune cs t) f 0).2.2 = (loadB cs f 0).2.2 := by
  have hok : okFil f = true := okTree_inW h2 hf
  by_cases hex : ∃ c ∈ cs, cplace c = fplace f
  · obtain ⟨c, hc, hp⟩ := hex
    have hc' : c ∈ prune cs t := by rw [prune_at h1 h2, List.mem_filter]; exact ⟨hc, inTree_iff.2 ⟨f, hf, hp.symm⟩⟩
    obtain ⟨a1, a2⟩ := loadB_at h1 hok hc hp
    obtain ⟨b1, b2⟩ := loadB_at (okStore_prune h1 h2) hok hc' hp
    rw [a1, a2, b1, b2]
    exact ⟨rfl, rfl⟩
  · have hno : ∀ c ∈ cs, cplace c ≠ fplace f := fun c hc e => hex ⟨c, hc, e⟩
    obtain ⟨a1, a2⟩ := loadB_not h1 hok hno
    obtain ⟨b1, b2⟩ := loadB_not (okStore_prune h1 h2) hok (fun c hc => hno c (by rw [prune_at h1 h2] at hc; exact (List.mem_filter.1 hc).1))
    rw [a1, a2, b1, b2]
    exact ⟨rfl, rfl⟩
theorem prune_len {cs : List Cmp} {t : List Fil} (h1 : okStore cs = true) (h2 : okTree t = true) : (prune cs t).length ≤ t.length := by
  have hn := (okStore_facts (okStore_prune h1 h2)).2.1
  have h := nodup_sub_len (l' := t.map fplace) hn (fun x hx => by
    obtain ⟨c, hc, rfl⟩ := List.mem_map.1 hx
    rw [prune_at h1 h2] at hc
    obtain ⟨f, hf, e⟩ := inTree_iff.1 (List.mem_filter.1 hc).2
    exact List.mem_map.2 ⟨f, hf, e⟩)
  simpa using h
theorem prune_again {cs : List Cmp} {t : List Fil} (h1 : okStore cs = true) (h2 : okTree t = true) : prune (prune cs t) t = prune cs t := by
  rw [prune_at (okStore_prune h1 h2) h2, prune_at h1 h2, List.filter_filter]
  congr 1; funext c; simp
/-! ### A tree that is compiled. -/
theorem fplace_nodup {t : List Fil} (h : okTree t = true) : (t.map fplace).Nodup := by
  obtain ⟨ha, hn, _⟩ := okTree_all h
  have e : t.map place = (t.map fplace).map srcPlace := by
    rw [List.map_map]
    exact List.map_congr_left (fun f hf => ((srcPlace_fil (List.all_eq_true.1 ha f hf)).1).symm)
  rw [e] at hn
  exact List.Pairwise.of_map srcPlace (fun a b h e => h (by rw [e])) hn
theorem okStore_comp {t : List Fil} {m : Int} (h : okTree t = true) (hm : inr m 0 2 = true) : okStore (t.map (fun f => compiled f m)) = true := by
  refine okStore_of (fun c hc => ?_) ?_ (by rw [List.length_map]; exact (okTree_all h).2.2)
  · obtain ⟨f, hf, rfl⟩ := List.mem_map.1 hc
    exact (compiled_okB (okTree_inW h hf) hm).1
  · rw [List.map_map]; exact fplace_nodup h
theorem isWrong_comp {t : List Fil} {m : Int} (h : okTree t = true) (hm : inr m 0 2 = true) {f : Fil} (hf : f ∈ t) : isWrong (t.map (fun f => compiled f m)) f = false := by
  obtain ⟨k, hk, rfl⟩ := List.getElem_of_mem hf
  have hk' : k < (t.map (fun f => compiled f m)).length := by simpa using hk
  have hka : keyAt cplace (t.map (fun f => compiled f m)) (fplace t[k]) = (k : Int) := keyAt_yes (key := cplace) _ k hk' _ (fun j hj hjk e => by
    have hj' : j < t.length := by simpa using hj
    rw [List.getElem_map] at e
    have e2 : fplace t[j] = fplace t[k] := e
    have := nodup_getElem (fplace_nodup h) (i := j) (j := k) (by simpa using hj') (by simpa using hk) (by simp only [List.getElem_map]; exact e2)
    omega) (by rw [List.getElem_map]; rfl)
  rw [isWrong_at hk' (usAt_good hk' hka (by rw [List.getElem_map]; exact (compiled_okB (okTree_inW h hf) hm).2))]
  simp [compiled]
theorem wrongs_comp {t : List Fil} {m : Int} (h : okTree t = true) (hm : inr m 0 2 = true) : wrongs (t.map (fun f => compiled f m)) t = [] := by
  refine List.eq_nil_iff_forall_not_mem.2 (fun j hj => ?_)
  rw [wrongs_at (okStore_comp h hm) h, List.take_length] at hj
  obtain ⟨k, hk, _, hw⟩ := mem_wrongGo.1 hj
  rw [isWrong_comp h hm (List.getElem_mem hk)] at hw
  cases hw
theorem prune_comp {t : List Fil} {m : Int} (h : okTree t = true) (hm : inr m 0 2 = true) : prune (t.map (fun f => compiled f m)) t = t.map (fun f => compiled f m) := by
  rw [prune_at (okStore_comp h hm) h]
  refine List.filter_eq_self.2 (fun c hc => ?_)
  obtain ⟨f, hf, rfl⟩ := List.mem_map.1 hc
  exact inTree_iff.2 ⟨f, hf, rfl⟩
end Go.Proofs.Ytomdmkhgkaalnaa
