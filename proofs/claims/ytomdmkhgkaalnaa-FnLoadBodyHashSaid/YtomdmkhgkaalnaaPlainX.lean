/- Facts of the promise that hashes tell bodies. -/
import Derived.Test.YtomdmkhgkaalnaaLoad
set_option linter.unusedVariables false
set_option linter.unusedSimpArgs false
namespace Go.Proofs.Ytomdmkhgkaalnaa
open Go.RowKit Go.Proofs.Ytomdmkhgkaalnaa.Nm

theorem nodup_getX {α : Type} {l : List α} (h : l.Nodup) {i j : Nat} (hi : i < l.length) (hj : j < l.length) (e : l[i] = l[j]) : i = j := by
  rcases Nat.lt_trichotomy i j with hlt | he | hlt
  · exact absurd e (List.pairwise_iff_getElem.1 h i j hi hj hlt)
  · exact he
  · exact absurd e.symm (List.pairwise_iff_getElem.1 h j i hj hi hlt)
/-- What LoadBody comes to, where a valid store has something of a file's place. -/
theorem loadB_atX {cs : List Cmp} {f : Fil} {c : Cmp} {m : Int} (h1 : okStore cs = true) (h2 : okFil f = true) (h3 : inr m 0 2 = true) (hc : c ∈ cs) (hp : cplace c = fplace f) :
    (loadB cs f m).1 = (if isUsable c f then c.body else f.body) ∧ (loadB cs f m).2.2 = isUsable c f := by
  obtain ⟨_, hn, _⟩ := okStore_facts h1
  obtain ⟨k, hk, rfl⟩ := List.getElem_of_mem hc
  have hka : keyAt cplace cs (fplace f) = (k : Int) := keyAt_yes (key := cplace) cs k hk _ (fun j hj hjk e => by
    have := nodup_getX hn (i := j) (j := k) (by simpa using hj) (by simpa using hk) (by simp only [List.getElem_map]; rw [e, hp])
    omega) hp
  cases hu : isUsable cs[k] f
  · rw [loadB_new h1 h2 h3 (usAt_bad hk hka hu)]
    exact ⟨rfl, rfl⟩
  · rw [loadB_had hk h1 h2 h3 (usAt_good hk hka hu)]
    exact ⟨rfl, rfl⟩
theorem isUsable_of {c : Cmp} {f : Fil} (h1 : okCmp c = true) (h2 : okFil f = true) (hp : cplace c = fplace f) : isUsable c f = usable c f := by
  unfold isUsable; rw [h1, h2, decide_eq_true hp]; simp
theorem okCmp_size {c : Cmp} (h : okCmp c = true) : c.size = (sizeSum c.body : Int) ∧ c.hash = hashOf c.body ∧ 0 ≤ c.mode ∧ c.mode ≤ 2 := by
  unfold okCmp inr at h
  simp only [Bool.and_eq_true, decide_eq_true_eq] at h
  exact ⟨h.1.2, h.2, by omega, by omega⟩
/-- Who trusts takes what is there. -/
theorem load_trust {cs : List Cmp} {f : Fil} {c : Cmp} {m : Int} (h1 : okStore cs = true) (h2 : okFil f = true) (h3 : inr m 0 2 = true) (hc : c ∈ cs) (hp : cplace c = fplace f) (hm : c.mode = 2) :
    (loadB cs f m).1 = c.body ∧ (loadB cs f m).2.2 = true := by
  have hu : isUsable c f = true := by rw [isUsable_of ((okStore_facts h1).1 c hc) h2 hp]; unfold usable; rw [hm]; rfl
  obtain ⟨a, b⟩ := loadB_atX h1 h2 h3 hc hp
  rw [hu] at a b
  exact ⟨a, b⟩
/-- Equal stamps and sizes. -/
theorem load_size {cs : List Cmp} {f : Fil} {c : Cmp} {m : Int} (h1 : okStore cs = true) (h2 : okFil f = true) (h3 : inr m 0 2 = true) (hc : c ∈ cs) (hp : cplace c = fplace f) (hm : c.mode = 0) (hh : (loadB cs f m).2.2 = true) :
    bodySize (loadB cs f m).1 = bodySize f.body := by
  obtain ⟨a, b⟩ := loadB_atX h1 h2 h3 hc hp
  rw [b] at hh
  rw [hh] at a
  have hok := (okStore_facts h1).1 c hc
  rw [isUsable_of hok h2 hp] at hh
  unfold usable at hh
  rw [hm] at hh
  simp only [↓reduceIte, Bool.and_eq_true, decide_eq_true_eq] at hh
  rw [a]
  simp only [↓reduceIte]
  have e1 := (okCmp_size hok).1
  unfold bodySize
  rw [okCmp_body hok, okFil_body h2]
  simp only [↓reduceIte]
  omega
/-- Hashes tell bodies. -/
theorem load_hash {cs : List Cmp} {f : Fil} {m : Int} (h1 : okStore cs = true) (h2 : okFil f = true) (h3 : inr m 0 2 = true)
    (hno : ∀ c ∈ cs, cplace c = fplace f → ¬ c.mode = 2 ∧ (c.mode = 0 → (loadB cs f m).2.2 = false)) : hashOf (loadB cs f m).1 = hashOf f.body := by
  cases hh : (loadB cs f m).2.2
  · rw [(loadB_facts h1 h2 h3).2.2.2 hh]
  · rcases usAt_range cs f with h | ⟨k, hk, h⟩
    · rw [loadB_new h1 h2 h3 h] at hh; cases hh
    · rcases keyAt_is (key := cplace) cs (fplace f) with ⟨hk', _⟩ | ⟨j, hj, hat, hp, _⟩
      · rw [usAt_none hk'] at h; omega
      · have hc := List.getElem_mem hj
        obtain ⟨a, b⟩ := loadB_atX h1 h2 h3 hc hp
        rw [b] at hh
        rw [hh] at a
        have hok := (okStore_facts h1).1 _ hc
        obtain ⟨n1, n2⟩ := hno _ hc hp
        have hm := (okCmp_size hok).2.2
        have hm1 : cs[j].mode = 1 := by
          by_cases h0 : cs[j].mode = 0
          · have := n2 h0; rw [b, hh] at this; cases this
          · omega
        rw [isUsable_of hok h2 hp] at hh
        unfold usable at hh
        rw [hm1] at hh
        simp at hh
        rw [a]
        simp only [↓reduceIte]
        rw [← hh]
        exact (okCmp_size hok).2.1.symm
theorem loadB_short {cs : List Cmp} {f : Fil} {m : Int} (h1 : okStore cs = true) (hf : Short 8000000 f.body) : Short 8000000 (loadB cs f m).1 := by
  unfold loadB
  split
  · split
    · rename_i c hc
      split
      · exact short_mono (by omega) ((okStore_short h1).1 c (List.mem_of_getElem? hc)).2
      · exact hf
    · exact hf
  · intro s hs; cases hs
end Go.Proofs.Ytomdmkhgkaalnaa
