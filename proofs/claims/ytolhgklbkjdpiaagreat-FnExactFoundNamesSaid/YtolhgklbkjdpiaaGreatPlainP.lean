/- Plain facts that the promises on trees say. -/
import Derived.Test.YtolhgklbkjdpiaaGreatPlainL
import Derived.Test.YtolhgklbkjdpiaaGreatPlainG
set_option linter.unusedVariables false
set_option linter.unusedSimpArgs false
namespace Go.Proofs.YtolhgklbkjdpiaaGreat.Nm

theorem okBody_erase {b : List Stm} (h : okBody b = true) (i : Nat) : okBody (b.eraseIdx i) = true := by
  unfold okBody at h ⊢
  simp only [Bool.and_eq_true, decide_eq_true_eq, List.all_eq_true] at h ⊢
  refine ⟨fun s hs => h.1 s (List.mem_of_mem_eraseIdx hs), ?_⟩
  have := (List.eraseIdx_sublist b i).length_le
  omega
theorem mixed_bd {n k : Int} (hn : 0 ≤ n) (hk : 0 ≤ k) : 0 ≤ mixed n k ∧ mixed n k < 1000003 := by
  unfold mixed
  have h0 : 0 ≤ n * 131 + k + 1 := by omega
  exact ⟨Int.tmod_nonneg _ h0, Int.tmod_lt_of_pos _ (by omega)⟩
theorem foldMix_bd : ∀ (s : Bs) {n : Int}, 0 ≤ n → 0 ≤ s.foldl (fun n c => mixed n (c.toNat : Int)) n
  | [], n, h => h
  | c :: r, n, h => by
    rw [List.foldl_cons]
    exact foldMix_bd r (mixed_bd h (by omega)).1
theorem mixedText_bd {n : Int} (s : Bs) (hn : 0 ≤ n) : 0 ≤ mixedText n s ∧ mixedText n s < 1000003 := mixed_bd (foldMix_bd s hn) (Int.le_refl _)
theorem okStm_nums {s : Stm} (h : okStm s = true) : 0 ≤ s.kind ∧ 0 ≤ s.level ∧ 0 ≤ s.value := by
  unfold okStm at h
  split at h
  · simp only [Bool.and_eq_true, decide_eq_true_eq] at h; omega
  split at h
  · simp only [Bool.and_eq_true, decide_eq_true_eq, okSrc, inr] at h; omega
  split at h
  · simp only [Bool.and_eq_true, decide_eq_true_eq] at h; omega
  split at h
  · simp only [Bool.and_eq_true, decide_eq_true_eq, inr] at h; omega
  split at h
  · simp only [Bool.and_eq_true, decide_eq_true_eq] at h; omega
  split at h
  · simp only [Bool.and_eq_true, decide_eq_true_eq] at h; omega
  · cases h
theorem hashStm_bd {n : Int} {s : Stm} (h : okStm s = true) (hn : 0 ≤ n) : 0 ≤ hashStm n s ∧ hashStm n s < 1000003 := by
  obtain ⟨h1, h2, h3⟩ := okStm_nums h
  unfold hashStm
  exact mixedText_bd _ (mixedText_bd _ (mixed_bd (mixed_bd (mixed_bd hn h1).1 h2).1 h3).1).1
theorem foldHash_bd : ∀ (b : List Stm) {n : Int}, (∀ s ∈ b, okStm s = true) → 0 ≤ n → n < 1000003 → 0 ≤ b.foldl hashStm n ∧ b.foldl hashStm n < 1000003
  | [], n, _, h, h2 => ⟨h, h2⟩
  | s :: r, n, hb, h, h2 => by
    rw [List.foldl_cons]
    have := hashStm_bd (hb s (by simp)) h
    exact foldHash_bd r (fun x hx => hb x (by simp [hx])) this.1 this.2
theorem hashOf_bd {b : List Stm} (h : okBody b = true) : 0 ≤ hashOf b ∧ hashOf b < 1000003 := by
  unfold hashOf
  rw [if_pos h]
  unfold okBody at h
  simp only [Bool.and_eq_true, List.all_eq_true] at h
  exact foldHash_bd b h.1 (by omega) (by omega)
theorem hashOf_no {b : List Stm} (h : okBody b = false) : hashOf b = -1 := by unfold hashOf; rw [h]; rfl
theorem hashOf_nil : hashOf [] = 1 := by decide

theorem okTree_of {t : List Fil} (h1 : t.all okFil = true) (h2 : (t.map place).Nodup) (h3 : t.length ≤ 12) : okTree t = true := by
  unfold okTree; simp [h1, h2, h3]
theorem okTree_sub {t u : List Fil} (h : okTree t = true) (hs : u.Sublist t) : okTree u = true := by
  obtain ⟨h1, h2, h3⟩ := okTree_all h
  refine okTree_of ?_ ((hs.map place).nodup h2) (Nat.le_trans hs.length_le h3)
  rw [List.all_eq_true] at h1 ⊢
  exact fun f hf => h1 f (hs.subset hf)
theorem okTree_erase {t : List Fil} (h : okTree t = true) (i : Nat) : okTree (t.eraseIdx i) = true := okTree_sub h (List.eraseIdx_sublist t i)
theorem okTree_file {t : List Fil} (h : okTree t = true) {f : Fil} (hf : f ∈ t) : okFil f = true := List.all_eq_true.1 (okTree_all h).1 f hf

theorem modOf_facts {f : Fil} (h : modOf f ≠ []) : okFil f = true ∧ modOf f = modName f ∧ vn (modOf f) = true ∧ (f.init = true → modOf f = f.pack) ∧ (f.init = false → parentOf (modOf f) = f.pack ∧ lastOf (modOf f) = f.name) := by
  have hok : okFil f = true := by
    unfold modOf at h
    cases ho : okFil f
    · rw [ho] at h; exact absurd rfl h
    · rfl
  have e : modOf f = modName f := by unfold modOf; rw [if_pos hok]
  have hv := (okFil_mod hok).2
  refine ⟨hok, e, by rw [e]; exact hv, fun hi => by rw [e]; unfold modName; rw [hi]; rfl, fun hi => ?_⟩
  rw [e]
  have hm := (okFil_mod hok).1
  unfold modAt at hm
  rw [hi] at hm
  simp only [Bool.false_eq_true, if_false] at hm
  have := parent_childOf (p := f.pack) (s := f.name) (by rw [hm]; exact vn_ne hv)
  rw [hm] at this
  exact ⟨this.1, this.2.1⟩
theorem modOf_mem {t : List Fil} (h : okTree t = true) {f : Fil} (hf : f ∈ t) : modOf f ∈ modulesOf t := by
  unfold modulesOf modOf
  rw [if_pos h, if_pos (okTree_file h hf), sortUp_mem, List.mem_map]
  exact ⟨f, hf, rfl⟩

theorem okTree_twice {t : List Fil} {f : Fil} : okTree (t ++ [f] ++ [f]) = false := by
  cases h : okTree (t ++ [f] ++ [f])
  · rfl
  · have h2 := (okTree_all h).2.1
    simp only [List.map_append, List.append_assoc] at h2
    rw [List.nodup_append] at h2
    simp at h2
theorem erase_last {t : List Fil} {f : Fil} : (t ++ [f]).eraseIdx t.length = t := by
  rw [List.eraseIdx_append_of_length_le (Nat.le_refl _)]; simp

theorem under_trans {a b c : Bs} (ha : vn a = true) (hb : vn b = true) (hc : vpk c = true) (h1 : under a b = true) (h2 : under b c = true) : under a c = true := by
  rcases vpk_iff.1 hc with rfl | hc
  · simp [under]
  · rw [under_iff ha hc]
    exact ((under_iff hb hc).1 h2).trans ((under_iff ha hb).1 h1)
theorem dirIn_some {t : List Fil} {root : Int} {p : Bs} (h : dirIn t root p = true) (h0 : p ≠ []) : ∃ f ∈ t, f.root = root ∧ f.pack ≠ [] ∧ under f.pack p = true := by
  unfold dirIn at h
  rw [Bool.or_eq_true] at h
  rcases h with h | h
  · rw [List.any_eq_true] at h
    obtain ⟨f, hf, h3⟩ := h
    simp only [Bool.and_eq_true, Bool.not_eq_true', decide_eq_true_eq] at h3
    exact ⟨f, hf, h3.1.1, by simpa using h3.1.2, h3.2⟩
  · exact absurd (by simpa using h) h0
theorem dirIn_of {t : List Fil} {root : Int} {p : Bs} {f : Fil} (hf : f ∈ t) (hr : f.root = root) (hp : f.pack ≠ []) (hu : under f.pack p = true) : dirIn t root p = true := by
  unfold dirIn
  rw [Bool.or_eq_true, List.any_eq_true]
  have hne : f.pack.isEmpty = false := by simpa using hp
  exact .inl ⟨f, hf, by simp [hr, hu, hne]⟩
theorem dirIn_nil (t : List Fil) (root : Int) : dirIn t root [] = true := by unfold dirIn; simp
theorem placed_of {t : List Fil} {root : Int} {p : Bs} (h : placed t root p = true) : okTree t = true ∧ inr root 0 2 = true ∧ vpk p = true := by
  unfold placed at h; simp only [Bool.and_eq_true] at h; exact ⟨h.1.1, h.1.2, h.2⟩
theorem hasDir_of {t : List Fil} {root : Int} {p : Bs} (h : hasDir t root p = true) : placed t root p = true ∧ dirIn t root p = true := by
  unfold hasDir at h; simpa using h

theorem mem_listDir {t : List Fil} {root : Int} {p : Bs} (h : placed t root p = true) (x : Bs) : x ∈ listDir t root p ↔ ∃ f ∈ t, entry f root p = x ∧ x ≠ [] := by
  unfold listDir
  rw [if_pos h, sortUp_mem]
  unfold entries
  rw [List.mem_filter, List.mem_map]
  constructor
  · rintro ⟨⟨f, hf, rfl⟩, h2⟩; exact ⟨f, hf, rfl, by simpa using h2⟩
  · rintro ⟨f, hf, rfl, h2⟩; exact ⟨⟨f, hf, rfl⟩, by simpa using h2⟩
theorem listDir_up (t : List Fil) (root : Int) (p : Bs) : Up (listDir t root p) := by
  unfold listDir; split
  · exact sortUp_up _
  · exact List.Pairwise.nil
theorem under_parent' {p : Bs} (h : vn p = true) : under p (parent p) = true := by
  have h1 := under_parent h
  unfold isUnder at h1
  simp only [Bool.and_eq_true] at h1
  exact h1.2
theorem split_parent {p : Bs} (h : vn p = true) : (if parent p = [] then [] else split (parent p)) ++ [last p] = split p := by
  have e : split p = (split p).dropLast ++ [last p] := (List.dropLast_concat_getLast (split_ne p)).symm
  by_cases h0 : parent p = []
  · rw [if_pos h0]
    have hvs := h
    by_cases hd : (split p).dropLast = []
    · rw [hd] at e; exact e.symm
    · exfalso
      have h2 : vps (split p).dropLast = true := vps_iff.2 ⟨⟨List.length_pos_iff.2 hd, by have := (vps_iff.1 h).1; simp; omega⟩, fun x hx => (vps_iff.1 h).2 x ((List.dropLast_sublist _).subset hx)⟩
      exact vn_ne (vn_join h2) h0
  · rw [if_neg h0]
    have h2 := parent_vps h h0
    have h3 := split_of_vps h2
    rw [show parent p = join (split p).dropLast from rfl, h3]
    exact e.symm
theorem firstBelow_parent {s p : Bs} (hs : vn s = true) (hp : vn p = true) (hu : under s p = true) : under s (parent p) = true ∧ s ≠ parent p ∧ firstBelow s (parent p) = last p := by
  have hpp := under_parent' hp
  have hvp := vpk_parent hp
  have h1 := under_trans hs hp hvp hu hpp
  have hpre := (under_iff hs hp).1 hu
  have hsp := split_parent hp
  have hne : s ≠ parent p := by
    rintro rfl
    have h0 : parent p ≠ [] := vn_ne hs
    rw [if_neg h0] at hsp
    have := hpre.length_le
    rw [← hsp] at this
    simp at this; omega
  refine ⟨h1, hne, ?_⟩
  have h2 := first_of hs hvp h1 hne
  rw [parts_of hs] at h2
  have hl : (parts (parent p)).length = (if parent p = [] then [] else split (parent p)).length := by
    by_cases h0 : parent p = []
    · rw [h0]; simp [parts, vn_nil]
    · rw [if_neg h0, parts_of (parent_vn hp h0)]
  rw [hl] at h2
  obtain ⟨r, hr⟩ := hpre
  rw [← hr, ← hsp, List.append_assoc, List.getElem?_append_right (Nat.le_refl _)] at h2
  simpa using h2.symm

/-- With a directory there is the one above it, which has it, and it is not empty. -/
theorem hasDir_facts {t : List Fil} {root : Int} {p : Bs} (h : hasDir t root p = true) (h0 : p ≠ []) :
    hasDir t root (parentOf p) = true ∧ lastOf p ++ [47] ∈ listDir t root (parentOf p) ∧ listDir t root p ≠ [] := by
  obtain ⟨hpl, hd⟩ := hasDir_of h
  obtain ⟨ht, hr, hv⟩ := placed_of hpl
  have hn := vn_of_vpk hv h0
  obtain ⟨f, hf, e1, e2, e3⟩ := dirIn_some hd h0
  have hfn := vn_of_vpk (okFil_pack (okTree_file ht hf)) e2
  obtain ⟨g1, g2, g3⟩ := firstBelow_parent hfn hn e3
  have ep : parentOf p = parent p := parentOf_of hn
  have el : lastOf p = last p := by unfold lastOf; rw [if_pos hn]
  rw [ep, el]
  have hpl2 : placed t root (parent p) = true := by unfold placed; simp [ht, hr, vpk_parent hn]
  refine ⟨by unfold hasDir; simp [hpl2, dirIn_of hf e1 e2 g1], (mem_listDir hpl2 _).2 ⟨f, hf, ?_, by simp⟩, fun hnil => ?_⟩
  · unfold entry
    have hne : f.pack.isEmpty = false := by simpa using e2
    rw [if_pos e1, if_neg g2, if_pos (by simp [hne, g1]), g3]
  · have hx : entry f root p ∈ listDir t root p := (mem_listDir hpl _).2 ⟨f, hf, rfl, by
      have hb : isBelow root p f = true := by
        rw [isBelow_dir (okTree_file ht hf) hv h0]
        have hne : f.pack.isEmpty = false := by simpa using e2
        simp [e1, hne, e3]
      rw [entry_below (okTree_file ht hf) hv, if_pos hb]
      exact entryAt_ne p (okTree_file ht hf)⟩
    rw [hnil] at hx; simp at hx
/-- Each file of a directory is in its listing. -/
theorem listDir_file {t : List Fil} {root : Int} {f : Fil} (ht : okTree t = true) (hr : inr root 0 2 = true) (hf : f ∈ t) (h1 : f.root = root) :
    (if f.init then [42] else f.name) ∈ listDir t root f.pack := by
  have hpl : placed t root f.pack = true := by unfold placed; simp [ht, hr, okFil_pack (okTree_file ht hf)]
  refine (mem_listDir hpl _).2 ⟨f, hf, ?_, ?_⟩
  · unfold entry; simp [h1]
  · split
    · simp
    · rename_i hi; exact okFil_name (okTree_file ht hf) (by simpa using hi)
theorem listDir_dir {t : List Fil} {root : Int} {p : Bs} (h : listDir t root p ≠ []) : hasDir t root p = true := by
  cases hpl : placed t root p
  · exact absurd (listDir_no hpl) h
  · obtain ⟨ht, hr, hv⟩ := placed_of hpl
    unfold hasDir
    rw [hpl, Bool.true_and]
    by_cases h0 : p = []
    · subst h0; exact dirIn_nil _ _
    · obtain ⟨x, hx⟩ := List.exists_mem_of_ne_nil _ h
      obtain ⟨f, hf, e, hne⟩ := (mem_listDir hpl x).1 hx
      unfold entry at e
      split at e
      · rename_i e1
        split at e
        · rename_i e2
          exact dirIn_of hf e1 (by rw [e2]; exact h0) (by rw [e2]; exact under_self)
        · split at e
          · rename_i e3
            simp only [Bool.and_eq_true, Bool.not_eq_true'] at e3
            exact dirIn_of hf e1 (by simpa using e3.1) e3.2
          · exact absurd e.symm hne
      · exact absurd e.symm hne

/-- Each package is the directory of some root, and the one above it is a package, too. -/
theorem packages_facts {t : List Fil} (ht : okTree t = true) {x : Bs} (hx : x ∈ packagesOf t) :
    vn x = true ∧ (∃ r : Int, (r = 0 ∨ r = 1 ∨ r = 2) ∧ hasDir t r x = true) ∧ (parentOf x ≠ [] → parentOf x ∈ packagesOf t) := by
  unfold packagesOf at hx ⊢
  rw [if_pos ht, sortUp_mem, mem_packs] at hx
  obtain ⟨f, hf, hp, ha⟩ := hx
  have hok := okTree_file ht hf
  have hfn := vn_of_vpk (okFil_pack hok) hp
  have hv := above_vn hfn x ha
  have hu := (mem_above hfn hv).1 ha
  refine ⟨hv, ⟨f.root, ?_, ?_⟩, fun h0 => ?_⟩
  · unfold okFil at hok; simp only [Bool.and_eq_true, inr, decide_eq_true_eq] at hok; omega
  · have hr : inr f.root 0 2 = true := by unfold okFil at hok; simp only [Bool.and_eq_true] at hok; exact hok.1.1.1.1
    unfold hasDir placed
    simp [ht, hr, vpk_iff.2 (.inr hv), dirIn_of hf rfl hp hu]
  · rw [if_pos ht, sortUp_mem, mem_packs]
    rw [parentOf_of hv] at h0 ⊢
    have hpv := parent_vn hv h0
    exact ⟨f, hf, hp, (mem_above hfn hpv).2 (under_trans hfn hv (vpk_parent hv) hu (under_parent' hv))⟩
theorem packagesOf_no {t : List Fil} (h : okTree t = false) : packagesOf t = [] := by rw [packagesOf, h]; rfl
end Go.Proofs.YtolhgklbkjdpiaaGreat.Nm
