/- Plain facts that the promises on finders say. -/
import Derived.Test.YtolhgklbkjdpiaaGreatPlainP
import Derived.Test.YtolhgklbkjdpiaaGreatPlainG
set_option linter.unusedVariables false
set_option linter.unusedSimpArgs false
namespace Go.Proofs.YtolhgklbkjdpiaaGreat.Nm

theorem okPath_sub {p q : List Int} (h : okPath p = true) (hs : q.Sublist p) : okPath q = true := by
  unfold okPath at h ⊢
  simp only [Bool.and_eq_true, decide_eq_true_eq, List.all_eq_true] at h ⊢
  exact ⟨fun r hr => h.1 r (hs.subset hr), hs.nodup h.2⟩
theorem okPath_erase {p : List Int} (h : okPath p = true) (i : Nat) : okPath (p.eraseIdx i) = true := okPath_sub h (List.eraseIdx_sublist p i)
theorem okLook_sub {t : List Fil} {p q : List Int} (h : okLook t p = true) (hs : q.Sublist p) : okLook t q = true := by
  unfold okLook; rw [okPath_sub (okLook_path h) hs, okLook_tree h]; rfl
theorem okLook_of {t : List Fil} {p : List Int} (h1 : okTree t = true) (h2 : okPath p = true) : okLook t p = true := by unfold okLook; simp [h1, h2]

/-- Either a root ahead has a file, or the roots with directories are collected. -/
theorem overGo_cases (t : List Fil) (n : Bs) : ∀ (rs ds : List Int),
    ((∀ r ∈ rs, (rootSpc t r n).file = -1) ∧ overGo t n rs ds = (if ds ++ rs.flatMap (fun r => (rootSpc t r n).roots) = [] then noSpc else ⟨3, -1, ds ++ rs.flatMap (fun r => (rootSpc t r n).roots)⟩)) ∨
    ∃ a r b, rs = a ++ r :: b ∧ (∀ x ∈ a, (rootSpc t x n).file = -1) ∧ (rootSpc t r n).file ≠ -1 ∧ overGo t n rs ds = rootSpc t r n
  | [], ds => by left; simp [overGo]
  | r :: rs, ds => by
    by_cases h : (rootSpc t r n).file = -1
    · have e : overGo t n (r :: rs) ds = overGo t n rs (ds ++ (rootSpc t r n).roots) := by
        show (if (rootSpc t r n).file = -1 then _ else _) = _; rw [if_pos h]
      rcases overGo_cases t n rs (ds ++ (rootSpc t r n).roots) with ⟨h1, h2⟩ | ⟨a, x, b, h1, h2, h3, h4⟩
      · left
        refine ⟨fun y hy => ?_, ?_⟩
        · rcases List.mem_cons.1 hy with rfl | hy
          · exact h
          · exact h1 y hy
        · rw [e, h2, List.flatMap_cons, List.append_assoc]
      · right
        refine ⟨r :: a, x, b, by rw [h1]; rfl, fun y hy => ?_, h3, by rw [e, h4]⟩
        rcases List.mem_cons.1 hy with rfl | hy
        · exact h
        · exact h2 y hy
    · right
      refine ⟨[], r, rs, rfl, by simp, h, ?_⟩
      show (if (rootSpc t r n).file = -1 then _ else _) = _; rw [if_neg h]
theorem overGo_none {t : List Fil} {n : Bs} : ∀ {rs : List Int} (ds : List Int), (∀ r ∈ rs, (rootSpc t r n).file = -1) → (overGo t n rs ds).file = -1
  | [], ds, _ => by
    unfold overGo; split <;> rfl
  | r :: rs, ds, h => by
    have e : overGo t n (r :: rs) ds = overGo t n rs (ds ++ (rootSpc t r n).roots) := by
      show (if (rootSpc t r n).file = -1 then _ else _) = _; rw [if_pos (h r (by simp))]
    rw [e]; exact overGo_none _ (fun x hx => h x (by simp [hx]))
theorem overGo_hit {t : List Fil} {n : Bs} {r : Int} (hr : (rootSpc t r n).file ≠ -1) : ∀ {a : List Int} (b ds : List Int), (∀ x ∈ a, (rootSpc t x n).file = -1) → overGo t n (a ++ r :: b) ds = rootSpc t r n
  | [], b, ds, _ => by show (if (rootSpc t r n).file = -1 then _ else _) = _; rw [if_neg hr]
  | x :: a, b, ds, h => by
    show (if (rootSpc t x n).file = -1 then _ else _) = _
    rw [if_pos (h x (by simp))]
    exact overGo_hit hr b _ (fun y hy => h y (by simp [hy]))

/-- What one root has, by its file. -/
theorem rootSpc_hit {t : List Fil} {r : Int} {n : Bs} (hn : vn n = true) (h : (rootSpc t r n).file ≠ -1) :
    ∃ f, t[((rootSpc t r n).file).toNat]? = some f ∧ f.root = r ∧ modName f = n ∧ (f.init = true ↔ (rootSpc t r n).kind = 2) := by
  unfold rootSpc at h ⊢
  split
  · rename_i h1
    obtain ⟨f, h2, h3⟩ := firstAt_at (t := t) (p := (r, n, [], true)) (by omega)
    simp only [place, Prod.mk.injEq] at h3
    exact ⟨f, h2, h3.1, by unfold modName; simp [h3], by simp [h3]⟩
  · rename_i h0
    rw [if_neg h0] at h
    split
    · rename_i h1
      obtain ⟨f, h2, h3⟩ := firstAt_at (t := t) (p := (r, parent n, last n, false)) (by omega)
      simp only [place, Prod.mk.injEq] at h3
      exact ⟨f, h2, h3.1, by unfold modName; simp [h3, child_parent_last n hn], by simp [h3]⟩
    · rename_i h1
      rw [if_neg h1] at h
      split at h <;> exact absurd rfl h

theorem rootSpc_roots {t : List Fil} {r : Int} {n : Bs} : (rootSpc t r n).roots = [] ∨ (rootSpc t r n).roots = [r] := by
  unfold rootSpc
  split
  · exact .inr rfl
  · split
    · exact .inl rfl
    · split
      · exact .inr rfl
      · exact .inl rfl
theorem flatRoots (t : List Fil) (n : Bs) : ∀ rs : List Int, (rs.flatMap (fun r => (rootSpc t r n).roots)).Sublist rs
  | [] => by simp
  | x :: l => by
    rw [List.flatMap_cons]
    rcases rootSpc_roots (t := t) (r := x) (n := n) with e | e
    · rw [e]; exact List.Sublist.cons x (flatRoots t n l)
    · rw [e]; exact List.Sublist.cons_cons x (flatRoots t n l)
theorem ovRoots {t : List Fil} {n : Bs} {rs : List Int} : ∀ ds, (overGo t n rs ds).roots.Sublist (ds ++ rs) := by
  intro ds
  rcases overGo_cases t n rs ds with ⟨_, h⟩ | ⟨a, r, b, rfl, _, _, h⟩
  · rw [h]
    split
    · exact List.nil_sublist _
    · exact List.Sublist.append (List.Sublist.refl ds) (flatRoots t n rs)
  · rw [h]
    rcases rootSpc_roots (t := t) (r := r) (n := n) with e | e
    · rw [e]; exact List.nil_sublist _
    · rw [e]; exact List.singleton_sublist.2 (by simp)
theorem overSpc_roots (t : List Fil) (n : Bs) (rs : List Int) : (overSpc t rs n).roots.Sublist rs := ovRoots []
theorem partsGo_roots (t : List Fil) : ∀ (ns : List Bs) (sp : Spc), (partsGo t ns sp).roots.Sublist sp.roots
  | [], sp => List.Sublist.refl _
  | n :: r, sp => by
    unfold partsGo; rw [List.foldl_cons]
    exact (partsGo_roots t r _).trans (overSpc_roots t n sp.roots)
theorem byParts_roots (t : List Fil) (path : List Int) (s : Bs) : (byParts t path s).roots.Sublist path := by
  unfold byParts; split
  · exact partsGo_roots t _ _
  · exact List.nil_sublist _

theorem overSpc_hit {t : List Fil} {n : Bs} {rs : List Int} (hn : vn n = true) (h : (overSpc t rs n).file ≠ -1) :
    ∃ a r b f, rs = a ++ r :: b ∧ (∀ x ∈ a, (rootSpc t x n).file = -1) ∧ overSpc t rs n = rootSpc t r n ∧ t[((overSpc t rs n).file).toNat]? = some f ∧ f.root = r ∧ modName f = n ∧ (f.init = true ↔ (overSpc t rs n).kind = 2) := by
  rcases overGo_cases t n rs [] with ⟨h1, h2⟩ | ⟨a, r, b, h1, h2, h3, h4⟩
  · exact absurd (overGo_none [] h1) h
  · obtain ⟨f, g1, g2, g3, g4⟩ := rootSpc_hit hn h3
    have e : overSpc t rs n = rootSpc t r n := h4
    exact ⟨a, r, b, f, h1, h2, e, by rw [e]; exact g1, g2, g3, by rw [e]; exact g4⟩

/-- P25. -/
theorem findIn_facts {t : List Fil} {path : List Int} {p s : Bs} (h : (findIn t path p s).file ≠ -1) :
    ∃ a r b f, path = a ++ r :: b ∧ r ∉ a ∧ t[((findIn t path p s).file).toNat]? = some f ∧ f.root = r ∧ modOf f = childOf p s ∧
      (findIn t a p s).file = -1 ∧ findIn t (a ++ [r]) p s = findIn t path p s := by
  cases hc : okLook t path && !(childOf p s).isEmpty
  · have e0 : findIn t path p s = noSpc := by unfold findIn; rw [hc]; rfl
    rw [e0] at h; exact absurd rfl h
  · have ec : findIn t path p s = overSpc t path (childOf p s) := by unfold findIn; rw [hc]; rfl
    rw [ec] at h ⊢
    simp only [Bool.and_eq_true, Bool.not_eq_true'] at hc
    have hne : childOf p s ≠ [] := by simpa using hc.2
    have hn := (parent_childOf hne).2.2
    obtain ⟨a, r, b, f, h1, h2, h3, h4, h5, h6, h7⟩ := overSpc_hit hn h
    have hf := List.mem_of_getElem? h4
    have hok := okTree_file (okLook_tree hc.1) hf
    have hnd : (a ++ r :: b).Nodup := by
      have := okLook_path hc.1
      unfold okPath at this
      simp only [Bool.and_eq_true, decide_eq_true_eq] at this
      rw [← h1]; exact this.2
    have hra : r ∉ a := fun hm => (List.nodup_append.1 hnd).2.2 r hm r (by simp) rfl
    have hroot : (rootSpc t r (childOf p s)).file ≠ -1 := by rw [← h3]; exact h
    refine ⟨a, r, b, f, h1, hra, h4, h5, by unfold modOf; rw [if_pos hok]; exact h6, ?_, ?_⟩
    · unfold findIn; split
      · exact overGo_none [] h2
      · rfl
    · have hl : okLook t (a ++ [r]) = true := okLook_sub hc.1 (by rw [h1]; exact List.Sublist.append (List.Sublist.refl _) (List.singleton_sublist.2 (by simp)))
      unfold findIn
      rw [hl, hc.2]
      simp only [Bool.not_false, Bool.and_self, if_true]
      rw [h3]
      exact overGo_hit hroot [] [] h2

/-- P26. -/
theorem findIn_space {t : List Fil} {path : List Int} {p s : Bs} (h : (findIn t path p s).kind = 3) :
    (findIn t path p s).file = -1 ∧ (findIn t path p s).roots = path.filter (fun r => hasDir t r (childOf p s)) ∧ ∀ r ∈ path, (findIn t [r] p s).file = -1 := by
  cases hc : okLook t path && !(childOf p s).isEmpty
  · have e0 : findIn t path p s = noSpc := by unfold findIn; rw [hc]; rfl
    rw [e0] at h; exact absurd h (by decide)
  · have ec : findIn t path p s = overSpc t path (childOf p s) := by unfold findIn; rw [hc]; rfl
    rw [ec] at h ⊢
    simp only [Bool.and_eq_true, Bool.not_eq_true'] at hc
    have hne : childOf p s ≠ [] := by simpa using hc.2
    have hn := (parent_childOf hne).2.2
    rcases overGo_cases t (childOf p s) path [] with ⟨h1, h2⟩ | ⟨a, r, b, h1, h2, h3, h4⟩
    · have hroots : ∀ r ∈ path, (rootSpc t r (childOf p s)).roots = if hasDir t r (childOf p s) then [r] else [] := fun r hr => by
        have hin : inr r 0 2 = true := by
          have := okLook_path hc.1
          unfold okPath at this
          simp only [Bool.and_eq_true, List.all_eq_true] at this
          exact this.1 r hr
        have hd : hasDir t r (childOf p s) = dirIn t r (childOf p s) := by
          unfold hasDir placed
          simp [okLook_tree hc.1, hin, vpk_iff.2 (.inr hn)]
        rw [hd]
        have hf := h1 r hr
        unfold rootSpc at hf ⊢
        split
        · rename_i g; rw [if_pos g] at hf; simp at hf; omega
        · rename_i g; rw [if_neg g] at hf
          split
          · rename_i g; rw [if_pos g] at hf; simp at hf; omega
          · rename_i g; rw [if_neg g] at hf
            split <;> simp_all [noSpc]
      have hfl : path.flatMap (fun r => (rootSpc t r (childOf p s)).roots) = path.filter (fun r => hasDir t r (childOf p s)) := by
        clear h1 h2 ec h
        have gen : ∀ l : List Int, (∀ r ∈ l, r ∈ path) → l.flatMap (fun r => (rootSpc t r (childOf p s)).roots) = l.filter (fun r => hasDir t r (childOf p s)) := by
          intro l
          induction l with
          | nil => intro _; rfl
          | cons x m ih =>
            intro hl
            rw [List.flatMap_cons, hroots x (hl x (by simp)), ih (fun r hr => hl r (by simp [hr])), List.filter_cons]
            cases hasDir t x (childOf p s) <;> simp
        exact gen path (fun r hr => hr)
      have e : overSpc t path (childOf p s) = _ := h2
      rw [List.nil_append, hfl] at e
      split at e
      · rw [e] at h; exact absurd h (by decide)
      · refine ⟨by rw [e], by rw [e], fun r hr => ?_⟩
        unfold findIn; split
        · exact overGo_none [] (fun x hx => by simp at hx; subst hx; exact h1 x hr)
        · rfl
    · have e : overSpc t path (childOf p s) = _ := h4
      rw [e] at h
      exfalso
      rcases rootSpc_ok t r (childOf p s) with g | g | g | g
      · rw [g] at h; exact absurd h (by decide)
      · omega
      · omega
      · exact h3 g.2.1

/-- P27. -/
theorem findSpec_step {t : List Fil} {path : List Int} {s : Bs} (hl : okLook t path = true) (hv : vn s = true) :
    (parentOf s = [] → findSpec t path s = findIn t path [] s) ∧
    (parentOf s ≠ [] → ((findSpec t path (parentOf s)).kind = 0 ∨ (findSpec t path (parentOf s)).kind = 1 → (findSpec t path s).kind = 0) ∧
      (¬ ((findSpec t path (parentOf s)).kind = 0 ∨ (findSpec t path (parentOf s)).kind = 1) → findSpec t path s = findIn t (findSpec t path (parentOf s)).roots (parentOf s) (lastOf s))) := by
  have ep := parentOf_of hv
  have el : lastOf s = last s := by unfold lastOf; rw [if_pos hv]
  have hs := byParts_step (t := t) (path := path) hv
  have f1 : ∀ x, findSpec t path x = byParts t path x := fun x => by unfold findSpec; rw [if_pos hl]
  have hcl := child_parent_last s hv
  have hco : childOf (parent s) (last s) = s := by
    have := (name_facts hv).2.1
    exact this
  rw [ep, el]
  simp only [f1]
  constructor
  · intro h0
    rw [hs, if_pos h0]
    rw [h0] at hco
    have : childOf [] s = s := by
      have : last s = s := by rw [h0] at hcl; simpa [child] using hcl
      rw [this] at hco; exact hco
    unfold findIn
    rw [hl, this]
    have : s.isEmpty = false := by simpa using vn_ne hv
    rw [this]; rfl
  · intro h0
    rw [if_neg h0] at hs
    have hok := byParts_ok t path (parent s)
    constructor
    · intro hk
      have : (byParts t path (parent s)).roots = [] := hok.roots (by omega) (by omega)
      rw [hs, this, overSpc_nil]; rfl
    · intro hk
      rw [hs]
      unfold findIn
      have hl2 : okLook t (byParts t path (parent s)).roots = true := okLook_sub hl (byParts_roots t path _)
      rw [hl2, hco]
      have : s.isEmpty = false := by simpa using vn_ne hv
      rw [this]; rfl

/-- P28. -/
theorem findSpec_file {t : List Fil} {path : List Int} {s : Bs} (h : (findSpec t path s).file ≠ -1) :
    ∃ f, t[((findSpec t path s).file).toNat]? = some f ∧ modOf f = s ∧ f.root ∈ path ∧ (f.init = true ↔ (findSpec t path s).kind = 2) := by
  have hk : (findSpec t path s).kind ≠ 0 := fun e => by rw [(findSpec_ok t path s).none e] at h; exact h rfl
  obtain ⟨hl, hv⟩ := findSpec_vn hk
  have f1 : findSpec t path s = byParts t path s := by unfold findSpec; rw [if_pos hl]
  have hs := byParts_step (t := t) (path := path) hv
  rw [f1] at h ⊢
  have hsub : (if parent s = [] then path else (byParts t path (parent s)).roots).Sublist path := by
    split
    · exact List.Sublist.refl _
    · exact byParts_roots t path _
  rw [hs] at h ⊢
  obtain ⟨a, r, b, f, h1, h2, h3, h4, h5, h6, h7⟩ := overSpc_hit hv h
  have hok := okTree_file (okLook_tree hl) (List.mem_of_getElem? h4)
  refine ⟨f, h4, by unfold modOf; rw [if_pos hok]; exact h6, ?_, h7⟩
  rw [h5]
  exact hsub.subset (by rw [h1]; simp)

theorem canFind_iff {t : List Fil} {path : List Int} {s : Bs} (hl : okLook t path = true) : canFind t path s = decide ((byParts t path s).kind ≠ 0) := by
  unfold canFind findSpec; rw [if_pos hl]
/-- P29. -/
theorem canFind_parent {t : List Fil} {path : List Int} {s : Bs} (h : canFind t path s = true) (h0 : parentOf s ≠ []) : canFind t path (parentOf s) = true ∧ isPack t path (parentOf s) = true := by
  have hk : (findSpec t path s).kind ≠ 0 := by unfold canFind at h; simpa using h
  obtain ⟨hl, hv⟩ := findSpec_vn hk
  rw [canFind_iff hl] at h
  simp only [decide_eq_true_eq] at h
  have ep := parentOf_of hv
  rw [ep] at h0 ⊢
  rw [byParts_step hv, if_neg h0] at h
  have hr : (byParts t path (parent s)).roots ≠ [] := fun e => by rw [e, overSpc_nil] at h; exact h rfl
  have hp := isPack_of hl hr
  refine ⟨?_, hp⟩
  rw [canFind_iff hl]
  simp only [decide_eq_true_eq]
  intro e
  rw [(byParts_ok t path (parent s)).none e] at hr
  exact hr rfl
theorem canFind_above {t : List Fil} {path : List Int} {s : Bs} (h : canFind t path s = true) : ∀ (d : Nat) (i : Nat) (hi : i < (namesAbove s).length), i + d + 1 = (namesAbove s).length →
    canFind t path (namesAbove s)[i] = true ∧ (0 < d → isPack t path (namesAbove s)[i] = true) := by
  have hk : (findSpec t path s).kind ≠ 0 := by unfold canFind at h; simpa using h
  have hv := (findSpec_vn hk).2
  have e : namesAbove s = above s := by unfold namesAbove; rw [if_pos hv]
  simp only [e]
  intro d
  induction d with
  | zero =>
    intro i hi hd
    have := above_last s (by omega)
    have h2 : (above s)[i] = s := by
      have : i = (above s).length - 1 := by omega
      subst this; exact above_last s _
    rw [h2]
    exact ⟨h, fun hh => absurd hh (by omega)⟩
  | succ d ih =>
    intro i hi hd
    obtain ⟨h1, _⟩ := ih (i + 1) (by omega) (by omega)
    have hp := above_parent hv (i + 1) (by omega) (by omega)
    simp only [Nat.add_sub_cancel] at hp
    have hne : (above s)[i] ≠ [] := vn_ne (above_vn hv _ (List.getElem_mem hi))
    have := canFind_parent h1 (by rw [hp]; exact hne)
    rw [hp] at this
    exact ⟨this.1, fun _ => this.2⟩
end Go.Proofs.YtolhgklbkjdpiaaGreat.Nm
