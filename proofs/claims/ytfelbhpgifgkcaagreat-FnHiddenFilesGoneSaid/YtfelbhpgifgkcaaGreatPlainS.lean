/- Plain facts that promises 18, 32 and 36 say: which trees look the same. Nothing of the program stands here. -/
import Derived.Test.YtfelbhpgifgkcaaGreatPlainR
set_option linter.unusedVariables false
set_option linter.unusedSimpArgs false
namespace Go.Proofs.YtfelbhpgifgkcaaGreat.Nm

/-- P36. -/
theorem atPl_symm (t u : List Fil) (i j : Int) : atPl t u i j = atPl u t j i := by
  unfold atPl
  cases t[i.toNat]? <;> cases u[j.toNat]? <;> simp [eq_comm]
theorem sameSpc_symm (t u : List Fil) (a b : Spc) : sameSpc t u a b = sameSpc u t b a := by
  unfold sameSpc
  rw [atPl_symm t u a.file b.file, show decide (a.kind = b.kind) = decide (b.kind = a.kind) from decide_eq_decide.2 eq_comm, show decide (a.roots = b.roots) = decide (b.roots = a.roots) from decide_eq_decide.2 eq_comm]
  by_cases h1 : a.file < 0
  · by_cases h2 : b.file < 0
    · simp [h1, h2]
    · simp [h1, h2]; intros; omega
  · by_cases h2 : b.file < 0
    · simp [h1, h2]; intros; omega
    · rw [if_neg h1, if_neg h2, decide_eq_true (show 0 ≤ b.file by omega), decide_eq_true (show 0 ≤ a.file by omega)]
theorem sameLook_symm {t u : List Fil} {path : List Int} (h : sameLook' t u path = true) : sameLook' u t path = true := by
  unfold sameLook' at h ⊢
  simp only [Bool.and_eq_true, decide_eq_true_eq, List.all_eq_true] at h ⊢
  obtain ⟨⟨⟨h1, h2⟩, h3⟩, h4⟩ := h
  refine ⟨⟨⟨h2, h1⟩, h3.symm⟩, fun s hs => ?_⟩
  rw [← h3] at hs
  rw [sameSpc_symm]
  exact h4 s hs
theorem sameSpc_self {t : List Fil} {a : Spc} (h : SpcOk t a) : sameSpc t t a a = true := by
  have hf := h.file
  unfold sameSpc
  by_cases h1 : a.file < 0
  · simp [h1]
  · obtain ⟨k, hk⟩ := Int.eq_ofNat_of_zero_le (show 0 ≤ a.file by omega)
    have hl : k < t.length := by omega
    rw [if_neg h1, decide_eq_true (show 0 ≤ a.file by omega)]
    unfold atPl
    rw [hk, Int.toNat_natCast, List.getElem?_eq_getElem hl]
    simp
theorem sameLook_self {t : List Fil} {path : List Int} (h : okLook t path = true) : sameLook' t t path = true := by
  unfold sameLook'
  simp only [h, decide_true, Bool.and_self, Bool.true_and, List.all_eq_true]
  exact fun s _ => sameSpc_self (byParts_ok t path s)
theorem sameLook_of {t u : List Fil} {path : List Int} (h : sameLook' t u path = true) : okLook t path = true ∧ okLook u path = true ∧ foundNames t path = foundNames u path := by
  unfold sameLook' at h
  simp only [Bool.and_eq_true, decide_eq_true_eq] at h
  exact ⟨h.1.1.1, h.1.1.2, h.1.2⟩
/-- What is found is the same. -/
theorem sameLook_intro {t u : List Fil} {path : List Int} (ht : okLook t path = true) (hu : okLook u path = true) (h : ∀ s, vn s = true → sameSpc t u (byParts t path s) (byParts u path s) = true) : sameLook' t u path = true := by
  have hk : ∀ s, vn s = true → (byParts t path s).kind = (byParts u path s).kind := fun s hs => by
    have := h s hs
    unfold sameSpc at this
    simp only [Bool.and_eq_true, decide_eq_true_eq] at this
    exact this.1.1
  have hf : foundNames t path = foundNames u path := by
    refine up_ext (foundNames_up _ _) (foundNames_up _ _) (fun s => ?_)
    constructor
    · intro hs
      have hv := (foundNames_vn hs).2
      rw [mem_foundNames ht, hk s hv] at hs
      rwa [mem_foundNames hu]
    · intro hs
      have hv := (foundNames_vn hs).2
      rw [mem_foundNames hu, ← hk s hv] at hs
      rwa [mem_foundNames ht]
  unfold sameLook'
  rw [ht, hu, hf]
  simp only [decide_true, Bool.and_self, Bool.true_and, List.all_eq_true]
  exact fun s hs => h s (foundNames_vn hs).2

/-- P18: what is found hangs on the places alone. -/
theorem firstFrom_places : ∀ {t u : List Fil}, t.map place = u.map place → ∀ (p : Pl) (k : Nat), firstFrom t p k = firstFrom u p k
  | [], [], _, _, _ => rfl
  | [], _ :: _, h, _, _ => by simp at h
  | _ :: _, [], h, _, _ => by simp at h
  | f :: t, g :: u, h, p, k => by
    simp only [List.map_cons, List.cons.injEq] at h
    unfold firstFrom
    rw [h.1, firstFrom_places h.2]
theorem any_places {t u : List Fil} (h : t.map place = u.map place) (q : Pl → Bool) : t.any (fun f => q (place f)) = u.any (fun f => q (place f)) := by
  have := congrArg (fun l => l.any q) h
  simpa [List.any_map, Function.comp_def] using this
theorem dirIn_places {t u : List Fil} (h : t.map place = u.map place) (r : Int) (p : Bs) : dirIn t r p = dirIn u r p := by
  have := any_places h (fun x => decide (x.1 = r) && !x.2.1.isEmpty && under x.2.1 p)
  unfold dirIn
  exact congrArg (· || p.isEmpty) this
theorem rootSpc_places {t u : List Fil} (h : t.map place = u.map place) (r : Int) (n : Bs) : rootSpc t r n = rootSpc u r n := by
  unfold rootSpc firstAt
  rw [firstFrom_places h, firstFrom_places h, dirIn_places h]
theorem overGo_places {t u : List Fil} (h : t.map place = u.map place) (n : Bs) : ∀ rs ds, overGo t n rs ds = overGo u n rs ds
  | [], ds => rfl
  | r :: rs, ds => by
    unfold overGo
    rw [rootSpc_places h, overGo_places h n rs]
theorem byParts_places {t u : List Fil} (h : t.map place = u.map place) (path : List Int) (s : Bs) : byParts t path s = byParts u path s := by
  unfold byParts partsGo
  congr 1
  congr 1
  funext sp n
  exact overGo_places h n _ _
theorem atPl_places {t u : List Fil} (h : t.map place = u.map place) {k : Nat} (hk : k < t.length) : atPl t u k k = true := by
  have hl : t.length = u.length := by simpa using congrArg List.length h
  have hk' : k < u.length := by omega
  unfold atPl
  rw [Int.toNat_natCast, List.getElem?_eq_getElem hk, List.getElem?_eq_getElem hk']
  have := List.getElem_of_eq h (i := k) (by simpa using hk)
  simpa using this
theorem sameLook_places {t u : List Fil} {path : List Int} (h : t.map place = u.map place) (ht : okLook t path = true) (hu : okLook u path = true) : sameLook' t u path = true := by
  refine sameLook_intro ht hu (fun s _ => ?_)
  rw [← byParts_places h]
  have hf := (byParts_ok t path s).file
  generalize byParts t path s = a at *
  unfold sameSpc
  by_cases h1 : a.file < 0
  · simp [h1]
  · obtain ⟨k, hk⟩ := Int.eq_ofNat_of_zero_le (show 0 ≤ a.file by omega)
    rw [if_neg h1, decide_eq_true (show 0 ≤ a.file by omega), hk, atPl_places h (by omega)]
    simp

/-- P32: without a hidden file. -/
def Sim (t u : List Fil) (a b : Spc) : Prop := a.kind = b.kind ∧ a.roots = b.roots ∧ ((a.file = -1 ∧ b.file = -1) ∨ (0 ≤ a.file ∧ 0 ≤ b.file ∧ atPl t u a.file b.file = true))
theorem Sim.same {t u : List Fil} {a b : Spc} (h : Sim t u a b) : sameSpc t u a b = true := by
  obtain ⟨h1, h2, h3⟩ := h
  unfold sameSpc
  rcases h3 with ⟨h3, h4⟩ | ⟨h3, h4, h5⟩
  · simp [h1, h2, h3, h4]
  · rw [if_neg (by omega)]
    simp [h1, h2, h4, h5]
theorem firstAt_erase {t : List Fil} (hn : (t.map place).Nodup) {i : Nat} (hi : i < t.length) {p : Pl} (hp : p ≠ place t[i]) :
    (firstAt t p = -1 ∧ firstAt (t.eraseIdx i) p = -1) ∨ (0 ≤ firstAt t p ∧ 0 ≤ firstAt (t.eraseIdx i) p ∧ atPl t (t.eraseIdx i) (firstAt t p) (firstAt (t.eraseIdx i) p) = true ∧ firstAt t p ≠ i) := by
  have hmem : ∀ f, f ∈ t.eraseIdx i → f ∈ t := fun f hf => List.mem_of_mem_eraseIdx hf
  by_cases h1 : firstAt t p = -1
  · refine .inl ⟨h1, ?_⟩
    rw [firstAt_none] at h1 ⊢
    exact fun f hf => h1 f (hmem f hf)
  · right
    obtain ⟨f, hf, hfp⟩ := firstAt_at h1
    have h2 : firstAt (t.eraseIdx i) p ≠ -1 := by
      intro h2
      rw [firstAt_none] at h2
      have hft : f ∈ t := List.mem_of_getElem? hf
      refine h2 f ?_ hfp
      rw [← keep_ne t i hi hn, List.mem_filter]
      exact ⟨hft, by rw [hfp]; simpa using hp⟩
    obtain ⟨g, hg, hgp⟩ := firstAt_at h2
    have b1 := firstAt_ge t p
    have b2 := firstAt_ge (t.eraseIdx i) p
    refine ⟨by omega, by omega, ?_, ?_⟩
    · unfold atPl
      rw [hf, hg]
      simp [hfp, hgp]
    · intro e
      rw [e, Int.toNat_natCast, List.getElem?_eq_getElem hi] at hf
      have := Option.some.inj hf
      subst this
      exact hp hfp.symm
theorem dirIn_erase {t : List Fil} {i : Nat} (hi : i < t.length) (hok : okTree t = true) (hd : t[i].pack = [] ∨ dirIn (t.eraseIdx i) t[i].root t[i].pack = true) (r : Int) (p : Bs) (hp : vpk p = true) : dirIn (t.eraseIdx i) r p = dirIn t r p := by
  by_cases h0 : p = []
  · subst h0; rw [dirIn_nil, dirIn_nil]
  have hv := okFil_pack (okTree_file hok (List.getElem_mem hi))
  rw [Bool.eq_iff_iff]
  constructor
  · intro h
    obtain ⟨f, hf, h1, h2, h3⟩ := dirIn_some h h0
    exact dirIn_of (List.mem_of_mem_eraseIdx hf) h1 h2 h3
  · intro h
    obtain ⟨f, hf, h1, h2, h3⟩ := dirIn_some h h0
    obtain ⟨k, hk, rfl⟩ := List.getElem_of_mem hf
    by_cases e : k = i
    · subst e
      rcases hd with hd | hd
      · exact absurd hd h2
      · obtain ⟨g, hg, g1, g2, g3⟩ := dirIn_some hd h2
        refine dirIn_of hg (g1.trans h1) g2 ?_
        have hgv := okFil_pack (okTree_file hok (List.mem_of_mem_eraseIdx hg))
        exact under_trans (vn_of_vpk hgv g2) (vn_of_vpk hv h2) hp g3 h3
    · refine dirIn_of ?_ h1 h2 h3
      rw [List.mem_eraseIdx_iff_getElem]
      exact ⟨k, hk, e, rfl⟩
theorem rootSpc_erase {t : List Fil} {i : Nat} (hi : i < t.length) (hok : okTree t = true) (hd : t[i].pack = [] ∨ dirIn (t.eraseIdx i) t[i].root t[i].pack = true) {r : Int} {n : Bs} (hv : vn n = true) (hf : (rootSpc t r n).file ≠ i) :
    Sim t (t.eraseIdx i) (rootSpc t r n) (rootSpc (t.eraseIdx i) r n) := by
  have hn := (okTree_all hok).2.1
  have hdi := dirIn_erase hi hok hd r n (by unfold vpk; simp [hv])
  have hyes : ∀ p, p = place t[i] → firstAt t p = i := fun p e => by
    refine firstAt_yes t i hi p (fun j hj hji => ?_) e.symm
    rw [e]
    intro e2
    have := List.pairwise_iff_getElem.1 hn j i (by simpa using hj) (by simpa using hi) hji
    exact this (by simpa using e2)
  by_cases e1 : (r, n, ([] : Bs), true) = place t[i]
  · exfalso
    have := hyes _ e1
    unfold rootSpc at hf
    rw [this, if_pos (by omega)] at hf
    exact hf rfl
  · rcases firstAt_erase hn hi e1 with ⟨a1, a2⟩ | ⟨a1, a2, a3, a4⟩
    · by_cases e2 : (r, parent n, last n, false) = place t[i]
      · exfalso
        have := hyes _ e2
        unfold rootSpc at hf
        rw [if_neg (by omega), this, if_pos (by omega)] at hf
        exact hf rfl
      · rcases firstAt_erase hn hi e2 with ⟨b1, b2⟩ | ⟨b1, b2, b3, b4⟩
        · have ht : rootSpc t r n = if dirIn t r n then ⟨3, -1, [r]⟩ else noSpc := by unfold rootSpc; rw [if_neg (by omega), if_neg (by omega)]
          have hu : rootSpc (t.eraseIdx i) r n = if dirIn t r n then ⟨3, -1, [r]⟩ else noSpc := by unfold rootSpc; rw [if_neg (by omega), if_neg (by omega), hdi]
          rw [ht, hu]
          split
          · exact ⟨rfl, rfl, .inl ⟨rfl, rfl⟩⟩
          · exact ⟨rfl, rfl, .inl ⟨rfl, rfl⟩⟩
        · have ht : rootSpc t r n = ⟨1, firstAt t (r, parent n, last n, false), []⟩ := by unfold rootSpc; rw [if_neg (by omega), if_pos (by omega)]
          have hu : rootSpc (t.eraseIdx i) r n = ⟨1, firstAt (t.eraseIdx i) (r, parent n, last n, false), []⟩ := by unfold rootSpc; rw [if_neg (by omega), if_pos (by omega)]
          rw [ht, hu]
          exact ⟨rfl, rfl, .inr ⟨b1, b2, b3⟩⟩
    · unfold rootSpc
      rw [if_pos a1, if_pos a2]
      exact ⟨rfl, rfl, .inr ⟨a1, a2, a3⟩⟩
theorem overGo_erase {t : List Fil} {i : Nat} (hi : i < t.length) (hok : okTree t = true) (hd : t[i].pack = [] ∨ dirIn (t.eraseIdx i) t[i].root t[i].pack = true) {n : Bs} (hv : vn n = true) : ∀ (rs ds : List Int), (overGo t n rs ds).file ≠ i →
    Sim t (t.eraseIdx i) (overGo t n rs ds) (overGo (t.eraseIdx i) n rs ds)
  | [], ds, hf => by
    unfold overGo
    split
    · exact ⟨rfl, rfl, .inl ⟨rfl, rfl⟩⟩
    · exact ⟨rfl, rfl, .inl ⟨rfl, rfl⟩⟩
  | r :: rs, ds, hf => by
    unfold overGo at hf ⊢
    by_cases h1 : (rootSpc t r n).file = -1
    · rw [if_pos h1] at hf ⊢
      obtain ⟨s1, s2, s3⟩ := rootSpc_erase hi hok hd hv (r := r) (by omega)
      have h2 : (rootSpc (t.eraseIdx i) r n).file = -1 := by omega
      rw [if_pos h2, ← s2]
      exact overGo_erase hi hok hd hv rs _ hf
    · rw [if_neg h1] at hf ⊢
      have hs := rootSpc_erase hi hok hd hv hf
      have h2 : (rootSpc (t.eraseIdx i) r n).file ≠ -1 := by
        have := hs.2.2
        omega
      rw [if_neg h2]
      exact hs
theorem hidden_gone {t : List Fil} {path : List Int} {i : Nat} (hl : okLook t path = true) (hi : i < t.length) (hh : (i : Int) ∈ hidden t path) (hd : t[i].pack = [] ∨ dirIn (t.eraseIdx i) t[i].root t[i].pack = true) : sameLook' t (t.eraseIdx i) path = true := by
  have hok := okLook_tree hl
  have hu : okLook (t.eraseIdx i) path = true := okLook_of (okTree_erase hok i) (okLook_path hl)
  rw [mem_hidden hl i hi] at hh
  have hno : ∀ s, vn s = true → (byParts t path s).file ≠ i := fun s hs e => by
    have hfs : findSpec t path s = byParts t path s := by unfold findSpec; rw [if_pos hl]
    obtain ⟨f, h1, h2, _⟩ := findSpec_file (t := t) (path := path) (s := s) (by rw [hfs]; omega)
    rw [hfs, e, Int.toNat_natCast, List.getElem?_eq_getElem hi] at h1
    have := Option.some.inj h1
    subst this
    rw [foundFor_eq hl (List.getElem_mem hi), h2, hfs] at hh
    exact hh e
  refine sameLook_intro hl hu (fun s hs => Sim.same ?_)
  have key : ∀ (n : Nat) (s : Bs), s.length ≤ n → vn s = true → Sim t (t.eraseIdx i) (byParts t path s) (byParts (t.eraseIdx i) path s) := by
    intro n
    induction n with
    | zero => intro s h hv; exact absurd (List.eq_nil_of_length_eq_zero (by omega)) (vn_ne hv)
    | succ n ih =>
      intro s h hv
      have h3 := hno s hv
      have h4 := byParts_step (t := t.eraseIdx i) (path := path) hv
      rw [byParts_step hv] at h3 ⊢
      rw [h4]
      by_cases h0 : parent s = []
      · rw [if_pos h0] at h3
        rw [if_pos h0, if_pos h0]
        exact overGo_erase hi hok hd hv _ _ h3
      · rw [if_neg h0] at h3
        rw [if_neg h0, if_neg h0]
        have hlt : (parent s).length < s.length := by
          have e := congrArg List.length (child_parent_last s hv)
          unfold child at e
          rw [if_neg (by simpa using h0)] at e
          simp at e
          omega
        have := ih (parent s) (by omega) (parent_vn hv h0)
        rw [← this.2.1]
        exact overGo_erase hi hok hd hv _ _ h3
  exact key s.length s (Nat.le_refl _) hs
end Go.Proofs.YtfelbhpgifgkcaaGreat.Nm
