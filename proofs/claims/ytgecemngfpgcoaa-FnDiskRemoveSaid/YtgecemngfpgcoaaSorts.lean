/- Contracts of what makes lists of texts ascending. -/
import Derived.Test.YtgecemngfpgcoaaVp
import Derived.Test.YtgecemngfpgcoaaTreeMem
import Derived.Test.YtgecemngfpgcoaaPlainT
import Derived.Test.YtgecemngfpgcoaaShelf
import Derived.Sort.OwnSorted
import Derived.Lib.OwnBridge
set_option linter.unusedVariables false
set_option linter.unusedSimpArgs false
namespace Go.Proofs.Ytgecemngfpgcoaa
open Go.RowKit Go.Sort Go.Proofs.Ytgecemngfpgcoaa.Nm

theorem sv_enc (l : List Bs) : l.map sv = l.map encStr := rfl

/-- An ascending list of the call's own. -/
def UpStrs (N : Nat) (T : TypeId) (xs : List Bs) (w : World) (e : Ending) (w' : World) : Prop :=
  ∃ v, e = .returned v ∧ w'.ownsRow N T 1 v xs.length (xs.map sv) ∧ Below N w w'

theorem one_new {w : World} {x : Value} {t : TypeId} {b : Nat} (hb : b = w.heap.size) : ∀ j u, [x][j]? = some u → (w.alloc (.cells #[x] t)).cell? ((⟨b, 0, none⟩ : Addr).add j) = some u := by subst hb; exact cell_one_new w x t

def TextAtS (xs : List Bs) (s : Bs) (w : World) (e : Ending) (w' : World) : Prop :=
  ∃ j : Int, e = .returned (.int .i64 j) ∧ ((0 ≤ j ∧ s ∈ xs) ∨ (j < 0 ∧ s ∉ xs)) ∧ -1 ≤ j ∧ j ≤ 10000000 ∧ w = w'

set_option maxRecDepth 100000 in
set_option maxHeartbeats 400000 in
theorem spec_textAt (v : Value) (xs : List Bs) (s : Bs) (w : World) (hr : Reads w v xs) (hx : xs.length ≤ 9500000) :
    Calls Try.prog 160 #[v, .string (mk s)] w (TextAtS xs s w) := by
  obtain ⟨aa, ca, rfl⟩ : ∃ a c, v = .slice a xs.length c := by
    rcases hr with ⟨rfl, rfl⟩ | ⟨b, off, cap, rfl, _⟩ <;> exact ⟨_, _, rfl⟩
  have Hr := Lib.hid hr
  clear hr
  go_enter Try.func160, Try.ntmps160
  go_wp2_with fail
  go_loop [5] (fun kv => ∃ k : Nat, k ≤ xs.length ∧ kv = .int .i64 k ∧ ∀ i (h : i < xs.length), i < k → xs[i] ≠ s) (fun kv => xs.length - (intOf kv).toNat)
  case atStart => exact ⟨0, by omega, rfl, fun i _ h => absurd h (by omega)⟩
  case round =>
    obtain ⟨k, hk, rfl, ha⟩ := hrel
    have Ha := Lib.hid ha
    clear ha
    by_cases hlt : k < xs.length
    · obtain ⟨b1, o1, c1, e1, hl1, hm1, hb1, hc1⟩ := Reads.some Hr.out (by omega)
      simp only [Value.slice.injEq] at e1
      obtain ⟨rfl, _, rfl⟩ := e1
      have hcell := hc1 k hlt
      clear hc1
      by_cases heq : xs[k] = s
      · have Hm := Lib.hid (show s ∈ xs by rw [← heq]; exact List.getElem_mem hlt)
        rw [heq] at hcell
        clear heq
        go_wp2_with fail
        go_ret
        exact ⟨k, rfl, .inl ⟨by omega, Hm.out⟩, by omega, by omega, rfl⟩
      · have hne : (xs[k] == s) = false := by simpa using heq
        have Heq := Lib.hid heq
        clear heq
        go_wp2_with fail
        go_round
        case rel =>
          refine ⟨k + 1, by omega, by go_num, fun i h hi => ?_⟩
          by_cases e : i = k
          · subst e; exact Heq.out
          · exact Ha.out i h (by omega)
        case measure => simp [intOf]; omega
    · have Hm := Lib.hid (show s ∉ xs from fun hm => by
        obtain ⟨i, hi, e⟩ := List.getElem_of_mem hm
        exact Ha.out i hi (by omega) e)
      go_wp2_with fail
      go_ret
      exact ⟨-1, rfl, .inr ⟨by omega, Hm.out⟩, by omega, by omega, rfl⟩

set_option maxRecDepth 100000 in
set_option maxHeartbeats 400000 in
theorem spec_hasText (v : Value) (xs : List Bs) (s : Bs) (w : World) (hr : Reads w v xs) (hx : xs.length ≤ 9500000) :
    Calls Try.prog 157 #[v, .string (mk s)] w fun e w' => e = .returned (.bool (decide (s ∈ xs))) ∧ w = w' := by
  go_enter Try.func157, Try.ntmps157
  go_wp2_with fail
  refine (spec_textAt v xs s w hr hx).mono ?_
  rintro e w1 ⟨j, rfl, hj, hj1, hj2, rfl⟩
  rcases hj with ⟨h1, h2⟩ | ⟨h1, h2⟩
  · have H2 := Lib.hid (decide_eq_true h2)
    clear h2
    go_wp2_with fail
    go_ret
    rw [H2.out]
    exact ⟨ret_bool (by simp; try omega), rfl⟩
  · have H2 := Lib.hid (decide_eq_false h2)
    clear h2
    go_wp2_with fail
    go_ret
    rw [H2.out]
    exact ⟨ret_bool (by simp; try omega), rfl⟩

theorem own_front {w : World} {N e g n cap : Nat} {xs : List Value} (h : w.ownsRow N e 1 (.slice (some ⟨g, 0, none⟩) n cap) n xs) (i : Nat) (hi : i ≤ n) : w.ownsRow N e 1 (.slice (some ⟨g, 0, none⟩) i cap) i (xs.take i) := by
  refine ⟨by rw [List.length_take, h.1]; omega, ?_⟩
  rcases h.2 with ⟨h1, _⟩ | ⟨g', cap', cur, h1, h2, h3, h4, h5, h6, h7⟩
  · cases h1
  · cases h1
    refine .inr ⟨g, cap, cur, rfl, h2, h3, by omega, h5, h6, ?_⟩
    rw [← h7, List.take_take]
    congr 1; omega

theorem ins_news {w : World} {N e g n cap k : Nat} {l : List Bs} (h : w.ownsRow N e 1 (.slice (some ⟨g, 0, none⟩) n cap) n (l.map sv)) : ∀ j u, ((l.drop k).map sv)[j]? = some u → w.cell? ((⟨g, k, none⟩ : Addr).add j) = some u := by
  intro j u hj
  rw [← h.cells rfl (k + j) u (by rw [List.map_drop] at hj; rwa [List.getElem?_drop] at hj)]
  congr 1
  cases j <;> cases k <;> simp [Addr.add]

/-- A list of the call's own that is not nil. -/
def InsStrs (N g0 : Nat) (T : TypeId) (xs : List Bs) (w : World) (e : Ending) (w' : World) : Prop :=
  ∃ g cap, e = .returned (.slice (some ⟨g, 0, none⟩) xs.length cap) ∧ w'.ownsRow N T 1 (.slice (some ⟨g, 0, none⟩) xs.length cap) xs.length (xs.map sv) ∧ Below N w w' ∧ Turned (fun b => b = g0) w w' ∧ (g = g0 ∨ w.heap.size ≤ g)

theorem own_cap {w : World} {N e n g cap : Nat} {xs : List Value} (h : w.ownsRow N e 1 (.slice (some ⟨g, 0, none⟩) n cap) n xs) : n ≤ cap := by
  rcases h.2 with ⟨h1, _⟩ | ⟨g', cap', cur, h1, h2, h3, h4, h5, h6, h7⟩
  · cases h1
  · cases h1; exact h4
theorem own_capm {w : World} {N e n g cap : Nat} {xs : List Value} (h : w.ownsRow N e 1 (.slice (some ⟨g, 0, none⟩) n cap) n xs) : cap ≤ 9223372036854775807 := by
  rcases h.2 with ⟨h1, _⟩ | ⟨g', cap', cur, h1, h2, h3, h4, h5, h6, h7⟩
  · cases h1
  · cases h1; unfold maxLen at h5; omega
theorem one_sv (l : List Bs) : ∀ x ∈ l.map sv, x.oneCell' = true := fun x hx => by obtain ⟨y, _, rfl⟩ := List.mem_map.1 hx; rfl
theorem own_ne {g h n c : Nat} (hne : g ≠ h) : (Value.slice (some ⟨g, 0, none⟩) n c).ownBlock ≠ some h := fun e => hne (Option.some.inj e)
theorem own_some {w : World} {N e n : Nat} {v : Value} {xs : List Value} (h : w.ownsRow N e 1 v n xs) (hn : v ≠ .slice none 0 0) : ∃ g cap, v = .slice (some ⟨g, 0, none⟩) n cap := by
  rcases h.2 with ⟨h1, _⟩ | ⟨g, cap, cur, h1, _⟩
  · exact absurd h1 hn
  · exact ⟨g, cap, h1⟩

theorem ins_left {N e g g0 cap k : Nat} {l : List Bs} {s : Bs} {w w' : World} (hu : Up l) (hm : s ∉ l) (ha : ∀ j (h : j < l.length), k ≤ j → ltB s l[j] = true) (hb : ∀ h : k - 1 < l.length, 0 < k → ltB s l[k - 1] = false) (hk : k ≤ l.length)
    (hown : w'.ownsRow N e 1 (.slice (some ⟨g, 0, none⟩) (k + 1 + (l.length - k)) cap) (k + 1 + (l.length - k)) ((l.map sv).take k ++ [.string (mk s)] ++ (l.drop k).map sv)) (hbel : Below N w w') (ht : Turned (fun b => b = g0) w w') (hq : g = g0 ∨ w.heap.size ≤ g) :
    InsStrs N g0 e (insTo l s) w (.returned (.slice (some ⟨g, 0, none⟩) (k + 1 + (l.length - k)) cap)) w' := by
  rw [insTo_at k hu hm ha hb hk]
  have hl : (l.take k ++ s :: l.drop k).length = k + 1 + (l.length - k) := by simp; omega
  have he : (l.take k ++ s :: l.drop k).map sv = (l.map sv).take k ++ [.string (mk s)] ++ (l.drop k).map sv := by simp [sv, List.map_take]
  exact ⟨g, cap, by rw [hl], by rw [hl, he]; exact hown, hbel, ht, hq⟩

theorem ins_end {N e g g0 cap : Nat} {l : List Bs} {s : Bs} {w w' : World} (hu : Up l) (hm : s ∉ l) (ha : ∀ j (h : j < l.length), l.length ≤ j → ltB s l[j] = true) (hb : ∀ h : l.length - 1 < l.length, 0 < l.length → ltB s l[l.length - 1] = false) (hk : l.length ≤ l.length)
    (hown : w'.ownsRow N e 1 (.slice (some ⟨g, 0, none⟩) (l.length + 1 + 0) cap) (l.length + 1 + 0) (l.map sv ++ [.string (mk s)] ++ [])) (hbel : Below N w w') (ht : Turned (fun b => b = g0) w w') (hq : g = g0 ∨ w.heap.size ≤ g) :
    InsStrs N g0 e (insTo l s) w (.returned (.slice (some ⟨g, 0, none⟩) (l.length + 1 + 0) cap)) w' := by
  have h := ins_left (w := w) (w' := w') (N := N) (e := e) (g := g) (g0 := g0) (cap := cap) hu hm ha hb hk (by rw [Nat.sub_self, show (l.map sv).take l.length = l.map sv from List.take_of_length_le (by simp), List.drop_length]; exact hown) hbel ht hq
  rw [Nat.sub_self] at h
  exact h

set_option maxRecDepth 100000 in
set_option maxHeartbeats 2000000 in
theorem spec_insertText (N g cap : Nat) (l : List Bs) (s : Bs) (w : World) (hown : w.ownsRow N 9 1 (.slice (some ⟨g, 0, none⟩) l.length cap) l.length (l.map sv)) (hu : Up l) (hN : N ≤ w.heap.size) (hz : l.length ≤ 1000000) :
    Calls Try.prog 163 #[.slice (some ⟨g, 0, none⟩) l.length cap, .string (mk s)] w (InsStrs N g 9 (insTo l s) w) := by
  obtain ⟨i0, hi, hz0, hz1, hz2⟩ := info_parts infoS
  have Hi := Lib.hid hi
  have Hz0 := Lib.hid hz0
  have Hz1 := Lib.hid hz1
  have Hz2 := Lib.hid hz2
  have Hown := Lib.hid hown
  have Hu := Lib.hid hu
  have Hrd := Lib.hid (Reads.of_owns hown)
  have hlc := own_cap hown
  clear hi hz0 hz1 hz2 hown hu
  by_cases hm : s ∈ l
  · have Hm := Lib.hid hm
    have hd := Lib.hid (decide_eq_true hm)
    clear hm
    go_enter Try.func163, Try.ntmps163
    go_wp2_with fail
    refine (spec_hasText _ l s w Hrd.out (by omega)).mono ?_
    rintro e w1 ⟨rfl, rfl⟩
    rw [hd.out]
    go_wp2_with fail
    go_ret
    rw [insTo_in Hu.out Hm.out]
    exact ⟨g, cap, rfl, Hown.out, Below.refl _ _, Turned.refl _ _, .inl rfl⟩
  · have Hm := Lib.hid hm
    have hd := Lib.hid (decide_eq_false hm)
    clear hm
    go_enter Try.func163, Try.ntmps163
    go_wp2_with fail
    refine (spec_hasText _ l s w Hrd.out (by omega)).mono ?_
    rintro e w1 ⟨rfl, rfl⟩
    rw [hd.out]
    go_wp2_with fail
    go_loop [5] (fun kv => ∃ k : Nat, k ≤ l.length ∧ kv = .int .i64 k ∧ ∀ j (h : j < l.length), k ≤ j → ltB s l[j] = true) (fun kv => (intOf kv).toNat)
    case atStart => exact ⟨l.length, Nat.le_refl _, rfl, fun j h h' => absurd h (Nat.not_lt.2 h')⟩
    case round =>
      obtain ⟨k, hk, rfl, ha⟩ := hrel
      have Ha := Lib.hid ha
      clear ha
      by_cases hk0 : k = 0
      · subst hk0
        have Hb := Lib.hid (show ∀ h : 0 - 1 < l.length, 0 < 0 → ltB s l[0 - 1] = false from fun _ h => absurd h (Nat.lt_irrefl _))
        have hk : 0 ≤ l.length := Nat.zero_le _
        go_wp2_with (first
          | (at_builtin; refine wpList_append_own _ rfl _ _ 70 rfl w.heap.size 9 i0 (.string ByteArray.empty) 1 16 Try.underlying70 Hi.out Hz0.out Hz1.out Hz2.out rfl (by decide) _ 0 [] rfl (World.ownsRow_made w #[] 0 (Nat.le_refl _) (by unfold maxLen; omega) rfl) ⟨g, 0, none⟩ (l.length - 0) (cap - 0) ((l.drop 0).map sv) rfl (by simp) ?_ (one_sv _) (by unfold maxLen; omega) (by omega) (by simp) ?_; (exact ins_news (Hown.out.alloc _)); intro v1 w1 hown1 hgrow1 hnil1
             rw [Nat.zero_add, List.nil_append] at hown1
             obtain ⟨g1, c1, rfl⟩ := own_some hown1 (fun e => by have := (hnil1.1 e).1; cases this)
             have hgr1 : (w.alloc (.cells #[] 9)).grownBy w1 (some w.heap.size) := hgrow1
             clear hgrow1
             have hgN := Hown.out.lt g rfl
             have hg1 := hown1.lt g1 rfl
             have HA := Lib.hid ((Hown.out.alloc (.cells #[] 9)).kept hgr1 (.inr (own_ne (by omega))))
             have HB1 := Lib.hid (((Below.refl N w).alloc hN _).grown hgr1 (by simp; omega) (fun j hj => by cases hj; exact hN))
             have hz1 := HB1.out.size
             have HT1 := Lib.hid (((Turned.refl (fun b => b = g) w).alloc _).grown hgr1 (fun j e hj => by injection e with e; omega))
             have H1 := Lib.hid hown1
             clear hown1 hgr1 hnil1)
          | (at_builtin; refine wpList_append_own_at _ rfl _ _ 70 rfl N 9 i0 (.string ByteArray.empty) 1 16 Try.underlying70 Hi.out Hz0.out Hz1.out Hz2.out rfl (by decide) _ 0 _ rfl ((own_front HA.out 0 hk).alloc _) ⟨w1.heap.size, 0, none⟩ 1 1 [.string (mk s)] rfl rfl (cell_one_new _ _ _) (fun x hx => by simp at hx; subst hx; rfl) (by unfold maxLen; omega) (by omega) (by simp; omega) ?_; intro v2 w2 hown2 hgrow2 hnil2 hat2
             obtain ⟨g2, c2, rfl⟩ := own_some hown2 (fun e => by have := (hnil2.1 e).1; cases this)
             have hgr2 : (w1.alloc (.cells #[.string (mk s)] 9)).grownBy w2 (some g) := hgrow2
             clear hgrow2 hnil2
             have Hrest := Lib.hid ((H1.out.alloc (.cells #[.string (mk s)] 9)).kept hgr2 (.inr (own_ne (by omega))))
             have HB2 := Lib.hid ((HB1.out.alloc (by omega) _).grown hgr2 (by simp; omega) (fun j hj => by cases hj; exact hgN.1))
             have HT2 := Lib.hid ((HT1.out.alloc _).grown hgr2 (fun j e _ => (Option.some.inj e).symm))
             have hq2 := at_or (B := w.heap.size) hat2 (by simp; omega)
             have hz2 := HB2.out.size
             have H2 := Lib.hid hown2
             clear hown2 hgr2 hat2)
          | (at_builtin; refine wpList_append_own_at _ rfl _ _ 70 rfl N 9 i0 (.string ByteArray.empty) 1 16 Try.underlying70 Hi.out Hz0.out Hz1.out Hz2.out rfl (by decide) _ (0 + 1) _ rfl H2.out ⟨g1, 0, none⟩ (l.length - 0) c1 ((l.drop 0).map sv) rfl (by simp) (Hrest.out.cells rfl) (one_sv _) (by unfold maxLen; omega) (by omega) (by omega) ?_; intro v3 w3 hown3 hgrow3 hnil3 hat3
             obtain ⟨g3, c3, rfl⟩ := own_some hown3 (fun e => by have := (hnil3.1 e).1; cases this)
             have hgr3 : w2.grownBy w3 (some g2) := hgrow3
             have HB3 := Lib.hid (HB2.out.grown hgr3 (by omega) (fun j hj => by cases hj; exact (H2.out.lt g2 rfl).1))
             have HT3 := Lib.hid (HT2.out.grown hgr3 (fun j e hj => by injection e with e; show j = g; omega))
             have hq3 : g3 = g ∨ w.heap.size ≤ g3 := by have := at_or (B := w.heap.size) hat3 (by omega); omega
             have H3 := Lib.hid hown3
             clear hown3 hgr3 hgrow3 hnil3 hat3))
        go_ret
        exact ins_left Hu.out Hm.out Ha.out Hb.out hk H3.out HB3.out HT3.out hq3
      · have hk1 : k - 1 < l.length := by omega
        have hcell := Hown.out.cellAt (k - 1) (by omega)
        rw [List.getElem?_map, List.getElem?_eq_getElem hk1] at hcell
        simp only [Option.map_some, sv] at hcell
        have hne : (l[k - 1] == s) = false := by
          have : l[k - 1] ≠ s := fun e => Hm.out (by rw [← e]; exact List.getElem_mem hk1)
          simpa using this
        have hki : (k : Int) - 1 = ((k - 1 : Nat) : Int) := by omega
        have hk2 : (0 : Int) < k := by omega
        cases hlt : ltB l[k - 1] s with
        | true =>
          have hbl := (Nm.bytesLess_eq l[k - 1] s).trans hlt
          have Hb := Lib.hid (show ∀ h : k - 1 < l.length, 0 < k → ltB s l[k - 1] = false from fun _ _ => by
            cases h : ltB s l[k - 1] with
            | false => rfl
            | true => have := ltB_tr h hlt; rw [ltB_irr] at this; cases this)
          clear hlt
          by_cases hkl : k = l.length
          · subst hkl
            have hgN := Hown.out.lt g rfl
            by_cases hcap : cap = l.length
            · subst hcap
              go_wp2_with (first
                | (at_builtin; refine wpList_append_own_at _ rfl _ _ 70 rfl N 9 i0 (.string ByteArray.empty) 1 16 Try.underlying70 Hi.out Hz0.out Hz1.out Hz2.out rfl (by decide) _ l.length _ rfl ((Hown.out.alloc _).alloc _) ⟨w.heap.size + 1, 0, none⟩ 1 1 [.string (mk s)] rfl rfl (one_new (by simp)) (fun x hx => by simp at hx; subst hx; rfl) (by unfold maxLen; omega) (by omega) (by simp; omega) ?_; intro v2 w2 hown2 hgrow2 hnil2 hat2
                   obtain ⟨g2, c2, rfl⟩ := own_some hown2 (fun e => by have := (hnil2.1 e).1; cases this)
                   have hgr2 : ((w.alloc (.cells #[] 9)).alloc (.cells #[.string (mk s)] 9)).grownBy w2 (some g) := hgrow2
                   clear hgrow2 hnil2
                   have HB2 := Lib.hid (((((Below.refl N w).alloc hN _).alloc (by simp; omega) _).grown hgr2 (by simp; omega) (fun j hj => by cases hj; exact hgN.1)))
                   have HT2 := Lib.hid ((((Turned.refl (fun b => b = g) w).alloc _).alloc _).grown hgr2 (fun j e _ => (Option.some.inj e).symm))
                   have hq2 := at_or (B := w.heap.size) hat2 (by simp; omega)
                   have hz2 := HB2.out.size
                   have H2 := Lib.hid hown2
                   clear hown2 hgr2 hat2)
                | (at_builtin; refine wpList_append_own_at _ rfl _ _ 70 rfl N 9 i0 (.string ByteArray.empty) 1 16 Try.underlying70 Hi.out Hz0.out Hz1.out Hz2.out rfl (by decide) _ (l.length + 1) _ rfl H2.out ⟨w.heap.size, 0, none⟩ 0 0 ([] : List Value) rfl rfl (fun j u hj => by simp at hj) (fun x hx => by simp at hx) (by unfold maxLen; omega) (by omega) (by omega) ?_; intro v3 w3 hown3 hgrow3 hnil3 hat3
                   obtain ⟨g3, c3, rfl⟩ := own_some hown3 (fun e => by have := (hnil3.1 e).1; cases this)
                   have hgr3 : w2.grownBy w3 (some g2) := hgrow3
                   have HB3 := Lib.hid (HB2.out.grown hgr3 (by omega) (fun j hj => by cases hj; exact (H2.out.lt g2 rfl).1))
                   have HT3 := Lib.hid (HT2.out.grown hgr3 (fun j e hj => by injection e with e; show j = g; omega))
                   have hq3 : g3 = g ∨ w.heap.size ≤ g3 := by have := at_or (B := w.heap.size) hat3 (by omega); omega
                   have H3 := Lib.hid hown3
                   clear hown3 hgr3 hgrow3 hnil3 hat3))
              go_ret
              exact ins_end Hu.out Hm.out Ha.out Hb.out hk H3.out HB3.out HT3.out hq3
            · have hcap2 : ¬ l.length = cap := fun e => hcap e.symm
              go_wp2_with (first
                | (at_builtin; refine wpList_append_own_at _ rfl _ _ 70 rfl N 9 i0 (.string ByteArray.empty) 1 16 Try.underlying70 Hi.out Hz0.out Hz1.out Hz2.out rfl (by decide) _ l.length _ rfl ((Hown.out.alloc _).alloc _) ⟨w.heap.size + 1, 0, none⟩ 1 1 [.string (mk s)] rfl rfl (one_new (by simp)) (fun x hx => by simp at hx; subst hx; rfl) (by unfold maxLen; omega) (by omega) (by simp; omega) ?_; intro v2 w2 hown2 hgrow2 hnil2 hat2
                   obtain ⟨g2, c2, rfl⟩ := own_some hown2 (fun e => by have := (hnil2.1 e).1; cases this)
                   have hgr2 : ((w.alloc (.cells #[] 9)).alloc (.cells #[.string (mk s)] 9)).grownBy w2 (some g) := hgrow2
                   clear hgrow2 hnil2
                   have HB2 := Lib.hid (((((Below.refl N w).alloc hN _).alloc (by simp; omega) _).grown hgr2 (by simp; omega) (fun j hj => by cases hj; exact hgN.1)))
                   have HT2 := Lib.hid ((((Turned.refl (fun b => b = g) w).alloc _).alloc _).grown hgr2 (fun j e _ => (Option.some.inj e).symm))
                   have hq2 := at_or (B := w.heap.size) hat2 (by simp; omega)
                   have hz2 := HB2.out.size
                   have H2 := Lib.hid hown2
                   clear hown2 hgr2 hat2)
                | (at_builtin; refine wpList_append_own_at _ rfl _ _ 70 rfl N 9 i0 (.string ByteArray.empty) 1 16 Try.underlying70 Hi.out Hz0.out Hz1.out Hz2.out rfl (by decide) _ (l.length + 1) _ rfl H2.out ⟨w.heap.size, 0, none⟩ 0 0 ([] : List Value) rfl rfl (fun j u hj => by simp at hj) (fun x hx => by simp at hx) (by unfold maxLen; omega) (by omega) (by omega) ?_; intro v3 w3 hown3 hgrow3 hnil3 hat3
                   obtain ⟨g3, c3, rfl⟩ := own_some hown3 (fun e => by have := (hnil3.1 e).1; cases this)
                   have hgr3 : w2.grownBy w3 (some g2) := hgrow3
                   have HB3 := Lib.hid (HB2.out.grown hgr3 (by omega) (fun j hj => by cases hj; exact (H2.out.lt g2 rfl).1))
                   have HT3 := Lib.hid (HT2.out.grown hgr3 (fun j e hj => by injection e with e; show j = g; omega))
                   have hq3 : g3 = g ∨ w.heap.size ≤ g3 := by have := at_or (B := w.heap.size) hat3 (by omega); omega
                   have H3 := Lib.hid hown3
                   clear hown3 hgr3 hgrow3 hnil3 hat3))
              go_ret
              exact ins_end Hu.out Hm.out Ha.out Hb.out hk H3.out HB3.out HT3.out hq3
          · have hkl2 : k < l.length := by omega
            have hkc : ¬ k = cap := by omega
            have hkc2 : ¬ cap = k := by omega
            go_wp2_with (first
              | (at_builtin; refine wpList_append_own _ rfl _ _ 70 rfl w.heap.size 9 i0 (.string ByteArray.empty) 1 16 Try.underlying70 Hi.out Hz0.out Hz1.out Hz2.out rfl (by decide) _ 0 [] rfl (World.ownsRow_made w #[] 0 (Nat.le_refl _) (by unfold maxLen; omega) rfl) ⟨g, k, none⟩ (l.length - k) (cap - k) ((l.drop k).map sv) rfl (by simp) ?_ (one_sv _) (by unfold maxLen; omega) (by omega) (by simp) ?_; (exact ins_news (Hown.out.alloc _)); intro v1 w1 hown1 hgrow1 hnil1
                 rw [Nat.zero_add, List.nil_append] at hown1
                 obtain ⟨g1, c1, rfl⟩ := own_some hown1 (fun e => by have := (hnil1.1 e).1; cases this)
                 have hgr1 : (w.alloc (.cells #[] 9)).grownBy w1 (some w.heap.size) := hgrow1
                 clear hgrow1
                 have hgN := Hown.out.lt g rfl
                 have hg1 := hown1.lt g1 rfl
                 have HA := Lib.hid ((Hown.out.alloc (.cells #[] 9)).kept hgr1 (.inr (own_ne (by omega))))
                 have HB1 := Lib.hid (((Below.refl N w).alloc hN _).grown hgr1 (by simp; omega) (fun j hj => by cases hj; exact hN))
                 have hz1 := HB1.out.size
                 have HT1 := Lib.hid (((Turned.refl (fun b => b = g) w).alloc _).grown hgr1 (fun j e hj => by injection e with e; omega))
                 have H1 := Lib.hid hown1
                 clear hown1 hgr1 hnil1)
              | (at_builtin; refine wpList_append_own_at _ rfl _ _ 70 rfl N 9 i0 (.string ByteArray.empty) 1 16 Try.underlying70 Hi.out Hz0.out Hz1.out Hz2.out rfl (by decide) _ k _ rfl ((own_front HA.out k hk).alloc _) ⟨w1.heap.size, 0, none⟩ 1 1 [.string (mk s)] rfl rfl (cell_one_new _ _ _) (fun x hx => by simp at hx; subst hx; rfl) (by unfold maxLen; omega) (by omega) (by simp; omega) ?_; intro v2 w2 hown2 hgrow2 hnil2 hat2
                 obtain ⟨g2, c2, rfl⟩ := own_some hown2 (fun e => by have := (hnil2.1 e).1; cases this)
                 have hgr2 : (w1.alloc (.cells #[.string (mk s)] 9)).grownBy w2 (some g) := hgrow2
                 clear hgrow2 hnil2
                 have Hrest := Lib.hid ((H1.out.alloc (.cells #[.string (mk s)] 9)).kept hgr2 (.inr (own_ne (by omega))))
                 have HB2 := Lib.hid ((HB1.out.alloc (by omega) _).grown hgr2 (by simp; omega) (fun j hj => by cases hj; exact hgN.1))
                 have HT2 := Lib.hid ((HT1.out.alloc _).grown hgr2 (fun j e _ => (Option.some.inj e).symm))
                 have hq2 := at_or (B := w.heap.size) hat2 (by simp; omega)
                 have hz2 := HB2.out.size
                 have H2 := Lib.hid hown2
                 clear hown2 hgr2 hat2)
              | (at_builtin; refine wpList_append_own_at _ rfl _ _ 70 rfl N 9 i0 (.string ByteArray.empty) 1 16 Try.underlying70 Hi.out Hz0.out Hz1.out Hz2.out rfl (by decide) _ (k + 1) _ rfl H2.out ⟨g1, 0, none⟩ (l.length - k) c1 ((l.drop k).map sv) rfl (by simp) (Hrest.out.cells rfl) (one_sv _) (by unfold maxLen; omega) (by omega) (by omega) ?_; intro v3 w3 hown3 hgrow3 hnil3 hat3
                 obtain ⟨g3, c3, rfl⟩ := own_some hown3 (fun e => by have := (hnil3.1 e).1; cases this)
                 have hgr3 : w2.grownBy w3 (some g2) := hgrow3
                 have HB3 := Lib.hid (HB2.out.grown hgr3 (by omega) (fun j hj => by cases hj; exact (H2.out.lt g2 rfl).1))
                 have HT3 := Lib.hid (HT2.out.grown hgr3 (fun j e hj => by injection e with e; show j = g; omega))
                 have hq3 : g3 = g ∨ w.heap.size ≤ g3 := by have := at_or (B := w.heap.size) hat3 (by omega); omega
                 have H3 := Lib.hid hown3
                 clear hown3 hgr3 hgrow3 hnil3 hat3))
            go_ret
            exact ins_left Hu.out Hm.out Ha.out Hb.out hk H3.out HB3.out HT3.out hq3
        | false =>
          have hbl := (Nm.bytesLess_eq l[k - 1] s).trans hlt
          have hlt' := Lib.hid (ltB_tri _ _ hlt (by simpa using hne))
          clear hlt
          go_wp2_with fail
          go_round
          case rel =>
            refine ⟨k - 1, by omega, by go_num, fun j h hj => ?_⟩
            by_cases e : j = k - 1
            · subst e; exact hlt'.out
            · exact Ha.out j h (by omega)
          case measure => simp [intOf]; omega
end Go.Proofs.Ytgecemngfpgcoaa
