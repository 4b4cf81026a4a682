/- Contracts of the functions that tell relative names, and common packages. -/
import Derived.Test.YtpopbcidnhepiabRelative
set_option linter.unusedVariables false
set_option linter.unusedSimpArgs false
namespace Go.Proofs.Ytpopbcidnhepiab
open Go.RowKit Go.Proofs.Ytpopbcidnhepiab.Nm

set_option maxRecDepth 100000 in
set_option maxHeartbeats 1000000 in
theorem impl_RelativeName (p s : Bs) (w : World) (hp : p.length ≤ 2000000) (hs : s.length ≤ 2000000) :
    Calls Try.prog 27 #[.string (mk p), .string (mk s)] w fun e w' => e = .returned (.tuple #[.int .i64 (relName p s).1, .string (mk (relName p s).2)]) ∧ Below w.heap.size w w' := by
  cases hv : vpk p
  · have Hf := Lib.hid (show relName p s = (0, []) by simp [relName, hv])
    have Hv := Lib.hid hv
    clear hv
    go_enter Try.func27, Try.ntmps27
    go_wp2_with fail
    refine (impl_validPackage p w (by omega)).mono ?_
    rintro e w1 ⟨rfl, hb⟩
    rw [Hv.out]
    go_wp2_with fail
    go_ret2
    rw [Hf.out]
    exact ⟨rfl, hb⟩
  · cases hv2 : vn s
    · have Hf := Lib.hid (show relName p s = (0, []) by simp [relName, hv2])
      have Hv := Lib.hid hv
      have Hv2 := Lib.hid hv2
      clear hv hv2
      go_enter Try.func27, Try.ntmps27
      go_wp2_with fail
      refine (impl_validPackage p w (by omega)).mono ?_
      rintro e w1 ⟨rfl, hb⟩
      rw [Hv.out]
      go_wp2_with fail
      refine (impl_ValidName s w1 (by omega)).mono ?_
      rintro e w2 ⟨rfl, hb2⟩
      rw [Hv2.out]
      go_wp2_with fail
      go_ret2
      rw [Hf.out]
      exact ⟨rfl, bt hb hb2⟩
    · have Hf := Lib.hid (show relName p s = relGo s 4 p 1 by simp [relName, hv, hv2])
      have Hfit := Lib.hid (fits_start hv)
      have hsl := vn_len hv2
      have Hv := Lib.hid hv
      have Hv2 := Lib.hid hv2
      clear hv hv2
      go_enter Try.func27, Try.ntmps27
      go_wp2_with fail
      refine (impl_validPackage p w (by omega)).mono ?_
      rintro e w1 ⟨rfl, hb⟩
      rw [Hv.out]
      go_wp2_with fail
      refine (impl_ValidName s w1 (by omega)).mono ?_
      rintro e w2 ⟨rfl, hb2⟩
      rw [Hv2.out]
      go_wp2_with fail
      go_loopw [0, 6] (fun pv kv wr => ∃ (f : Nat) (q : Bs) (lv : Int), pv = .string (mk q) ∧ kv = .int .i64 lv ∧ fits q f ∧ 1 ≤ lv ∧ lv + f = 4 ∧ relGo s (f + 1) q lv = relName p s ∧ Below w.heap.size w wr) (fun _ kv _ => (10 - intOf kv).toNat)
      case atStart => exact ⟨3, p, 1, rfl, rfl, Hfit.out, by omega, by omega, Hf.out.symm, bt hb hb2⟩
      case round =>
        obtain ⟨f, q, lv, rfl, rfl, hfit, hlv1, hlv, hrel', hbel⟩ := hrel
        have hql := fits_len hfit
        have Hbel := Lib.hid hbel
        have Hlv := Lib.hid hlv
        have hlv4 : lv ≤ 4 := by omega
        clear hbel hlv
        by_cases h0 : q = []
        · subst h0
          have Hr := Lib.hid (show relName p s = (0, []) by rw [← hrel']; exact relGo_nil s f lv)
          clear hrel' hfit
          go_wp2_with fail
          go_ret2
          rw [Hr.out]
          exact ⟨rfl, Hbel.out⟩
        · have hqe : q.isEmpty = false := by simpa using h0
          have Hun := Lib.hid (isUnder_fits Hv2.out hfit)
          cases hu : under s q
          · obtain ⟨g, rfl⟩ := fits_pos hfit h0
            have Hu := Lib.hid hu
            have Hst := Lib.hid (fits_step hfit h0)
            have Hr := Lib.hid ((relGo_no h0 hu (g + 1) lv).symm.trans hrel')
            clear hu h0 hrel' hfit
            go_wp2_with fail
            refine (impl_IsUnder s q _ (by omega) (by omega)).mono ?_
            rintro e w4 ⟨rfl, hb4⟩
            rw [Hun.out, Hu.out]
            go_wp2_with fail
            refine (impl_ParentOf q _ (by omega)).mono ?_
            rintro e w5 ⟨rfl, hb5⟩
            have Hb5 := Lib.hid (bt (bt Hbel.out hb4) hb5)
            clear hb4 hb5
            go_wp2_with fail
            go_roundw
            case rel => exact ⟨g, parentOf q, lv + 1, rfl, rfl, Hst.out, by omega, by have := Hlv.out; omega, Hr.out, Hb5.out⟩
            case measure => simp [intOf]; omega
          · have hpl := under_len hu h0
            have Hu := Lib.hid hu
            have Htr := Lib.hid (trimDot_eq hu h0)
            have Hr := Lib.hid (hrel'.symm.trans (relGo_yes h0 hu f lv))
            have Htk := Lib.hid (List.take_of_length_le (by simp : (s.drop q.length).length ≤ s.length - q.length))
            clear hu h0 hrel' hfit
            go_wp2_with fail
            refine (impl_IsUnder s q _ (by omega) (by omega)).mono ?_
            rintro e w4 ⟨rfl, hb4⟩
            rw [Hun.out, Hu.out]
            go_wp2_with fail
            rw [Htk.out]
            refine (strings_TrimDot (s.drop q.length) _ (by simp; omega)).mono ?_
            rintro e w5 ⟨rfl, rfl⟩
            rw [Htr.out]
            have Hb4 := Lib.hid (bt Hbel.out hb4)
            clear hb4
            go_wp2_with fail
            go_ret2
            rw [Hr.out]
            exact ⟨rfl, Hb4.out⟩

set_option maxRecDepth 100000 in
set_option maxHeartbeats 1000000 in
theorem spec_RelativeName (p s : Bs) (w : World) (hp : p.length ≤ 2000000) (hs : s.length ≤ 2000000) :
    Calls Try.prog 28 #[.string (mk p), .string (mk s)] w fun e w' => e = .returned (.tuple #[.int .i64 (relName p s).1, .string (mk (relName p s).2)]) ∧ Below w.heap.size w w' := by
  cases hv : vn p
  · have hf : relName p s = (0, []) := by
      unfold relName
      by_cases h : (vpk p && vn s) = true
      · rw [if_pos h]
        rw [Bool.and_eq_true] at h
        rcases vpk_iff.1 h.1 with rfl | h'
        · exact relGo_nil s 3 1
        · rw [hv] at h'; cases h'
      · rw [if_neg h]
    have Hf := Lib.hid hf
    have Hv := Lib.hid hv
    clear hv hf
    go_enter Try.func28, Try.ntmps28
    go_wp2_with fail
    refine (spec_validName p w (by omega)).mono ?_
    rintro e w1 ⟨rfl, hb⟩
    rw [Hv.out]
    go_wp2_with fail
    go_ret2
    rw [Hf.out]
    exact ⟨rfl, hb⟩
  · cases hv2 : vn s
    · have Hf := Lib.hid (show relName p s = (0, []) by simp [relName, hv2])
      have Hv := Lib.hid hv
      have Hv2 := Lib.hid hv2
      clear hv hv2
      go_enter Try.func28, Try.ntmps28
      go_wp2_with fail
      refine (spec_validName p w (by omega)).mono ?_
      rintro e w1 ⟨rfl, hb⟩
      rw [Hv.out]
      go_wp2_with fail
      refine (spec_validName s w1 (by omega)).mono ?_
      rintro e w2 ⟨rfl, hb2⟩
      rw [Hv2.out]
      go_wp2_with fail
      go_ret2
      rw [Hf.out]
      exact ⟨rfl, bt hb hb2⟩
    · have Hf := Lib.hid (show relName p s = relGo s 4 p 1 by simp [relName, vpk_iff.2 (.inr hv), hv2])
      have Hfit := Lib.hid (fits_start (vpk_iff.2 (.inr hv)))
      have hsl := vn_len hv2
      have Hv := Lib.hid hv
      have Hv2 := Lib.hid hv2
      clear hv hv2
      go_enter Try.func28, Try.ntmps28
      go_wp2_with fail
      refine (spec_validName p w (by omega)).mono ?_
      rintro e w1 ⟨rfl, hb⟩
      rw [Hv.out]
      go_wp2_with fail
      refine (spec_validName s w1 (by omega)).mono ?_
      rintro e w2 ⟨rfl, hb2⟩
      rw [Hv2.out]
      go_wp2_with fail
      go_loopw [0, 6] (fun pv kv wr => ∃ (f : Nat) (q : Bs) (lv : Int), pv = .string (mk q) ∧ kv = .int .i64 lv ∧ fits q f ∧ 1 ≤ lv ∧ lv + f = 4 ∧ relGo s (f + 1) q lv = relName p s ∧ Below w.heap.size w wr) (fun _ kv _ => (10 - intOf kv).toNat)
      case atStart => exact ⟨3, p, 1, rfl, rfl, Hfit.out, by omega, by omega, Hf.out.symm, bt hb hb2⟩
      case round =>
        obtain ⟨f, q, lv, rfl, rfl, hfit, hlv1, hlv, hrel', hbel⟩ := hrel
        have hql := fits_len hfit
        have Hbel := Lib.hid hbel
        have Hlv := Lib.hid hlv
        have hlv4 : lv ≤ 4 := by omega
        clear hbel hlv
        by_cases h0 : q = []
        · subst h0
          have Hr := Lib.hid (show relName p s = (0, []) by rw [← hrel']; exact relGo_nil s f lv)
          clear hrel' hfit
          go_wp2_with fail
          go_ret2
          rw [Hr.out]
          exact ⟨rfl, Hbel.out⟩
        · have hqe : q.isEmpty = false := by simpa using h0
          by_cases hsq : s = q
          · have Hr := Lib.hid (show relName p s = (lv, []) by rw [← hrel', hsq, relGo_yes h0 under_self f lv, List.drop_eq_nil_of_le (by omega)])
            clear hrel' hfit h0
            subst hsq
            go_wp2_with fail
            go_ret2
            rw [Hr.out]
            exact ⟨rfl, Hbel.out⟩
          · have hsb : (s == q) = false := by simpa using hsq
            cases hu : under s q
            · obtain ⟨g, rfl⟩ := fits_pos hfit h0
              have Hu := Lib.hid hu
              have Hst := Lib.hid (fits_step hfit h0)
              have Hpa := Lib.hid (congrArg mk (parentOf_of (fits_vn hfit h0)).symm)
              have Hr := Lib.hid ((relGo_no h0 hu (g + 1) lv).symm.trans hrel')
              clear hu h0 hrel' hfit hsq
              go_wp2_with fail
              refine (spec_under s q _ (by omega) (by omega)).mono ?_
              rintro e w4 ⟨rfl, rfl⟩
              rw [Hu.out]
              go_wp2_with fail
              refine (spec_parent q _ (by omega)).mono ?_
              rintro e w5 ⟨rfl, hb5⟩
              rw [Hpa.out]
              have Hb5 := Lib.hid (bt Hbel.out hb5)
              clear hb5
              go_wp2_with fail
              go_roundw
              case rel => exact ⟨g, parentOf q, lv + 1, rfl, rfl, Hst.out, by omega, by have := Hlv.out; omega, Hr.out, Hb5.out⟩
              case measure => simp [intOf]; omega
            · have hpl := under_ne hu h0 hsq
              have Hu := Lib.hid hu
              have Hr := Lib.hid (hrel'.symm.trans (relGo_yes h0 hu f lv))
              have Htk := Lib.hid (List.take_of_length_le (by simp : (s.drop (q.length + 1)).length ≤ s.length - (q.length + 1)))
              clear hu h0 hrel' hfit hsq
              have g1 : IntKind.i64.wrap ((q.length : Int) + 1) = (q.length : Int) + 1 := IntWalk.i64_in _ (by omega)
              have g2 : (0 : Int) ≤ (q.length : Int) + 1 := by omega
              have g3 : ((q.length : Int) + 1).toNat = q.length + 1 := by omega
              have g4 : (q.length : Int) + 1 ≤ (s.length : Int) := by omega
              go_wp2_with fail
              refine (spec_under s q _ (by omega) (by omega)).mono ?_
              rintro e w4 ⟨rfl, rfl⟩
              rw [Hu.out]
              go_wp2_with fail
              go_quiet (fail)
              go_wp2_with fail
              go_ret2
              rw [Hr.out]
              exact ⟨by rw [Htk.out]; rfl, below_drewN Hbel.out _⟩

set_option maxRecDepth 100000 in
set_option maxHeartbeats 1000000 in
theorem impl_CommonPackage (a b : Bs) (w : World) (ha : a.length ≤ 2000000) (hbz : b.length ≤ 2000000) :
    Calls Try.prog 30 #[.string (mk a), .string (mk b)] w fun e w' => e = .returned (.string (mk (common a b))) ∧ Below w.heap.size w w' := by
  have Hf := Lib.hid (show common a b = lastWith (fun n => isUnder b n) (namesAbove a) from rfl)
  have hnl : (namesAbove a).length ≤ 9000000 := by
    unfold namesAbove; split
    · simp only [above, List.length_map, List.length_range]; exact Nat.le_trans (split_count a) (by omega)
    · simp
  have hsz : ∀ n ∈ namesAbove a, n.length ≤ 11 := fun n hn => vn_len (namesAbove_vn hn)
  go_enter Try.func30, Try.ntmps30
  go_wp2_with fail
  refine (impl_NamesAbove a w (by omega)).mono ?_
  rintro e w1 ⟨v, rfl, hown, hb⟩
  have Hr := Lib.hid (Reads.of_owns hown)
  have Hz := Lib.hid hsz
  obtain ⟨aa, cap, rfl⟩ := owns_shape hown
  clear hown hsz
  generalize namesAbove a = xs at *
  go_wp2_with fail
  go_loopw [5, 11] (fun cv kv wr => ∃ k : Nat, k ≤ xs.length ∧ kv = .int .i64 k ∧ cv = .string (mk (lastWith (fun n => isUnder b n) (xs.take k))) ∧ Below w1.heap.size w1 wr) (fun _ kv _ => xs.length - (intOf kv).toNat)
  case atStart => exact ⟨0, by omega, rfl, rfl, Below.refl _ _⟩
  case round =>
    obtain ⟨k, hk, rfl, rfl, hbel⟩ := hrel
    by_cases hlt : k < xs.length
    · obtain ⟨b1, o1, c1, e1, hl1, hm1, hb1, hc1⟩ := Reads.some Hr.out (by omega)
      simp only [Value.slice.injEq] at e1
      obtain ⟨rfl, _, rfl⟩ := e1
      have hcell := (hbel.cell (p := ⟨b1, o1 + k, none⟩) hb1).trans (hc1 k hlt)
      have hs1 := Hz.out _ (List.getElem_mem hlt)
      have hst := lastWith_snoc (fun n => isUnder b n) xs k hlt
      have Hbel := Lib.hid hbel
      clear hc1 hbel
      cases hu : isUnder b xs[k]
      · rw [if_neg (by rw [hu]; exact Bool.false_ne_true)] at hst
        have Hst := Lib.hid (congrArg mk hst)
        have Hu := Lib.hid hu
        clear hst hu
        generalize lastWith (fun n => isUnder b n) (xs.take k) = t at *
        generalize xs[k] = nm at *
        go_wp2_with fail
        refine (impl_IsUnder b nm _ (by omega) (by omega)).mono ?_
        rintro e w4 ⟨rfl, hb4⟩
        rw [Hu.out]
        have Hb4 := Lib.hid (bt Hbel.out hb4)
        clear hb4
        go_wp2_with fail
        go_roundw
        case rel => exact ⟨k + 1, by omega, by go_num, by rw [Hst.out], Hb4.out⟩
        case measure => simp [intOf]; omega
      · rw [if_pos hu] at hst
        have Hst := Lib.hid (congrArg mk hst)
        have Hu := Lib.hid hu
        clear hst hu
        generalize lastWith (fun n => isUnder b n) (xs.take k) = t at *
        generalize xs[k] = nm at *
        go_wp2_with fail
        refine (impl_IsUnder b nm _ (by omega) (by omega)).mono ?_
        rintro e w4 ⟨rfl, hb4⟩
        rw [Hu.out]
        have Hb4 := Lib.hid (bt Hbel.out hb4)
        clear hb4
        go_wp2_with fail
        go_roundw
        case rel => exact ⟨k + 1, by omega, by go_num, by rw [Hst.out], Hb4.out⟩
        case measure => simp [intOf]; omega
    · have He := Lib.hid (congrArg mk (congrArg (lastWith (fun n => isUnder b n)) (List.take_of_length_le (by omega : xs.length ≤ k))))
      have Hbe := Lib.hid (bt hb hbel)
      go_wp2_with fail
      go_ret
      rw [Hf.out]
      exact ⟨ret_str He.out, Hbe.out⟩

set_option maxRecDepth 100000 in
set_option maxHeartbeats 1000000 in
theorem spec_CommonPackage (a b : Bs) (w : World) (ha : a.length ≤ 2000000) (hbz : b.length ≤ 2000000) :
    Calls Try.prog 31 #[.string (mk a), .string (mk b)] w fun e w' => e = .returned (.string (mk (common a b))) ∧ Below w.heap.size w w' := by
  cases hv : vn a
  · have Hf := Lib.hid (show common a b = [] by simp [common, namesAbove, hv, lastWith])
    have Hv := Lib.hid hv
    clear hv
    go_enter Try.func31, Try.ntmps31
    go_wp2_with fail
    refine (spec_validName a w (by omega)).mono ?_
    rintro e w1 ⟨rfl, hb⟩
    rw [Hv.out]
    go_wp2_with fail
    go_ret
    rw [Hf.out]
    exact ⟨rfl, hb⟩
  · cases hv2 : vn b
    · have Hf := Lib.hid (show common a b = [] from lastWith_none _ _ (fun j hj => by simp [isUnder, hv2]))
      have Hv := Lib.hid hv
      have Hv2 := Lib.hid hv2
      clear hv hv2
      go_enter Try.func31, Try.ntmps31
      go_wp2_with fail
      refine (spec_validName a w (by omega)).mono ?_
      rintro e w1 ⟨rfl, hb⟩
      rw [Hv.out]
      go_wp2_with fail
      refine (spec_validName b w1 (by omega)).mono ?_
      rintro e w2 ⟨rfl, hb2⟩
      rw [Hv2.out]
      go_wp2_with fail
      go_ret
      rw [Hf.out]
      exact ⟨rfl, bt hb hb2⟩
    · have hna : namesAbove a = above a := by simp [namesAbove, hv]
      have hal : 1 ≤ (above a).length ∧ (above a).length ≤ 9000000 := by
        simp only [above, List.length_map, List.length_range]
        exact ⟨split_pos a, Nat.le_trans (split_count a) (by omega)⟩
      have hsz : ∀ n ∈ above a, n.length ≤ 11 := fun n hn => vn_len (above_vn hv n hn)
      have Hiu := Lib.hid (fun n (hn : n ∈ above a) => isUnder_of hv2 (above_vn hv n hn))
      have Hyes := Lib.hid (fun k (h : k < (above a).length) (hf : isUnder b (above a)[k] = true) (hn : ∀ j (hj : j < (above a).length), k < j → isUnder b (above a)[j] = false) =>
        (show common a b = (above a)[k] by unfold common; rw [hna]; exact lastWith_at (fun n => isUnder b n) (above a) k h hf hn))
      have Hno := Lib.hid (fun (hn : ∀ j (hj : j < (above a).length), isUnder b (above a)[j] = false) =>
        (show common a b = [] by unfold common; rw [hna]; exact lastWith_none (fun n => isUnder b n) (above a) hn))
      have Hz := Lib.hid hsz
      have Hv := Lib.hid hv
      have Hv2 := Lib.hid hv2
      clear hv hv2 hna hsz
      go_enter Try.func31, Try.ntmps31
      go_wp2_with fail
      refine (spec_validName a w (by omega)).mono ?_
      rintro e w1 ⟨rfl, hb⟩
      rw [Hv.out]
      go_wp2_with fail
      refine (spec_validName b w1 (by omega)).mono ?_
      rintro e w2 ⟨rfl, hb2⟩
      rw [Hv2.out]
      go_wp2_with fail
      refine (spec_above a w2 (by omega)).mono ?_
      rintro e w3 ⟨v, rfl, hown, hb3⟩
      obtain ⟨b1, o1, c1, rfl, hl1, hm1, hb1, hc1⟩ := Reads.some (Reads.of_owns hown) hal.1
      have Hbe := Lib.hid (bt (bt hb hb2) hb3)
      have Hc := Lib.hid hc1
      clear hown hb hb2 hb3 hc1 hm1
      obtain ⟨hal1, hal2⟩ := hal
      generalize above a = xs at *
      go_wp2_with fail
      go_loop [6] (fun kv => ∃ k : Nat, k ≤ xs.length ∧ kv = .int .i64 ((k : Int) - 1) ∧ ∀ j (hj : j < xs.length), k ≤ j → isUnder b xs[j] = false) (fun kv => (intOf kv + 1).toNat)
      case atStart => exact ⟨xs.length, by omega, rfl, fun j hj h => absurd hj (by omega)⟩
      case round =>
        obtain ⟨k, hk, rfl, hn⟩ := hrel
        have Hn := Lib.hid hn
        clear hn
        cases k with
        | zero =>
          have He := Lib.hid (Hno.out (fun j hj => Hn.out j hj (by omega)))
          go_wp2_with fail
          go_ret
          rw [He.out]
          exact ⟨rfl, Hbe.out⟩
        | succ k =>
          have hlt : k < xs.length := by omega
          have hcell := Hc.out k hlt
          have hs1 := Hz.out _ (List.getElem_mem hlt)
          have hiu := Hiu.out _ (List.getElem_mem hlt)
          have hcast : ((k + 1 : Nat) : Int) - 1 = (k : Int) := by omega
          rw [hcast]
          clear hcast
          cases hu : isUnder b xs[k]
          · have Hu := Lib.hid (hiu.symm.trans hu)
            have Hnn := Lib.hid (show ∀ j (hj : j < xs.length), k ≤ j → isUnder b xs[j] = false from fun j hj h => by
              by_cases e : j = k
              · subst e; exact hu
              · exact Hn.out j hj (by omega))
            clear hu hiu
            generalize xs[k] = nm at *
            go_wp2_with fail
            refine (spec_under b nm _ (by omega) (by omega)).mono ?_
            rintro e w4 ⟨rfl, rfl⟩
            rw [Hu.out]
            go_wp2_with fail
            go_round
            case rel => exact ⟨k, by omega, rfl, Hnn.out⟩
            case measure => simp [intOf] <;> omega
          · have Hu := Lib.hid (hiu.symm.trans hu)
            have He := Lib.hid (Hyes.out k hlt hu (fun j hj h => Hn.out j hj (by omega)))
            clear hu hiu
            generalize xs[k] = nm at *
            go_wp2_with fail
            refine (spec_under b nm _ (by omega) (by omega)).mono ?_
            rintro e w4 ⟨rfl, rfl⟩
            rw [Hu.out]
            go_wp2_with fail
            go_ret
            rw [He.out]
            exact ⟨rfl, Hbe.out⟩
end Go.Proofs.Ytpopbcidnhepiab
