/- Contracts of the functions that tell the parent, the last part and a child of a name, and what is under a package. -/
import Derived.Test.YtgecemngfpgcoaaVp
import Derived.Test.YtgecemngfpgcoaaPlain
set_option linter.unusedVariables false
set_option linter.unusedSimpArgs false
namespace Go.Proofs.Ytgecemngfpgcoaa
open Go.RowKit Go.Proofs.Ytgecemngfpgcoaa.Nm

set_option maxRecDepth 100000 in
set_option maxHeartbeats 400000 in
theorem impl_validPackage (l : Bs) (w : World) (hs : l.length ≤ 8000000) :
    Calls Try.prog 93 #[.string (mk l)] w fun e w' => e = .returned (.bool (vpk l)) ∧ Below w.heap.size w w' := by
  by_cases h0 : l = []
  · subst h0
    go_enter Try.func93, Try.ntmps93
    go_wp2_with fail
    go_ret
    exact ⟨rfl, Below.refl _ _⟩
  · have hd : l.isEmpty = false := by simpa using h0
    have Hv := Lib.hid (show vpk l = vn l by rw [vpk, hd]; rfl)
    go_enter Try.func93, Try.ntmps93
    go_wp2_with fail
    refine (impl_ValidName l w hs).mono ?_
    rintro e w1 ⟨rfl, hb⟩
    go_wp2_with fail
    go_ret
    rw [Hv.out]
    exact ⟨rfl, hb⟩

set_option maxRecDepth 100000 in
set_option maxHeartbeats 400000 in
theorem spec_validPackage (l : Bs) (w : World) (hs : l.length ≤ 8000000) :
    Calls Try.prog 78 #[.string (mk l)] w fun e w' => e = .returned (.bool (vpk l)) ∧ Below w.heap.size w w' := by
  by_cases h0 : l = []
  · subst h0
    go_enter Try.func78, Try.ntmps78
    go_wp2_with fail
    go_ret
    exact ⟨rfl, Below.refl _ _⟩
  · have hd : l.isEmpty = false := by simpa using h0
    have Hv := Lib.hid (show vpk l = vn l by rw [vpk, hd]; rfl)
    go_enter Try.func78, Try.ntmps78
    go_wp2_with fail
    refine (spec_validName l w hs).mono ?_
    rintro e w1 ⟨rfl, hb⟩
    go_wp2_with fail
    go_ret
    rw [Hv.out]
    exact ⟨rfl, hb⟩







set_option maxRecDepth 100000 in
set_option maxHeartbeats 400000 in
theorem impl_nameOrNothing (l : Bs) (w : World) (hs : l.length ≤ 8000000) :
    Calls Try.prog 148 #[.string (mk l)] w fun e w' => e = .returned (.string (mk (nameOr l))) ∧ Below w.heap.size w w' := by
  cases hv : vn l
  · have Hn := Lib.hid (nameOr_no hv)
    have Hv := Lib.hid hv
    clear hv
    go_enter Try.func148, Try.ntmps148
    go_wp2_with fail
    refine (impl_ValidName l w hs).mono ?_
    rintro e w1 ⟨rfl, hb⟩
    rw [Hv.out]
    go_wp2_with fail
    go_ret
    rw [Hn.out]
    exact ⟨rfl, hb⟩
  · have Hn := Lib.hid (nameOr_yes hv)
    have Hv := Lib.hid hv
    clear hv
    go_enter Try.func148, Try.ntmps148
    go_wp2_with fail
    refine (impl_ValidName l w hs).mono ?_
    rintro e w1 ⟨rfl, hb⟩
    rw [Hv.out]
    go_wp2_with fail
    go_ret
    rw [Hn.out]
    exact ⟨rfl, hb⟩

set_option maxRecDepth 100000 in
set_option maxHeartbeats 400000 in
theorem impl_ChildOf (p s : Bs) (w : World) (hp : p.length ≤ 8000000) (hs : s.length ≤ 8000000) :
    Calls Try.prog 147 #[.string (mk p), .string (mk s)] w fun e w' => e = .returned (.string (mk (childOf p s))) ∧ Below w.heap.size w w' := by
  cases hv : vpk p
  · have Hf := Lib.hid (show childOf p s = [] by simp [childOf, hv])
    have Hv := Lib.hid hv
    clear hv
    go_enter Try.func147, Try.ntmps147
    go_wp2_with fail
    refine (impl_validPackage p w hp).mono ?_
    rintro e w1 ⟨rfl, hb⟩
    rw [Hv.out]
    go_wp2_with fail
    go_ret
    rw [Hf.out]
    exact ⟨rfl, hb⟩
  · cases hv2 : vp s
    · have Hf := Lib.hid (show childOf p s = [] by simp [childOf, hv2])
      have Hv := Lib.hid hv
      have Hv2 := Lib.hid hv2
      clear hv hv2
      go_enter Try.func147, Try.ntmps147
      go_wp2_with fail
      refine (impl_validPackage p w hp).mono ?_
      rintro e w1 ⟨rfl, hb⟩
      rw [Hv.out]
      go_wp2_with fail
      refine (impl_ValidPart s w1 (by omega)).mono ?_
      rintro e w2 ⟨rfl, hb2⟩
      rw [Hv2.out]
      go_wp2_with fail
      go_ret
      rw [Hf.out]
      exact ⟨rfl, bt hb hb2⟩
    · have Hf := Lib.hid (show childOf p s = nameOr (jn [p, s]) by rw [child_jn (vp_ne hv2)]; simp [childOf, nameOr, hv, hv2])
      have hl1 := vpk_len hv
      have hl2 := (vp_len hv2).2
      have Hv := Lib.hid hv
      have Hv2 := Lib.hid hv2
      have Hj := Lib.hid (jn_len [p, s] 100 (fun q hq => by simp at hq; rcases hq with rfl | rfl <;> omega))
      clear hv hv2
      go_enter Try.func147, Try.ntmps147
      go_wp2_with fail
      refine (impl_validPackage p w hp).mono ?_
      rintro e w1 ⟨rfl, hb⟩
      rw [Hv.out]
      go_wp2_with fail
      refine (impl_ValidPart s w1 (by omega)).mono ?_
      rintro e w2 ⟨rfl, hb2⟩
      rw [Hv2.out]
      go_wp2_with fail
      refine (impl_joinWithDots _ [p, s] _ (reads_lit w2 [p, s] 9 (by unfold maxLen; simp)) (by simp) (fun q hq => by simp at hq; rcases hq with rfl | rfl <;> omega)).mono ?_
      rintro e w3 ⟨rfl, rfl⟩
      have hb3 := Lib.hid (Below.alloc (bt hb hb2) (by have := hb.size; have := hb2.size; omega) (.cells #[.string (mk p), .string (mk s)] 9))
      go_wp2_with fail
      refine (impl_nameOrNothing _ _ (by have := Hj.out; simp at this; omega)).mono ?_
      rintro e w4 ⟨rfl, hb4⟩
      have hb5 := Lib.hid (bt hb3.out hb4)
      go_wp2_with fail
      go_ret
      rw [Hf.out]
      exact ⟨rfl, hb5.out⟩

set_option maxRecDepth 100000 in
set_option maxHeartbeats 400000 in
theorem spec_child (p s : Bs) (w : World) (hp : p.length ≤ 8000000) (hs : s.length ≤ 8000000) :
    Calls Try.prog 144 #[.string (mk p), .string (mk s)] w fun e w' => e = .returned (.string (mk (child p s))) ∧ w = w' := by
  by_cases h0 : p = []
  · subst h0
    go_enter Try.func144, Try.ntmps144
    go_wp2_with fail
    go_ret
    exact ⟨rfl, rfl⟩
  · have hd : p.isEmpty = false := by simpa using h0
    have Hf := Lib.hid (show child p s = p ++ 46 :: s by rw [child, if_neg h0])
    go_enter Try.func144, Try.ntmps144
    go_wp2_with fail
    go_ret
    rw [Hf.out]
    exact ⟨ret_str (by simp), rfl⟩


/-! ### Contracts of the functions that tell what is under a package. -/


set_option maxRecDepth 100000 in
set_option maxHeartbeats 400000 in
theorem spec_under (s p : Bs) (w : World) (hs : s.length ≤ 2000000) (hp : p.length ≤ 2000000) :
    Calls Try.prog 161 #[.string (mk s), .string (mk p)] w fun e w' => e = .returned (.bool (under s p)) ∧ w = w' := by
  by_cases h0 : p = []
  · subst h0
    go_enter Try.func161, Try.ntmps161
    go_wp2_with fail
    go_ret
    exact ⟨rfl, rfl⟩
  · have hd : p.isEmpty = false := by simpa using h0
    by_cases h1 : s = p
    · have Hu := Lib.hid (show under s p = true by rw [under, h1]; simp)
      subst h1
      go_enter Try.func161, Try.ntmps161
      go_wp2_with fail
      go_ret
      rw [Hu.out]
      exact ⟨rfl, rfl⟩
    · have hd1 : (s == p) = false := by simpa using h1
      by_cases hl : p.length < s.length
      · have Hu := Lib.hid (show under s p = (s.take (p.length + 1) == p ++ [46]) by
          have e : (p ++ [46]).length = p.length + 1 := by simp
          rw [under, hd, hd1, pre, e, decide_eq_true (by omega : p.length + 1 ≤ s.length)]; rfl)
        have hl' : (p.length : Int) < (s.length : Int) := by omega
        go_enter Try.func161, Try.ntmps161
        go_wp2_with fail
        go_ret
        rw [Hu.out]
        exact ⟨rfl, rfl⟩
      · have Hu := Lib.hid (show under s p = false by
          have e : (p ++ [46]).length = p.length + 1 := by simp
          rw [under, hd, hd1, pre, e, decide_eq_false (by omega : ¬ p.length + 1 ≤ s.length)]; rfl)
        have hl' : ¬ (p.length : Int) < (s.length : Int) := by omega
        go_enter Try.func161, Try.ntmps161
        go_wp2_with fail
        go_ret
        rw [Hu.out]
        exact ⟨rfl, rfl⟩


/-! ### Contracts of the functions that tell the names above a name. -/
def abv (ps : List Bs) (k : Nat) : List Bs := (List.range k).map (fun i => join (ps.take (i + 1)))
theorem abv_len (ps : List Bs) (k : Nat) : (abv ps k).length = k := by simp [abv]
theorem abv_succ (ps : List Bs) (k : Nat) : abv ps k ++ [join (ps.take (k + 1))] = abv ps (k + 1) := by simp [abv, List.range_succ]
theorem above_abv (l : Bs) : above l = abv (split l) (split l).length := rfl

set_option maxRecDepth 100000 in
set_option maxHeartbeats 1000000 in
theorem impl_NamesAbove (l : Bs) (w : World) (hs : l.length ≤ 8000000) :
    Calls Try.prog 83 #[.string (mk l)] w (NewStrs 9 (namesAbove l) w) := by
  obtain ⟨i0, hi, hz0, hz1, hz2⟩ := info_parts infoS
  have Hi := Lib.hid hi
  have Hz0 := Lib.hid hz0
  have Hz1 := Lib.hid hz1
  have Hz2 := Lib.hid hz2
  clear hi hz0 hz1 hz2
  cases hv : vn l
  · have Hf := Lib.hid (show namesAbove l = [] by simp [namesAbove, hv])
    have Hp := Lib.hid (parts_not hv)
    clear hv
    go_enter Try.func83, Try.ntmps83
    go_wp2_with fail
    refine (impl_PartsOf l w hs).mono ?_
    rintro e w1 ⟨v, rfl, hown, hb⟩
    rw [Hp.out] at hown
    obtain ⟨a, cap, rfl⟩ := owns_shape hown
    clear hown
    go_wp2_with fail
    go_loop [3, 10] (fun nv kv => kv = .int .i64 0 ∧ nv = .slice none 0 0) (fun _ _ => 0)
    case atStart => exact ⟨rfl, rfl⟩
    case round =>
      obtain ⟨rfl, rfl⟩ := hrel
      go_wp2_with fail
      go_ret
      rw [Hf.out]
      exact ⟨_, rfl, World.ownsRow_nil _ _ _ _, hb⟩
  · have Hf := Lib.hid (show namesAbove l = abv (split l) (split l).length by rw [← above_abv]; simp [namesAbove, hv])
    have hpe := parts_of hv
    have hvs := vps_iff.1 (show vps (split l) = true from hv)
    obtain ⟨⟨hp1, hp3⟩, hvp⟩ := hvs
    have Hvp := Lib.hid hvp
    clear hv hvp
    go_enter Try.func83, Try.ntmps83
    go_wp2_with fail
    refine (impl_PartsOf l w hs).mono ?_
    rintro e w1 ⟨v, rfl, hown, hb⟩
    rw [hpe] at hown
    obtain ⟨b, off, cap, rfl, hl, hm, hbl, hc⟩ := Reads.some (Reads.of_owns hown) hp1
    have Hc := Lib.hid hc
    have Hm := Lib.hid hm
    unfold maxLen at hm
    clear hown hc hpe
    generalize split l = ps at *
    go_wp2_with fail
    go_loopw [3, 10] (fun nv kv wr => ∃ k : Nat, k ≤ ps.length ∧ kv = .int .i64 k ∧ wr.ownsRow w1.heap.size 9 1 nv k ((abv ps k).map sv) ∧ Below w1.heap.size w1 wr) (fun _ kv _ => ps.length - (intOf kv).toNat)
    case atStart => exact ⟨0, by omega, rfl, World.ownsRow_nil _ _ _ _, Below.refl _ _⟩
    case round =>
      obtain ⟨k, hk, rfl, hown2, hbel⟩ := hrel
      have hwz := hbel.size
      have Hown := Lib.hid hown2
      have Hbel := Lib.hid hbel
      clear hown2
      by_cases hlt : k < ps.length
      · have hrd := Lib.hid (Reads.below (front_reads (k + 1) (by omega) hl Hm.out hbl Hc.out) Hbel.out)
        have hje := Lib.hid (jn_eq (ps := ps.take (k + 1)) (fun p hp => vp_ne (Hvp.out p (List.mem_of_mem_take hp))))
        clear hbel
        go_wp2_with fail
        refine (impl_joinWithDots _ (ps.take (k + 1)) _ hrd.out (by simp; omega) (fun p hp => Nat.le_trans (vp_len (Hvp.out p (List.mem_of_mem_take hp))).2 (by decide))).mono ?_
        rintro e w3 ⟨rfl, rfl⟩
        rw [hje.out]
        have habv := Lib.hid (abv_succ ps k)
        generalize join (ps.take (k + 1)) = t at *
        go_wp2_with (at_builtin; refine wpList_append_own _ rfl _ _ 70 rfl w1.heap.size 9 i0 (.string ByteArray.empty) 1 16 Try.underlying70 Hi.out Hz0.out Hz1.out Hz2.out rfl (by decide) _ _ _ rfl (Hown.out.alloc _) ⟨wr.heap.size, 0, none⟩ 1 1 [.string (mk t)] rfl rfl (cell_one_new _ _ _) (fun x hx => by simp at hx; subst hx; rfl) (by unfold maxLen; omega) (by omega) (by simp; omega) ?_; intro v' w5 hown5 hgrow5 hnil5)
        rw [map_snoc, habv.out] at hown5
        have hb5 := Lib.hid ((Hbel.out.alloc (by omega) _).grown hgrow5 (by simp; omega) (fun g hg => (Hown.out.lt g hg).1))
        go_roundw
        case rel => exact ⟨k + 1, by omega, by go_num, hown5, hb5.out⟩
        case measure => simp [intOf]; omega
      · obtain rfl : k = ps.length := by omega
        clear hbel
        go_wp2_with fail
        go_ret
        rw [Hf.out]
        exact ⟨_, rfl, by rw [abv_len]; exact owns_mono Hown.out hb.size, bt hb Hbel.out⟩

set_option maxRecDepth 100000 in
set_option maxHeartbeats 1000000 in
theorem spec_above (l : Bs) (w : World) (hs : l.length ≤ 8000000) :
    Calls Try.prog 124 #[.string (mk l)] w (NewStrs 9 (above l) w) := by
  obtain ⟨i0, hi, hz0, hz1, hz2⟩ := info_parts infoS
  have Hi := Lib.hid hi
  have Hz0 := Lib.hid hz0
  have Hz1 := Lib.hid hz1
  have Hz2 := Lib.hid hz2
  clear hi hz0 hz1 hz2
  have hpos := split_pos l
  have hcnt := split_count l
  have Hf := Lib.hid (above_abv l)
  have Hjl := Lib.hid (fun k => Nat.le_trans (join_take_le (split l) k) (by rw [join_split]; exact Nat.le_trans hs (by decide : 8000000 ≤ 9500000)))
  go_enter Try.func124, Try.ntmps124
  go_wp2_with fail
  refine (spec_splitAt l w (by omega)).mono ?_
  rintro e w1 ⟨v, rfl, hown, hb⟩
  obtain ⟨b, off, cap, rfl, hl, hm, hbl, hc⟩ := Reads.some (Reads.of_owns hown) hpos
  have Hc := Lib.hid hc
  have Hm := Lib.hid hm
  unfold maxLen at hm
  clear hown hc
  generalize split l = ps at *
  go_wp2_with fail
  go_loopw [4, 5] (fun nv kv wr => ∃ k : Nat, k ≤ ps.length ∧ kv = .int .i64 ((k : Int) + 1) ∧ wr.ownsRow w1.heap.size 9 1 nv k ((abv ps k).map sv) ∧ Below w1.heap.size w1 wr) (fun _ kv _ => ps.length + 1 - (intOf kv).toNat)
  case atStart => exact ⟨0, by omega, rfl, World.ownsRow_made w1 #[] 0 (Nat.le_refl _) (by omega) rfl, (Below.refl _ _).alloc (Nat.le_refl _) _⟩
  case round =>
    obtain ⟨k, hk, rfl, hown2, hbel⟩ := hrel
    have hwz := hbel.size
    have Hown := Lib.hid hown2
    have Hbel := Lib.hid hbel
    clear hown2
    by_cases hlt : k < ps.length
    · have hrd := Lib.hid (Reads.below (front_reads (k + 1) (by omega) hl Hm.out hbl Hc.out) Hbel.out)
      have hjk := Lib.hid (Hjl.out (k + 1))
      have hle : (k : Int) + 1 ≤ (ps.length : Int) := by omega
      clear hbel
      go_wp2_with fail
      refine (spec_join _ (ps.take (k + 1)) _ hrd.out (by simp; omega) hjk.out).mono ?_
      rintro e w3 ⟨rfl, rfl⟩
      have habv := Lib.hid (abv_succ ps k)
      generalize join (ps.take (k + 1)) = t at *
      go_wp2_with (at_builtin; refine wpList_append_own _ rfl _ _ 70 rfl w1.heap.size 9 i0 (.string ByteArray.empty) 1 16 Try.underlying70 Hi.out Hz0.out Hz1.out Hz2.out rfl (by decide) _ _ _ rfl (Hown.out.alloc _) ⟨wr.heap.size, 0, none⟩ 1 1 [.string (mk t)] rfl rfl (cell_one_new _ _ _) (fun x hx => by simp at hx; subst hx; rfl) (by unfold maxLen; omega) (by omega) (by simp; omega) ?_; intro v' w5 hown5 hgrow5 hnil5)
      rw [map_snoc, habv.out] at hown5
      have hb5 := Lib.hid ((Hbel.out.alloc (by omega) _).grown hgrow5 (by simp; omega) (fun g hg => (Hown.out.lt g hg).1))
      go_roundw
      case rel => exact ⟨k + 1, by omega, by go_num, hown5, hb5.out⟩
      case measure => simp [intOf]; omega
    · obtain rfl : k = ps.length := by omega
      have hle : ¬ (ps.length : Int) + 1 ≤ (ps.length : Int) := by omega
      clear hbel
      go_wp2_with fail
      go_ret
      rw [Hf.out]
      exact ⟨_, rfl, by rw [abv_len]; exact owns_mono Hown.out hb.size, bt hb Hbel.out⟩

end Go.Proofs.Ytgecemngfpgcoaa
