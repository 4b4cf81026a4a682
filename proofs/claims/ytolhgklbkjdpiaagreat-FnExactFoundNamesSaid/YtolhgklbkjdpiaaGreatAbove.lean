/- Contracts of the functions that tell the names above a name. -/
import Derived.Test.YtolhgklbkjdpiaaGreatUnder
import Derived.Test.YtolhgklbkjdpiaaGreatPlain2
set_option linter.unusedVariables false
set_option linter.unusedSimpArgs false
namespace Go.Proofs.YtolhgklbkjdpiaaGreat
open Go.RowKit Go.Proofs.YtolhgklbkjdpiaaGreat.Nm

def abv (ps : List Bs) (k : Nat) : List Bs := (List.range k).map (fun i => join (ps.take (i + 1)))
theorem abv_len (ps : List Bs) (k : Nat) : (abv ps k).length = k := by simp [abv]
theorem abv_succ (ps : List Bs) (k : Nat) : abv ps k ++ [join (ps.take (k + 1))] = abv ps (k + 1) := by simp [abv, List.range_succ]
theorem above_abv (l : Bs) : above l = abv (split l) (split l).length := rfl

set_option maxRecDepth 100000 in
set_option maxHeartbeats 1000000 in
theorem impl_NamesAbove (l : Bs) (w : World) (hs : l.length ≤ 8000000) :
    Calls Tryz.prog 64 #[.string (mk l)] w (NewStrs 9 (namesAbove l) w) := by
  obtain ⟨i0, hi, hz0, hz1, hz2⟩ := info_parts infoS
  have Hi := Lib.hid hi
  have Hz0 := Lib.hid hz0
  have Hz1 := Lib.hid hz1
  have Hz2 := Lib.hid hz2
  clear hi hz0 hz1 hz2
  cases hv : vn l
  · have Hf := Lib.hid (show namesAbove l = [] by simp [namesAbove, hv])
    have Hp := Lib.hid (parts_not hv)
    clear hv
    go_enter Tryz.func64, Tryz.ntmps64
    go_wp2_with fail
    refine (impl_PartsOf l w hs).mono ?_
    rintro e w1 ⟨v, rfl, hown, hb⟩
    rw [Hp.out] at hown
    obtain ⟨a, cap, rfl⟩ := owns_shape hown
    clear hown
    go_wp2_with fail
    go_loop [3, 10] (fun nv kv => kv = .int .i64 0 ∧ nv = .slice none 0 0) (fun _ _ => 0)
    case atStart => exact ⟨rfl, rfl⟩
    case round =>
      obtain ⟨rfl, rfl⟩ := hrel
      go_wp2_with fail
      go_ret
      rw [Hf.out]
      exact ⟨_, rfl, World.ownsRow_nil _ _ _ _, hb⟩
  · have Hf := Lib.hid (show namesAbove l = abv (split l) (split l).length by rw [← above_abv]; simp [namesAbove, hv])
    have hpe := parts_of hv
    have hvs := vps_iff.1 (show vps (split l) = true from hv)
    obtain ⟨⟨hp1, hp3⟩, hvp⟩ := hvs
    have Hvp := Lib.hid hvp
    clear hv hvp
    go_enter Tryz.func64, Tryz.ntmps64
    go_wp2_with fail
    refine (impl_PartsOf l w hs).mono ?_
    rintro e w1 ⟨v, rfl, hown, hb⟩
    rw [hpe] at hown
    obtain ⟨b, off, cap, rfl, hl, hm, hbl, hc⟩ := Reads.some (Reads.of_owns hown) hp1
    have Hc := Lib.hid hc
    have Hm := Lib.hid hm
    unfold maxLen at hm
    clear hown hc hpe
    generalize split l = ps at *
    go_wp2_with fail
    go_loopw [3, 10] (fun nv kv wr => ∃ k : Nat, k ≤ ps.length ∧ kv = .int .i64 k ∧ wr.ownsRow w1.heap.size 9 1 nv k ((abv ps k).map sv) ∧ Below w1.heap.size w1 wr) (fun _ kv _ => ps.length - (intOf kv).toNat)
    case atStart => exact ⟨0, by omega, rfl, World.ownsRow_nil _ _ _ _, Below.refl _ _⟩
    case round =>
      obtain ⟨k, hk, rfl, hown2, hbel⟩ := hrel
      have hwz := hbel.size
      have Hown := Lib.hid hown2
      have Hbel := Lib.hid hbel
      clear hown2
      by_cases hlt : k < ps.length
      · have hrd := Lib.hid (Reads.below (front_reads (k + 1) (by omega) hl Hm.out hbl Hc.out) Hbel.out)
        have hje := Lib.hid (jn_eq (ps := ps.take (k + 1)) (fun p hp => vp_ne (Hvp.out p (List.mem_of_mem_take hp))))
        clear hbel
        go_wp2_with fail
        refine (impl_joinWithDots _ (ps.take (k + 1)) _ hrd.out (by simp; omega) (fun p hp => Nat.le_trans (vp_len (Hvp.out p (List.mem_of_mem_take hp))).2 (by decide))).mono ?_
        rintro e w3 ⟨rfl, rfl⟩
        rw [hje.out]
        have habv := Lib.hid (abv_succ ps k)
        generalize join (ps.take (k + 1)) = t at *
        go_wp2_with (at_builtin; refine wpList_append_own _ rfl _ _ 27 rfl w1.heap.size 9 i0 (.string ByteArray.empty) 1 16 Tryz.underlying27 Hi.out Hz0.out Hz1.out Hz2.out rfl (by decide) _ _ _ rfl (Hown.out.alloc _) ⟨wr.heap.size, 0, none⟩ 1 1 [.string (mk t)] rfl rfl (cell_one_new _ _ _) (fun x hx => by simp at hx; subst hx; rfl) (by unfold maxLen; omega) (by omega) (by simp; omega) ?_; intro v' w5 hown5 hgrow5 hnil5)
        rw [map_snoc, habv.out] at hown5
        have hb5 := Lib.hid ((Hbel.out.alloc (by omega) _).grown hgrow5 (by simp; omega) (fun g hg => (Hown.out.lt g hg).1))
        go_roundw
        case rel => exact ⟨k + 1, by omega, by go_num, hown5, hb5.out⟩
        case measure => simp [intOf]; omega
      · obtain rfl : k = ps.length := by omega
        clear hbel
        go_wp2_with fail
        go_ret
        rw [Hf.out]
        exact ⟨_, rfl, by rw [abv_len]; exact owns_mono Hown.out hb.size, bt hb Hbel.out⟩

set_option maxRecDepth 100000 in
set_option maxHeartbeats 1000000 in
theorem spec_above (l : Bs) (w : World) (hs : l.length ≤ 8000000) :
    Calls Tryz.prog 52 #[.string (mk l)] w (NewStrs 9 (above l) w) := by
  obtain ⟨i0, hi, hz0, hz1, hz2⟩ := info_parts infoS
  have Hi := Lib.hid hi
  have Hz0 := Lib.hid hz0
  have Hz1 := Lib.hid hz1
  have Hz2 := Lib.hid hz2
  clear hi hz0 hz1 hz2
  have hpos := split_pos l
  have hcnt := split_count l
  have Hf := Lib.hid (above_abv l)
  have Hjl := Lib.hid (fun k => Nat.le_trans (join_take_le (split l) k) (by rw [join_split]; exact Nat.le_trans hs (by decide : 8000000 ≤ 9500000)))
  go_enter Tryz.func52, Tryz.ntmps52
  go_wp2_with fail
  refine (spec_splitAt l w (by omega)).mono ?_
  rintro e w1 ⟨v, rfl, hown, hb⟩
  obtain ⟨b, off, cap, rfl, hl, hm, hbl, hc⟩ := Reads.some (Reads.of_owns hown) hpos
  have Hc := Lib.hid hc
  have Hm := Lib.hid hm
  unfold maxLen at hm
  clear hown hc
  generalize split l = ps at *
  go_wp2_with fail
  go_loopw [4, 5] (fun nv kv wr => ∃ k : Nat, k ≤ ps.length ∧ kv = .int .i64 ((k : Int) + 1) ∧ wr.ownsRow w1.heap.size 9 1 nv k ((abv ps k).map sv) ∧ Below w1.heap.size w1 wr) (fun _ kv _ => ps.length + 1 - (intOf kv).toNat)
  case atStart => exact ⟨0, by omega, rfl, World.ownsRow_made w1 #[] 0 (Nat.le_refl _) (by omega) rfl, (Below.refl _ _).alloc (Nat.le_refl _) _⟩
  case round =>
    obtain ⟨k, hk, rfl, hown2, hbel⟩ := hrel
    have hwz := hbel.size
    have Hown := Lib.hid hown2
    have Hbel := Lib.hid hbel
    clear hown2
    by_cases hlt : k < ps.length
    · have hrd := Lib.hid (Reads.below (front_reads (k + 1) (by omega) hl Hm.out hbl Hc.out) Hbel.out)
      have hjk := Lib.hid (Hjl.out (k + 1))
      have hle : (k : Int) + 1 ≤ (ps.length : Int) := by omega
      clear hbel
      go_wp2_with fail
      refine (spec_join _ (ps.take (k + 1)) _ hrd.out (by simp; omega) hjk.out).mono ?_
      rintro e w3 ⟨rfl, rfl⟩
      have habv := Lib.hid (abv_succ ps k)
      generalize join (ps.take (k + 1)) = t at *
      go_wp2_with (at_builtin; refine wpList_append_own _ rfl _ _ 27 rfl w1.heap.size 9 i0 (.string ByteArray.empty) 1 16 Tryz.underlying27 Hi.out Hz0.out Hz1.out Hz2.out rfl (by decide) _ _ _ rfl (Hown.out.alloc _) ⟨wr.heap.size, 0, none⟩ 1 1 [.string (mk t)] rfl rfl (cell_one_new _ _ _) (fun x hx => by simp at hx; subst hx; rfl) (by unfold maxLen; omega) (by omega) (by simp; omega) ?_; intro v' w5 hown5 hgrow5 hnil5)
      rw [map_snoc, habv.out] at hown5
      have hb5 := Lib.hid ((Hbel.out.alloc (by omega) _).grown hgrow5 (by simp; omega) (fun g hg => (Hown.out.lt g hg).1))
      go_roundw
      case rel => exact ⟨k + 1, by omega, by go_num, hown5, hb5.out⟩
      case measure => simp [intOf]; omega
    · obtain rfl : k = ps.length := by omega
      have hle : ¬ (ps.length : Int) + 1 ≤ (ps.length : Int) := by omega
      clear hbel
      go_wp2_with fail
      go_ret
      rw [Hf.out]
      exact ⟨_, rfl, by rw [abv_len]; exact owns_mono Hown.out hb.size, bt hb Hbel.out⟩

end Go.Proofs.YtolhgklbkjdpiaaGreat
