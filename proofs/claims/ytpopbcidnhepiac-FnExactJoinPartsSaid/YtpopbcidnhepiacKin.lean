/- Contracts of the functions that tell the parent, the last part and a child of a name, and what is under a package. -/
import Derived.Test.YtpopbcidnhepiacParts
set_option linter.unusedVariables false
set_option linter.unusedSimpArgs false
namespace Go.Proofs.Ytpopbcidnhepiac
open Go.RowKit Go.Proofs.Ytpopbcidnhepiac.Nm



set_option maxRecDepth 100000 in
set_option maxHeartbeats 400000 in
theorem impl_ParentOf (l : Bs) (w : World) (hs : l.length ≤ 8000000) :
    Calls Try.prog 23 #[.string (mk l)] w fun e w' => e = .returned (.string (mk (parentOf l))) ∧ Below w.heap.size w w' := by
  cases hv : vn l
  · have Hf := Lib.hid (show parentOf l = [] by simp [parentOf, hv])
    have hp := parts_not hv
    clear hv
    go_enter Try.func23, Try.ntmps23
    go_wp2_with fail
    refine (impl_PartsOf l w hs).mono ?_
    rintro e w1 ⟨v, rfl, hown, hb⟩
    rw [hp] at hown
    obtain ⟨a, cap, rfl⟩ := owns_shape hown
    clear hown hp
    go_wp2_with fail
    go_ret
    rw [Hf.out]
    exact ⟨rfl, hb⟩
  · have Hf := Lib.hid (show parentOf l = jn ((parts l).take ((parts l).length - 1)) by rw [parent_eq hv]; simp [parentOf, hv])
    have hvs := (vps_iff.1 hv).1
    have Hq := Lib.hid (fun p (hp : p ∈ parts l) => (vp_len ((vps_iff.1 hv).2 p (by rw [parts_of hv] at hp; exact hp))).2)
    have hlen : 1 ≤ (parts l).length ∧ (parts l).length ≤ 3 := by rw [parts_of hv]; exact hvs
    clear hv hvs
    go_enter Try.func23, Try.ntmps23
    go_wp2_with fail
    refine (impl_PartsOf l w hs).mono ?_
    rintro e w1 ⟨v, rfl, hown, hb⟩
    obtain ⟨b, off, cap, rfl, hl, hm, hbl, hc⟩ := Reads.some (Reads.of_owns hown) hlen.1
    clear hown
    have hrd := Lib.hid (front_reads ((parts l).length - 1) (by omega) hl hm hbl hc)
    have hne : (((parts l).length : Int) == 0) = false := by rw [beq_eq_false_iff_ne]; omega
    have hmm := hm
    unfold maxLen at hmm
    clear hc hm
    have e1 : (((parts l).length : Int) - 1).toNat = (parts l).length - 1 := by omega
    generalize hN : (parts l).length = N at *
    have HN := Lib.hid hN
    clear hN
    obtain ⟨h1, h3⟩ := hlen
    go_wp2_with fail
    refine (impl_joinWithDots _ _ w1 hrd.out (by simp; omega) (fun p hp => Nat.le_trans (Hq.out p (List.mem_of_mem_take hp)) (by decide))).mono ?_
    rintro e w2 ⟨rfl, rfl⟩
    go_wp2_with fail
    go_ret
    rw [Hf.out]
    exact ⟨rfl, hb⟩

set_option maxRecDepth 100000 in
set_option maxHeartbeats 400000 in
theorem impl_LastOf (l : Bs) (w : World) (hs : l.length ≤ 8000000) :
    Calls Try.prog 25 #[.string (mk l)] w fun e w' => e = .returned (.string (mk (lastOf l))) ∧ Below w.heap.size w w' := by
  cases hv : vn l
  · have Hf := Lib.hid (show lastOf l = [] by simp [lastOf, hv])
    have hp := parts_not hv
    clear hv
    go_enter Try.func25, Try.ntmps25
    go_wp2_with fail
    refine (impl_PartsOf l w hs).mono ?_
    rintro e w1 ⟨v, rfl, hown, hb⟩
    rw [hp] at hown
    obtain ⟨a, cap, rfl⟩ := owns_shape hown
    clear hown hp
    go_wp2_with fail
    go_ret
    rw [Hf.out]
    exact ⟨rfl, hb⟩
  · have Hf := Lib.hid (show lastOf l = last l by simp [lastOf, hv])
    have hpos := split_pos l
    have hcnt := split_count l
    have hle := last_eq l
    have hpe := parts_of hv
    clear hv
    go_enter Try.func25, Try.ntmps25
    go_wp2_with fail
    refine (impl_PartsOf l w hs).mono ?_
    rintro e w1 ⟨v, rfl, hown, hb⟩
    rw [hpe] at hown
    clear hpe
    obtain ⟨b, off, cap, rfl, hl, hm, hbl, hc⟩ := Reads.some (Reads.of_owns hown) hpos
    clear hown
    have hcell := hc ((split l).length - 1) (by omega)
    rw [hle (by omega)] at hcell
    have hne : (((split l).length : Int) == 0) = false := by rw [beq_eq_false_iff_ne]; omega
    clear hc hm hle
    generalize (split l).length = N at *
    generalize last l = q at *
    go_wp2_with fail
    go_ret
    rw [Hf.out]
    exact ⟨rfl, hb⟩

set_option maxRecDepth 100000 in
set_option maxHeartbeats 400000 in
theorem spec_parent (l : Bs) (w : World) (hs : l.length ≤ 8000000) :
    Calls Try.prog 35 #[.string (mk l)] w fun e w' => e = .returned (.string (mk (parent l))) ∧ Below w.heap.size w w' := by
  have hpos := split_pos l
  have hcnt := split_count l
  have Hl := Lib.hid (Nat.le_trans (parent_len l) hs)
  have Hp := Lib.hid (show parent l = join ((split l).take ((split l).length - 1)) by rw [parent, List.dropLast_eq_take])
  go_enter Try.func35, Try.ntmps35
  go_wp2_with fail
  refine (spec_splitAt l w (by omega)).mono ?_
  rintro e w1 ⟨v, rfl, hown, hb⟩
  obtain ⟨b, off, cap, rfl, hl, hm, hbl, hc⟩ := Reads.some (Reads.of_owns hown) hpos
  clear hown
  have hrd := Lib.hid (front_reads ((split l).length - 1) (by omega) hl hm hbl hc)
  have hmm := hm
  unfold maxLen at hmm
  clear hc hm
  generalize hN : (split l).length = N at *
  have HN := Lib.hid hN
  clear hN
  go_wp2_with fail
  refine (spec_join _ _ w1 hrd.out (by simp; omega) (by rw [← Hp.out]; have := Hl.out; omega)).mono ?_
  rintro e w2 ⟨rfl, rfl⟩
  go_wp2_with fail
  go_ret
  rw [Hp.out]
  exact ⟨rfl, hb⟩

set_option maxRecDepth 100000 in
set_option maxHeartbeats 400000 in
theorem spec_ParentOf (l : Bs) (w : World) (hs : l.length ≤ 8000000) :
    Calls Try.prog 22 #[.string (mk l)] w fun e w' => e = .returned (.string (mk (parentOf l))) ∧ Below w.heap.size w w' := by
  cases hv : vn l
  · have Hf := Lib.hid (show parentOf l = [] by simp [parentOf, hv])
    have Hv := Lib.hid hv
    clear hv
    go_enter Try.func22, Try.ntmps22
    go_wp2_with fail
    refine (spec_validName l w hs).mono ?_
    rintro e w1 ⟨rfl, hb⟩
    rw [Hv.out]
    go_wp2_with fail
    go_ret
    rw [Hf.out]
    exact ⟨rfl, hb⟩
  · have Hf := Lib.hid (show parentOf l = parent l by simp [parentOf, hv])
    have Hv := Lib.hid hv
    clear hv
    go_enter Try.func22, Try.ntmps22
    go_wp2_with fail
    refine (spec_validName l w hs).mono ?_
    rintro e w1 ⟨rfl, hb⟩
    rw [Hv.out]
    go_wp2_with fail
    refine (spec_parent l w1 hs).mono ?_
    rintro e w2 ⟨rfl, hb2⟩
    go_wp2_with fail
    go_ret
    rw [Hf.out]
    exact ⟨rfl, bt hb hb2⟩

set_option maxRecDepth 100000 in
set_option maxHeartbeats 400000 in
theorem spec_last (l : Bs) (w : World) (hs : l.length ≤ 8000000) :
    Calls Try.prog 36 #[.string (mk l)] w fun e w' => e = .returned (.string (mk (last l))) ∧ Below w.heap.size w w' := by
  have hpos := split_pos l
  have hcnt := split_count l
  have hle := last_eq l
  go_enter Try.func36, Try.ntmps36
  go_wp2_with fail
  refine (spec_splitAt l w (by omega)).mono ?_
  rintro e w1 ⟨v, rfl, hown, hb⟩
  obtain ⟨b, off, cap, rfl, hl, hm, hbl, hc⟩ := Reads.some (Reads.of_owns hown) hpos
  clear hown
  have hcell := hc ((split l).length - 1) (by omega)
  rw [hle (by omega)] at hcell
  clear hc hm hle
  generalize (split l).length = N at *
  obtain ⟨q, hq⟩ : ∃ q, q = last l := ⟨_, rfl⟩
  rw [← hq] at hcell
  have Hq := Lib.hid hq
  clear hq
  go_wp2_with fail
  go_ret
  rw [← Hq.out]
  exact ⟨rfl, hb⟩

set_option maxRecDepth 100000 in
set_option maxHeartbeats 400000 in
theorem spec_LastOf (l : Bs) (w : World) (hs : l.length ≤ 8000000) :
    Calls Try.prog 24 #[.string (mk l)] w fun e w' => e = .returned (.string (mk (lastOf l))) ∧ Below w.heap.size w w' := by
  cases hv : vn l
  · have Hf := Lib.hid (show lastOf l = [] by simp [lastOf, hv])
    have Hv := Lib.hid hv
    clear hv
    go_enter Try.func24, Try.ntmps24
    go_wp2_with fail
    refine (spec_validName l w hs).mono ?_
    rintro e w1 ⟨rfl, hb⟩
    rw [Hv.out]
    go_wp2_with fail
    go_ret
    rw [Hf.out]
    exact ⟨rfl, hb⟩
  · have Hf := Lib.hid (show lastOf l = last l by simp [lastOf, hv])
    have Hv := Lib.hid hv
    clear hv
    go_enter Try.func24, Try.ntmps24
    go_wp2_with fail
    refine (spec_validName l w hs).mono ?_
    rintro e w1 ⟨rfl, hb⟩
    rw [Hv.out]
    go_wp2_with fail
    refine (spec_last l w1 hs).mono ?_
    rintro e w2 ⟨rfl, hb2⟩
    go_wp2_with fail
    go_ret
    rw [Hf.out]
    exact ⟨rfl, bt hb hb2⟩




end Go.Proofs.Ytpopbcidnhepiac
