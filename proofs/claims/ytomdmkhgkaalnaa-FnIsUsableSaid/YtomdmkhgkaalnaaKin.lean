/- Contracts of the functions that tell the parent, the last part and a child of a name, and what is under a package. -/
import Derived.Test.YtomdmkhgkaalnaaVp
import Derived.Test.YtomdmkhgkaalnaaPlain
set_option linter.unusedVariables false
set_option linter.unusedSimpArgs false
namespace Go.Proofs.Ytomdmkhgkaalnaa
open Go.RowKit Go.Proofs.Ytomdmkhgkaalnaa.Nm

set_option maxRecDepth 100000 in
set_option maxHeartbeats 400000 in
theorem impl_validPackage (l : Bs) (w : World) (hs : l.length ≤ 8000000) :
    Calls Try.prog 154 #[.string (mk l)] w fun e w' => e = .returned (.bool (vpk l)) ∧ Below w.heap.size w w' := by
  by_cases h0 : l = []
  · subst h0
    go_enter Try.func154, Try.ntmps154
    go_wp2_with fail
    go_ret
    exact ⟨rfl, Below.refl _ _⟩
  · have hd : l.isEmpty = false := by simpa using h0
    have Hv := Lib.hid (show vpk l = vn l by rw [vpk, hd]; rfl)
    go_enter Try.func154, Try.ntmps154
    go_wp2_with fail
    refine (impl_ValidName l w hs).mono ?_
    rintro e w1 ⟨rfl, hb⟩
    go_wp2_with fail
    go_ret
    rw [Hv.out]
    exact ⟨rfl, hb⟩

set_option maxRecDepth 100000 in
set_option maxHeartbeats 400000 in
theorem spec_validPackage (l : Bs) (w : World) (hs : l.length ≤ 8000000) :
    Calls Try.prog 134 #[.string (mk l)] w fun e w' => e = .returned (.bool (vpk l)) ∧ Below w.heap.size w w' := by
  by_cases h0 : l = []
  · subst h0
    go_enter Try.func134, Try.ntmps134
    go_wp2_with fail
    go_ret
    exact ⟨rfl, Below.refl _ _⟩
  · have hd : l.isEmpty = false := by simpa using h0
    have Hv := Lib.hid (show vpk l = vn l by rw [vpk, hd]; rfl)
    go_enter Try.func134, Try.ntmps134
    go_wp2_with fail
    refine (spec_validName l w hs).mono ?_
    rintro e w1 ⟨rfl, hb⟩
    go_wp2_with fail
    go_ret
    rw [Hv.out]
    exact ⟨rfl, hb⟩

set_option maxRecDepth 100000 in
set_option maxHeartbeats 400000 in
theorem impl_ParentOf (l : Bs) (w : World) (hs : l.length ≤ 8000000) :
    Calls Try.prog 148 #[.string (mk l)] w fun e w' => e = .returned (.string (mk (parentOf l))) ∧ Below w.heap.size w w' := by
  cases hv : vn l
  · have Hf := Lib.hid (show parentOf l = [] by simp [parentOf, hv])
    have hp := parts_not hv
    clear hv
    go_enter Try.func148, Try.ntmps148
    go_wp2_with fail
    refine (impl_PartsOf l w hs).mono ?_
    rintro e w1 ⟨v, rfl, hown, hb⟩
    rw [hp] at hown
    obtain ⟨a, cap, rfl⟩ := owns_shape hown
    clear hown hp
    go_wp2_with fail
    go_ret
    rw [Hf.out]
    exact ⟨rfl, hb⟩
  · have Hf := Lib.hid (show parentOf l = jn ((parts l).take ((parts l).length - 1)) by rw [parent_eq hv]; simp [parentOf, hv])
    have hvs := (vps_iff.1 hv).1
    have Hq := Lib.hid (fun p (hp : p ∈ parts l) => (vp_len ((vps_iff.1 hv).2 p (by rw [parts_of hv] at hp; exact hp))).2)
    have hlen : 1 ≤ (parts l).length ∧ (parts l).length ≤ 3 := by rw [parts_of hv]; exact hvs
    clear hv hvs
    go_enter Try.func148, Try.ntmps148
    go_wp2_with fail
    refine (impl_PartsOf l w hs).mono ?_
    rintro e w1 ⟨v, rfl, hown, hb⟩
    obtain ⟨b, off, cap, rfl, hl, hm, hbl, hc⟩ := Reads.some (Reads.of_owns hown) hlen.1
    clear hown
    have hrd := Lib.hid (front_reads ((parts l).length - 1) (by omega) hl hm hbl hc)
    have hne : (((parts l).length : Int) == 0) = false := by rw [beq_eq_false_iff_ne]; omega
    have hmm := hm
    unfold maxLen at hmm
    clear hc hm
    have e1 : (((parts l).length : Int) - 1).toNat = (parts l).length - 1 := by omega
    generalize hN : (parts l).length = N at *
    have HN := Lib.hid hN
    clear hN
    obtain ⟨h1, h3⟩ := hlen
    go_wp2_with fail
    refine (impl_joinWithDots _ _ w1 hrd.out (by simp; omega) (fun p hp => Nat.le_trans (Hq.out p (List.mem_of_mem_take hp)) (by decide))).mono ?_
    rintro e w2 ⟨rfl, rfl⟩
    go_wp2_with fail
    go_ret
    rw [Hf.out]
    exact ⟨rfl, hb⟩

set_option maxRecDepth 100000 in
set_option maxHeartbeats 400000 in
theorem impl_LastOf (l : Bs) (w : World) (hs : l.length ≤ 8000000) :
    Calls Try.prog 149 #[.string (mk l)] w fun e w' => e = .returned (.string (mk (lastOf l))) ∧ Below w.heap.size w w' := by
  cases hv : vn l
  · have Hf := Lib.hid (show lastOf l = [] by simp [lastOf, hv])
    have hp := parts_not hv
    clear hv
    go_enter Try.func149, Try.ntmps149
    go_wp2_with fail
    refine (impl_PartsOf l w hs).mono ?_
    rintro e w1 ⟨v, rfl, hown, hb⟩
    rw [hp] at hown
    obtain ⟨a, cap, rfl⟩ := owns_shape hown
    clear hown hp
    go_wp2_with fail
    go_ret
    rw [Hf.out]
    exact ⟨rfl, hb⟩
  · have Hf := Lib.hid (show lastOf l = last l by simp [lastOf, hv])
    have hpos := split_pos l
    have hcnt := split_count l
    have hle := last_eq l
    have hpe := parts_of hv
    clear hv
    go_enter Try.func149, Try.ntmps149
    go_wp2_with fail
    refine (impl_PartsOf l w hs).mono ?_
    rintro e w1 ⟨v, rfl, hown, hb⟩
    rw [hpe] at hown
    clear hpe
    obtain ⟨b, off, cap, rfl, hl, hm, hbl, hc⟩ := Reads.some (Reads.of_owns hown) hpos
    clear hown
    have hcell := hc ((split l).length - 1) (by omega)
    rw [hle (by omega)] at hcell
    have hne : (((split l).length : Int) == 0) = false := by rw [beq_eq_false_iff_ne]; omega
    clear hc hm hle
    generalize (split l).length = N at *
    generalize last l = q at *
    go_wp2_with fail
    go_ret
    rw [Hf.out]
    exact ⟨rfl, hb⟩





set_option maxRecDepth 100000 in
set_option maxHeartbeats 400000 in
theorem impl_nameOrNothing (l : Bs) (w : World) (hs : l.length ≤ 8000000) :
    Calls Try.prog 137 #[.string (mk l)] w fun e w' => e = .returned (.string (mk (nameOr l))) ∧ Below w.heap.size w w' := by
  cases hv : vn l
  · have Hn := Lib.hid (nameOr_no hv)
    have Hv := Lib.hid hv
    clear hv
    go_enter Try.func137, Try.ntmps137
    go_wp2_with fail
    refine (impl_ValidName l w hs).mono ?_
    rintro e w1 ⟨rfl, hb⟩
    rw [Hv.out]
    go_wp2_with fail
    go_ret
    rw [Hn.out]
    exact ⟨rfl, hb⟩
  · have Hn := Lib.hid (nameOr_yes hv)
    have Hv := Lib.hid hv
    clear hv
    go_enter Try.func137, Try.ntmps137
    go_wp2_with fail
    refine (impl_ValidName l w hs).mono ?_
    rintro e w1 ⟨rfl, hb⟩
    rw [Hv.out]
    go_wp2_with fail
    go_ret
    rw [Hn.out]
    exact ⟨rfl, hb⟩

set_option maxRecDepth 100000 in
set_option maxHeartbeats 400000 in
theorem impl_ChildOf (p s : Bs) (w : World) (hp : p.length ≤ 8000000) (hs : s.length ≤ 8000000) :
    Calls Try.prog 136 #[.string (mk p), .string (mk s)] w fun e w' => e = .returned (.string (mk (childOf p s))) ∧ Below w.heap.size w w' := by
  cases hv : vpk p
  · have Hf := Lib.hid (show childOf p s = [] by simp [childOf, hv])
    have Hv := Lib.hid hv
    clear hv
    go_enter Try.func136, Try.ntmps136
    go_wp2_with fail
    refine (impl_validPackage p w hp).mono ?_
    rintro e w1 ⟨rfl, hb⟩
    rw [Hv.out]
    go_wp2_with fail
    go_ret
    rw [Hf.out]
    exact ⟨rfl, hb⟩
  · cases hv2 : vp s
    · have Hf := Lib.hid (show childOf p s = [] by simp [childOf, hv2])
      have Hv := Lib.hid hv
      have Hv2 := Lib.hid hv2
      clear hv hv2
      go_enter Try.func136, Try.ntmps136
      go_wp2_with fail
      refine (impl_validPackage p w hp).mono ?_
      rintro e w1 ⟨rfl, hb⟩
      rw [Hv.out]
      go_wp2_with fail
      refine (impl_ValidPart s w1 (by omega)).mono ?_
      rintro e w2 ⟨rfl, hb2⟩
      rw [Hv2.out]
      go_wp2_with fail
      go_ret
      rw [Hf.out]
      exact ⟨rfl, bt hb hb2⟩
    · have Hf := Lib.hid (show childOf p s = nameOr (jn [p, s]) by rw [child_jn (vp_ne hv2)]; simp [childOf, nameOr, hv, hv2])
      have hl1 := vpk_len hv
      have hl2 := (vp_len hv2).2
      have Hv := Lib.hid hv
      have Hv2 := Lib.hid hv2
      have Hj := Lib.hid (jn_len [p, s] 100 (fun q hq => by simp at hq; rcases hq with rfl | rfl <;> omega))
      clear hv hv2
      go_enter Try.func136, Try.ntmps136
      go_wp2_with fail
      refine (impl_validPackage p w hp).mono ?_
      rintro e w1 ⟨rfl, hb⟩
      rw [Hv.out]
      go_wp2_with fail
      refine (impl_ValidPart s w1 (by omega)).mono ?_
      rintro e w2 ⟨rfl, hb2⟩
      rw [Hv2.out]
      go_wp2_with fail
      refine (impl_joinWithDots _ [p, s] _ (reads_lit w2 [p, s] 9 (by unfold maxLen; simp)) (by simp) (fun q hq => by simp at hq; rcases hq with rfl | rfl <;> omega)).mono ?_
      rintro e w3 ⟨rfl, rfl⟩
      have hb3 := Lib.hid (Below.alloc (bt hb hb2) (by have := hb.size; have := hb2.size; omega) (.cells #[.string (mk p), .string (mk s)] 9))
      go_wp2_with fail
      refine (impl_nameOrNothing _ _ (by have := Hj.out; simp at this; omega)).mono ?_
      rintro e w4 ⟨rfl, hb4⟩
      have hb5 := Lib.hid (bt hb3.out hb4)
      go_wp2_with fail
      go_ret
      rw [Hf.out]
      exact ⟨rfl, hb5.out⟩

set_option maxRecDepth 100000 in
set_option maxHeartbeats 400000 in
theorem spec_child (p s : Bs) (w : World) (hp : p.length ≤ 8000000) (hs : s.length ≤ 8000000) :
    Calls Try.prog 119 #[.string (mk p), .string (mk s)] w fun e w' => e = .returned (.string (mk (child p s))) ∧ w = w' := by
  by_cases h0 : p = []
  · subst h0
    go_enter Try.func119, Try.ntmps119
    go_wp2_with fail
    go_ret
    exact ⟨rfl, rfl⟩
  · have hd : p.isEmpty = false := by simpa using h0
    have Hf := Lib.hid (show child p s = p ++ 46 :: s by rw [child, if_neg h0])
    go_enter Try.func119, Try.ntmps119
    go_wp2_with fail
    go_ret
    rw [Hf.out]
    exact ⟨ret_str (by simp), rfl⟩


/-! ### Contracts of the functions that tell what is under a package. -/




/-! ### Contracts of the functions that tell the names above a name. -/
def abv (ps : List Bs) (k : Nat) : List Bs := (List.range k).map (fun i => join (ps.take (i + 1)))
theorem abv_len (ps : List Bs) (k : Nat) : (abv ps k).length = k := by simp [abv]
theorem abv_succ (ps : List Bs) (k : Nat) : abv ps k ++ [join (ps.take (k + 1))] = abv ps (k + 1) := by simp [abv, List.range_succ]
theorem above_abv (l : Bs) : above l = abv (split l) (split l).length := rfl



end Go.Proofs.Ytomdmkhgkaalnaa
