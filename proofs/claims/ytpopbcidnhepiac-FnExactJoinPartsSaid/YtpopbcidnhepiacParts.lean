/- Contracts of the functions that join parts, and that tell the parent and the last part of a name. -/
import Derived.Test.YtpopbcidnhepiacNames
import Derived.Test.YtpopbcidnhepiacJoin
set_option linter.unusedVariables false
set_option linter.unusedSimpArgs false
namespace Go.Proofs.Ytpopbcidnhepiac
open Go.RowKit Go.Proofs.Ytpopbcidnhepiac.Nm


set_option maxRecDepth 100000 in
set_option maxHeartbeats 400000 in
theorem impl_JoinParts (v : Value) (xs : List Bs) (w : World) (hr : Reads w v xs) (hsz : ∀ p ∈ xs, p.length ≤ 9000000) :
    Calls Try.prog 21 #[v] w fun e w' => e = .returned (.string (mk (joinParts xs))) ∧ Below w.heap.size w w' := by
  have Hr := Lib.hid hr
  have Hz := Lib.hid hsz
  clear hr hsz
  cases hv : vps xs
  · have Hf := Lib.hid (show joinParts xs = [] by simp [joinParts, hv])
    have Hv := Lib.hid hv
    clear hv
    go_enter Try.func21, Try.ntmps21
    go_wp2_with fail
    refine (impl_validParts v xs w Hr.out Hz.out).mono ?_
    rintro e w1 ⟨rfl, hb⟩
    rw [Hv.out]
    go_wp2_with fail
    go_ret
    rw [Hf.out]
    exact ⟨rfl, hb⟩
  · have Hf := Lib.hid (show joinParts xs = jn xs by rw [jn_eq (fun p hp => vp_ne ((vps_iff.1 hv).2 p hp))]; simp [joinParts, hv])
    have hl := (vps_iff.1 hv).1
    have Hs := Lib.hid (fun p (hp : p ∈ xs) => (vp_len ((vps_iff.1 hv).2 p hp)).2)
    have Hv := Lib.hid hv
    clear hv
    go_enter Try.func21, Try.ntmps21
    go_wp2_with fail
    refine (impl_validParts v xs w Hr.out Hz.out).mono ?_
    rintro e w1 ⟨rfl, hb⟩
    rw [Hv.out]
    go_wp2_with fail
    refine (impl_joinWithDots v xs w1 (Reads.below Hr.out hb) (by omega) (fun p hp => Nat.le_trans (Hs.out p hp) (by decide))).mono ?_
    rintro e w2 ⟨rfl, rfl⟩
    go_wp2_with fail
    go_ret
    rw [Hf.out]
    exact ⟨rfl, hb⟩

set_option maxRecDepth 100000 in
set_option maxHeartbeats 400000 in
theorem spec_allParts (v : Value) (xs : List Bs) (w : World) (hr : Reads w v xs) (hn : xs.length ≤ 9500000) (hsz : ∀ p ∈ xs, p.length ≤ 9000000) :
    Calls Try.prog 33 #[v] w fun e w' => e = .returned (.bool (xs.all vp)) ∧ w = w' := by
  obtain ⟨aa, ca, rfl⟩ : ∃ a c, v = .slice a xs.length c := by
    rcases hr with ⟨rfl, rfl⟩ | ⟨b, off, cap, rfl, _⟩ <;> exact ⟨_, _, rfl⟩
  have Hr := Lib.hid hr
  have Hz := Lib.hid hsz
  clear hr hsz
  go_enter Try.func33, Try.ntmps33
  go_wp2_with fail
  go_loop [3] (fun kv => ∃ k : Nat, k ≤ xs.length ∧ kv = .int .i64 k ∧ ∀ i (h : i < xs.length), i < k → vp xs[i] = true) (fun kv => xs.length - (intOf kv).toNat)
  case atStart => exact ⟨0, by omega, rfl, fun i _ h => absurd h (by omega)⟩
  case round =>
    obtain ⟨k, hk, rfl, ha⟩ := hrel
    have Ha := Lib.hid ha
    clear ha
    by_cases hlt : k < xs.length
    · obtain ⟨b1, o1, c1, e1, hl1, hm1, hb1, hc1⟩ := Reads.some Hr.out (by omega)
      simp only [Value.slice.injEq] at e1
      obtain ⟨rfl, _, rfl⟩ := e1
      have hcell := hc1 k hlt
      have hs1 := Hz.out _ (List.getElem_mem hlt)
      clear hc1
      cases hvp : vp xs[k]
      · have hv : xs.all vp = false := by rw [List.all_eq_false]; exact ⟨_, List.getElem_mem hlt, by simp [hvp]⟩
        have Hv := Lib.hid hv
        have Hvp := Lib.hid hvp
        clear hvp hv
        go_wp2_with fail
        refine (spec_validPart _ _ hs1).mono ?_
        rintro e w' ⟨rfl, rfl⟩
        rw [Hvp.out]
        go_wp2_with fail
        go_ret
        rw [Hv.out]
        exact ⟨rfl, rfl⟩
      · have Hvp := Lib.hid hvp
        clear hvp
        go_wp2_with fail
        refine (spec_validPart _ _ hs1).mono ?_
        rintro e w' ⟨rfl, rfl⟩
        rw [Hvp.out]
        go_wp2_with fail
        go_round
        case rel =>
          refine ⟨k + 1, by omega, by go_num, fun i h hi => ?_⟩
          by_cases e : i = k
          · subst e; exact Hvp.out
          · exact Ha.out i h (by omega)
        case measure => simp [intOf]; omega
    · have hv : xs.all vp = true := by
        rw [List.all_eq_true]; intro p hp
        obtain ⟨i, hi, rfl⟩ := List.getElem_of_mem hp
        exact Ha.out i hi (by omega)
      have Hv := Lib.hid hv
      clear hv
      go_wp2_with fail
      go_ret
      rw [Hv.out]
      exact ⟨rfl, rfl⟩

set_option maxRecDepth 100000 in
set_option maxHeartbeats 400000 in
theorem spec_JoinParts (v : Value) (xs : List Bs) (w : World) (hr : Reads w v xs) (hn : xs.length ≤ 8000000) (hz : (join xs).length ≤ 8000000) :
    Calls Try.prog 19 #[v] w fun e w' => e = .returned (.string (mk (joinParts xs))) ∧ Below w.heap.size w w' := by
  have hsz : ∀ p ∈ xs, p.length ≤ 9000000 := fun p hp => Nat.le_trans (mem_join_len hp) (by omega)
  obtain ⟨aa, ca, rfl⟩ : ∃ a c, v = .slice a xs.length c := by
    rcases hr with ⟨rfl, rfl⟩ | ⟨b, off, cap, rfl, _⟩ <;> exact ⟨_, _, rfl⟩
  have Hr := Lib.hid hr
  have Hz := Lib.hid hsz
  clear hr hsz
  cases hv : vps xs
  · have Hf := Lib.hid (show joinParts xs = [] by simp [joinParts, hv])
    cases hj : vn (join xs)
    · have Hj := Lib.hid hj
      clear hv hj
      go_enter Try.func19, Try.ntmps19
      go_wp2_with fail
      refine (spec_join _ xs w Hr.out (by omega) (by omega)).mono ?_
      rintro e w1 ⟨rfl, rfl⟩
      go_wp2_with fail
      refine (spec_validName _ w hz).mono ?_
      rintro e w2 ⟨rfl, hb⟩
      rw [Hj.out]
      go_wp2_with fail
      go_ret
      rw [Hf.out]
      exact ⟨rfl, hb⟩
    · obtain ⟨h1, h2⟩ := allvp_not hv hj
      have H2 := Lib.hid h2
      have Hj := Lib.hid hj
      have hne : ((xs.length : Int) == 0) = false := by rw [beq_eq_false_iff_ne]; omega
      clear hv hj h2
      go_enter Try.func19, Try.ntmps19
      go_wp2_with fail
      refine (spec_join _ xs w Hr.out (by omega) (by omega)).mono ?_
      rintro e w1 ⟨rfl, rfl⟩
      go_wp2_with fail
      refine (spec_validName _ w hz).mono ?_
      rintro e w2 ⟨rfl, hb⟩
      rw [Hj.out]
      go_wp2_with fail
      refine (spec_allParts _ xs w2 (Reads.below Hr.out hb) (by omega) Hz.out).mono ?_
      rintro e w3 ⟨rfl, rfl⟩
      rw [H2.out]
      go_wp2_with fail
      go_ret
      rw [Hf.out]
      exact ⟨rfl, hb⟩
  · have Hf := Lib.hid (show joinParts xs = join xs by simp [joinParts, hv])
    have H2 := Lib.hid (allvp_of hv)
    have Hj := Lib.hid (vn_join hv)
    have h1 := (vps_iff.1 hv).1.1
    have hne : ((xs.length : Int) == 0) = false := by rw [beq_eq_false_iff_ne]; omega
    clear hv
    go_enter Try.func19, Try.ntmps19
    go_wp2_with fail
    refine (spec_join _ xs w Hr.out (by omega) (by omega)).mono ?_
    rintro e w1 ⟨rfl, rfl⟩
    go_wp2_with fail
    refine (spec_validName _ w hz).mono ?_
    rintro e w2 ⟨rfl, hb⟩
    rw [Hj.out]
    go_wp2_with fail
    refine (spec_allParts _ xs w2 (Reads.below Hr.out hb) (by omega) Hz.out).mono ?_
    rintro e w3 ⟨rfl, rfl⟩
    rw [H2.out]
    go_wp2_with fail
    refine (spec_join _ xs w2 (Reads.below Hr.out hb) (by omega) (by omega)).mono ?_
    rintro e w4 ⟨rfl, rfl⟩
    go_wp2_with fail
    go_ret
    rw [Hf.out]
    exact ⟨rfl, hb⟩

end Go.Proofs.Ytpopbcidnhepiac
