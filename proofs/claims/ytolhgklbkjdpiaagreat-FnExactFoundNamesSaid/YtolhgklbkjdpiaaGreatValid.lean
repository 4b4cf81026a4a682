/- Contracts of the functions that ask for the parts of a name, and for a name. -/
import Derived.Test.YtolhgklbkjdpiaaGreatVp
import Derived.Test.YtolhgklbkjdpiaaGreatSplit
set_option linter.unusedVariables false
set_option linter.unusedSimpArgs false
namespace Go.Proofs.YtolhgklbkjdpiaaGreat
open Go.RowKit Go.Proofs.YtolhgklbkjdpiaaGreat.Nm

set_option maxRecDepth 100000 in
set_option maxHeartbeats 400000 in
theorem impl_validParts (v : Value) (xs : List Bs) (w : World) (hr : Reads w v xs) (hsz : ∀ p ∈ xs, p.length ≤ 9000000) :
    Calls Tryz.prog 95 #[v] w fun e w' => e = .returned (.bool (vps xs)) ∧ Below w.heap.size w w' := by
  rcases hr with ⟨rfl, rfl⟩ | ⟨b, off, cap, rfl, hl, hm, hb, hc⟩
  · go_enter Tryz.func95, Tryz.ntmps95
    go_wp2_with fail
    go_ret
    exact ⟨rfl, Below.refl _ _⟩
  · by_cases h0 : xs = []
    · subst h0
      go_enter Tryz.func95, Tryz.ntmps95
      go_wp2_with fail
      go_ret
      exact ⟨rfl, Below.refl _ _⟩
    · by_cases h3 : 3 < xs.length
      · have hv := Lib.hid (vps_long xs h3)
        have h3' : (3 : Int) < (xs.length : Int) := by omega
        have h1' : ¬ (xs.length : Int) < 1 := by omega
        go_enter Tryz.func95, Tryz.ntmps95
        go_wp2_with fail
        go_ret
        rw [hv.out]
        exact ⟨rfl, Below.refl _ _⟩
      · have h3' : ¬ (3 : Int) < (xs.length : Int) := by omega
        have hpos : 1 ≤ xs.length := by cases xs with
          | nil => exact absurd rfl h0
          | cons => simp
        have h1' : ¬ (xs.length : Int) < 1 := by omega
        clear h0
        go_enter Tryz.func95, Tryz.ntmps95
        go_wp2_with fail
        go_loopw [15] (fun kv wr => ∃ k : Nat, k ≤ xs.length ∧ kv = .int .i64 k ∧ Below w.heap.size w wr ∧ ∀ i (h : i < xs.length), i < k → vp xs[i] = true) (fun kv _ => xs.length - (intOf kv).toNat)
        case atStart => exact ⟨0, by omega, rfl, Below.refl _ _, fun i _ h => absurd h (by omega)⟩
        case round =>
          obtain ⟨k, hk, rfl, hbel, ha⟩ := hrel
          have Ha := Lib.hid ha
          clear ha
          by_cases hlt : k < xs.length
          · have hcell : wr.cell? ⟨b, off + k, none⟩ = some (.string (mk xs[k])) := by
              rw [hbel.cell (p := ⟨b, off + k, none⟩) hb]; exact hc k hlt
            have hs1 := hsz _ (List.getElem_mem hlt)
            have Hc := Lib.hid hc
            have Hz := Lib.hid hsz
            clear hc hsz
            cases hvp : vp xs[k]
            · have hv := Lib.hid (vps_false_at xs k hlt hvp)
              have Hvp := Lib.hid hvp
              clear hvp
              go_wp2_with fail
              refine (impl_ValidPart _ _ hs1).mono ?_
              rintro e w' ⟨rfl, hb1⟩
              rw [Hvp.out]
              go_wp2_with fail
              go_ret
              rw [hv.out]
              exact ⟨rfl, hbel.trans (hb1.mono hbel.size)⟩
            · have Hvp := Lib.hid hvp
              clear hvp
              go_wp2_with fail
              refine (impl_ValidPart _ _ hs1).mono ?_
              rintro e w' ⟨rfl, hb1⟩
              rw [Hvp.out]
              go_wp2_with fail
              go_roundw
              case rel =>
                refine ⟨k + 1, by omega, by go_num, hbel.trans (hb1.mono hbel.size), fun i h hi => ?_⟩
                by_cases e : i = k
                · subst e; exact Hvp.out
                · exact Ha.out i h (by omega)
              case measure => simp [intOf]; omega
          · have hv := Lib.hid (vps_true_of xs hpos (by omega) (fun i h => Ha.out i h (by omega)))
            clear hc hsz
            go_wp2_with fail
            go_ret
            rw [hv.out]
            exact ⟨rfl, hbel⟩

set_option maxRecDepth 100000 in
set_option maxHeartbeats 400000 in
theorem spec_validName (l : Bs) (w : World) (hs : l.length ≤ 8000000) :
    Calls Tryz.prog 70 #[.string (mk l)] w fun e w' => e = .returned (.bool (vn l)) ∧ Below w.heap.size w w' := by
  have hpos := split_pos l
  have hcnt := split_count l
  go_enter Tryz.func70, Tryz.ntmps70
  go_wp2_with fail
  refine (spec_splitAt l _ (by omega)).mono ?_
  rintro e w1 ⟨v, rfl, hown, hb0⟩
  obtain ⟨b, off, cap, rfl, hl, hm, hb, hc⟩ := (Reads.of_owns hown).some hpos
  have hsz := fun p (h : p ∈ split l) => Nat.le_trans (split_len h) hs
  have hvf := Lib.hid (vn_false_at l)
  have hvt := Lib.hid (vn_of l)
  clear hown
  generalize split l = xs at *
  go_wp2_with fail
  go_loop [4] (fun kv => ∃ k : Nat, k ≤ xs.length ∧ kv = .int .i64 k ∧ ∀ i (h : i < xs.length), i < k → vp xs[i] = true) (fun kv => xs.length - (intOf kv).toNat)
  case atStart => exact ⟨0, by omega, rfl, fun i _ h => absurd h (by omega)⟩
  case round =>
    obtain ⟨k, hk, rfl, ha⟩ := hrel
    have Ha := Lib.hid ha
    clear ha
    by_cases hlt : k < xs.length
    · have hcell := hc k hlt
      have hs1 := hsz _ (List.getElem_mem hlt)
      have Hc := Lib.hid hc
      have Hz := Lib.hid hsz
      clear hc hsz
      cases hvp : vp xs[k]
      · have hv := Lib.hid (hvf.out k hlt hvp)
        have Hvp := Lib.hid hvp
        clear hvp
        go_wp2_with fail
        refine (spec_validPart _ _ (by omega)).mono ?_
        rintro e w' ⟨rfl, rfl⟩
        rw [Hvp.out]
        go_wp2_with fail
        go_ret
        rw [hv.out]
        exact ⟨rfl, hb0⟩
      · have Hvp := Lib.hid hvp
        clear hvp
        go_wp2_with fail
        refine (spec_validPart _ _ (by omega)).mono ?_
        rintro e w' ⟨rfl, rfl⟩
        rw [Hvp.out]
        go_wp2_with fail
        go_round
        case rel =>
          refine ⟨k + 1, by omega, by go_num, fun i h hi => ?_⟩
          by_cases e : i = k
          · subst e; exact Hvp.out
          · exact Ha.out i h (by omega)
        case measure => simp [intOf]; omega
    · have hv := Lib.hid (hvt.out (fun i h => Ha.out i h (by omega)))
      clear hc hsz
      go_wp2_with fail
      go_ret
      exact ⟨ret_bool (by rw [hv.out]; rw [Bool.eq_iff_iff]; simp; try omega), hb0⟩

end Go.Proofs.YtolhgklbkjdpiaaGreat
