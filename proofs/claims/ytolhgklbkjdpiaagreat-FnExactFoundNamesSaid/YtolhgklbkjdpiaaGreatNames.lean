/- Contracts of the functions that take names apart and ask for names. -/
import Derived.Test.YtolhgklbkjdpiaaGreatValid
set_option linter.unusedVariables false
set_option linter.unusedSimpArgs false
namespace Go.Proofs.YtolhgklbkjdpiaaGreat
open Go.RowKit Go.Proofs.YtolhgklbkjdpiaaGreat.Nm

theorem newStrs_nil {T : TypeId} {xs : List Bs} {w : World} (h : xs = []) : NewStrs T xs w (.returned (.slice none 0 0)) w := by
  subst h; exact ⟨_, rfl, World.ownsRow_nil _ _ _ _, Below.refl _ _⟩

set_option maxRecDepth 100000 in
set_option maxHeartbeats 400000 in
theorem impl_PartsOf (l : Bs) (w : World) (hs : l.length ≤ 8000000) :
    Calls Tryz.prog 72 #[.string (mk l)] w (NewStrs 9 (parts l) w) := by
  by_cases h11 : 11 < l.length
  · have hp : parts l = [] := parts_not (by rw [Bool.eq_false_iff]; intro h; have := vn_len h; omega)
    have Hp := Lib.hid hp
    have h11' : (11 : Int) < (l.length : Int) := by omega
    clear hp
    go_enter Tryz.func72, Tryz.ntmps72
    go_wp2_with fail
    go_ret
    exact newStrs_nil Hp.out
  · have h11' : ¬ (11 : Int) < (l.length : Int) := by omega
    have hsz : ∀ p ∈ split l, p.length ≤ 9000000 := fun p h => Nat.le_trans (split_len h) (by omega)
    have Hz := Lib.hid hsz
    clear hsz
    cases hv : vn l
    · have Hp := Lib.hid (parts_not hv)
      have Hv := Lib.hid hv
      clear hv
      go_enter Tryz.func72, Tryz.ntmps72
      go_wp2_with fail
      refine (impl_splitAtDots l _ (by omega)).mono ?_
      rintro e w1 ⟨v, rfl, hown, hb0⟩
      go_wp2_with fail
      refine (impl_validParts v (split l) w1 (Reads.of_owns hown) Hz.out).mono ?_
      rintro e w2 ⟨rfl, hb1⟩
      rw [show vps (split l) = false from Hv.out]
      go_wp2_with fail
      go_ret
      rw [Hp.out]
      exact ⟨_, rfl, World.ownsRow_nil _ _ _ _, hb0.trans (hb1.mono hb0.size)⟩
    · have Hp := Lib.hid (parts_of hv)
      have Hv := Lib.hid hv
      clear hv
      go_enter Tryz.func72, Tryz.ntmps72
      go_wp2_with fail
      refine (impl_splitAtDots l _ (by omega)).mono ?_
      rintro e w1 ⟨v, rfl, hown, hb0⟩
      go_wp2_with fail
      refine (impl_validParts v (split l) w1 (Reads.of_owns hown) Hz.out).mono ?_
      rintro e w2 ⟨rfl, hb1⟩
      rw [show vps (split l) = true from Hv.out]
      have hown2 := Lib.hid (owns_below hown hb1)
      go_wp2_with fail
      go_ret
      rw [Hp.out]
      exact ⟨v, rfl, hown2.out, hb0.trans (hb1.mono hb0.size)⟩

set_option maxRecDepth 100000 in
set_option maxHeartbeats 400000 in
theorem impl_ValidName (l : Bs) (w : World) (hs : l.length ≤ 8000000) :
    Calls Tryz.prog 115 #[.string (mk l)] w fun e w' => e = .returned (.bool (vn l)) ∧ Below w.heap.size w w' := by
  have Hp := Lib.hid (parts_pos l)
  have hl : (parts l).length ≤ 9000000 := by
    unfold parts; split
    · exact Nat.le_trans (split_count l) (by omega)
    · simp
  go_enter Tryz.func115, Tryz.ntmps115
  go_wp2_with fail
  refine (impl_PartsOf l _ hs).mono ?_
  rintro e w1 ⟨v, rfl, hown, hb0⟩
  obtain ⟨a, cap, hvs⟩ := owns_shape hown
  have Hown := Lib.hid hown
  clear hown
  subst hvs
  generalize (parts l).length = n at *
  go_wp2_with fail
  go_ret
  exact ⟨ret_bool (by rw [← Hp.out]), hb0⟩



end Go.Proofs.YtolhgklbkjdpiaaGreat
