/- Contracts of the functions that resolve relative names, and that tell them. -/
import Derived.Test.YtcmnldomcpjlcaaGreatKin
import Derived.Test.YtcmnldomcpjlcaaGreatPlain
set_option linter.unusedVariables false
set_option linter.unusedSimpArgs false
namespace Go.Proofs.YtcmnldomcpjlcaaGreat
open Go.RowKit Go.Proofs.YtcmnldomcpjlcaaGreat.Nm

def trimDot (l : Bs) : Bs := if pre [46] l then l.drop 1 else l
theorem trimDot_eq {s p : Bs} (h : under s p = true) (h0 : p ≠ []) : trimDot (s.drop p.length) = s.drop (p.length + 1) := trim_eq h h0


set_option maxRecDepth 100000 in
set_option maxHeartbeats 1000000 in
theorem impl_ResolveName (p s : Bs) (lv : Int) (w : World) (hp : p.length ≤ 2000000) (hs : s.length ≤ 2000000) :
    Calls Tryz.prog 179 #[.string (mk p), .int .i64 lv, .string (mk s)] w fun e w' => e = .returned (.string (mk (resolved p lv s))) ∧ Below w.heap.size w w' := by
  cases hv : vpk p
  · have Hf := Lib.hid (show resolved p lv s = [] by simp [resolved, hv])
    have Hv := Lib.hid hv
    clear hv
    go_enter Tryz.func179, Tryz.ntmps179
    go_wp2_with fail
    refine (impl_validPackage p w (by omega)).mono ?_
    rintro e w1 ⟨rfl, hb⟩
    rw [Hv.out]
    go_wp2_with fail
    go_ret
    rw [Hf.out]
    exact ⟨rfl, hb⟩
  · by_cases hlo : lv < 0
    · have Hf := Lib.hid (show resolved p lv s = [] by rw [resolved, decide_eq_false (by omega : ¬ 0 ≤ lv)]; simp)
      have Hv := Lib.hid hv
      clear hv
      go_enter Tryz.func179, Tryz.ntmps179
      go_wp2_with fail
      refine (impl_validPackage p w (by omega)).mono ?_
      rintro e w1 ⟨rfl, hb⟩
      rw [Hv.out]
      go_wp2_with fail
      go_ret
      rw [Hf.out]
      exact ⟨rfl, hb⟩
    · by_cases hhi : 4 < lv
      · have Hf := Lib.hid (show resolved p lv s = [] by rw [resolved, decide_eq_false (by omega : ¬ lv ≤ 4)]; simp)
        have Hv := Lib.hid hv
        clear hv
        go_enter Tryz.func179, Tryz.ntmps179
        go_wp2_with fail
        refine (impl_validPackage p w (by omega)).mono ?_
        rintro e w1 ⟨rfl, hb⟩
        rw [Hv.out]
        go_wp2_with fail
        go_ret
        rw [Hf.out]
        exact ⟨rfl, hb⟩
      · have hl11 := vpk_len hv
        have hloB : decide (lv < 0) = false := decide_eq_false hlo
        have hhiB : decide (4 < lv) = false := decide_eq_false hhi
        have hr0 : resolved p lv s = (if vpk s then (if lv = 0 then s else if upN p (lv - 1).toNat = [] then [] else nameOr (jn [upN p (lv - 1).toNat, s])) else []) := by
          rw [resolved, hv, decide_eq_true (by omega : (0 : Int) ≤ lv), decide_eq_true (by omega : lv ≤ 4)]; simp
        have hup := fun k => vpk_len (vpk_upN hv k)
        have Hup := Lib.hid hup
        have Hr0 := Lib.hid hr0
        have Hv := Lib.hid hv
        clear hv hup hr0
        cases hs2 : vpk s
        · have Hf := Lib.hid (show resolved p lv s = [] by rw [Hr0.out, hs2]; rfl)
          have hne : s.isEmpty = false := by
            unfold vpk at hs2; rw [Bool.or_eq_false_iff] at hs2; exact hs2.1
          have Hs2 := Lib.hid (show vn s = false by unfold vpk at hs2; rw [Bool.or_eq_false_iff] at hs2; exact hs2.2)
          clear hs2
          go_enter Tryz.func179, Tryz.ntmps179
          go_wp2_with fail
          refine (impl_validPackage p w (by omega)).mono ?_
          rintro e w1 ⟨rfl, hb⟩
          rw [Hv.out]
          go_wp2_with fail
          refine (impl_ValidName s w1 (by omega)).mono ?_
          rintro e w2 ⟨rfl, hb2⟩
          rw [Hs2.out]
          go_wp2_with fail
          go_ret
          rw [Hf.out]
          exact ⟨rfl, bt hb hb2⟩
        · have hsl := vpk_len hs2
          by_cases hl0 : lv = 0
          · have Hf := Lib.hid (show resolved p lv s = s by rw [Hr0.out, hs2, if_pos hl0]; rfl)
            have hl0b : (lv == 0) = true := by simpa using hl0
            have Hl0 := Lib.hid hl0
            clear hl0
            rcases vpk_iff.1 hs2 with hse | hsv
            · subst hse
              clear hs2
              go_enter Tryz.func179, Tryz.ntmps179
              go_wp2_with fail
              refine (impl_validPackage p w (by omega)).mono ?_
              rintro e w1 ⟨rfl, hb⟩
              rw [Hv.out]
              go_wp2_with fail
              go_ret
              rw [Hf.out]
              exact ⟨rfl, hb⟩
            · have hne : s.isEmpty = false := by simpa using vn_ne hsv
              have Hsv := Lib.hid hsv
              clear hs2 hsv
              go_enter Tryz.func179, Tryz.ntmps179
              go_wp2_with fail
              refine (impl_validPackage p w (by omega)).mono ?_
              rintro e w1 ⟨rfl, hb⟩
              rw [Hv.out]
              go_wp2_with fail
              refine (impl_ValidName s w1 (by omega)).mono ?_
              rintro e w2 ⟨rfl, hb2⟩
              rw [Hsv.out]
              go_wp2_with fail
              go_ret
              rw [Hf.out]
              exact ⟨rfl, bt hb hb2⟩
          · have Hf := Lib.hid (show resolved p lv s = if upN p (lv - 1).toNat = [] then [] else nameOr (jn [upN p (lv - 1).toNat, s]) by rw [Hr0.out, hs2, if_neg hl0]; rfl)
            have hl0b : (lv == 0) = false := by simpa using hl0
            have hlv1 : 1 ≤ lv := by omega
            have Hl0 := Lib.hid hl0
            clear hl0
            obtain ⟨N, hN, hN3⟩ : ∃ N : Nat, lv = (N : Int) + 1 ∧ N ≤ 3 := ⟨(lv - 1).toNat, by omega, by omega⟩
            have Hff := Lib.hid (show resolved p lv s = if upN p N = [] then [] else nameOr (jn [upN p N, s]) by rw [Hf.out, hN]; simp)
            have HN := Lib.hid hN
            have hs2' := vpk_iff.1 hs2
            clear hs2
            rcases hs2' with hse | hsv
            · subst hse
              clear hN
              go_enter Tryz.func179, Tryz.ntmps179
              go_wp2_with fail
              refine (impl_validPackage p w (by omega)).mono ?_
              rintro e w1 ⟨rfl, hb⟩
              rw [Hv.out]
              go_wp2_with fail
              have hbx := hb
              clear hb
              obtain ⟨wx, rfl⟩ : ∃ x, x = w1 := ⟨_, rfl⟩
              rw [HN.out] at hl0b hlv1
              go_loopw [0, 32] (fun pv kv wr => ∃ k : Nat, k ≤ N ∧ kv = .int .i64 k ∧ pv = .string (mk (upN p k)) ∧ Below w.heap.size w wr) (fun _ kv _ => N - (intOf kv).toNat)
              case atStart => exact ⟨0, by omega, rfl, rfl, hbx⟩
              case round =>
                obtain ⟨k, hk, rfl, rfl, hbel⟩ := hrel
                have hlk := Hup.out k
                have Hbel := Lib.hid hbel
                clear hbel
                by_cases hlt : k < N
                · have hkl : (k : Int) < lv - 1 := by have := HN.out; omega
                  have hsn := Lib.hid (congrArg mk (upN_snoc p k))
                  generalize upN p k = pk at *
                  go_wp2_with fail
                  refine (impl_ParentOf pk _ (by omega)).mono ?_
                  rintro e w4 ⟨rfl, hb4⟩
                  have Hb4 := Lib.hid (bt Hbel.out hb4)
                  clear hb4
                  go_wp2_with fail
                  go_roundw
                  case rel => exact ⟨k + 1, by omega, by go_num, by rw [hsn.out], Hb4.out⟩
                  case measure => simp [intOf]; omega
                · have hkl : ¬ (k : Int) < lv - 1 := by have := HN.out; omega
                  obtain rfl : k = N := by omega
                  by_cases h0 : upN p k = []
                  · have Hfe := Lib.hid (show resolved p lv [] = [] by rw [Hff.out, if_pos h0])
                    rw [h0]
                    clear h0
                    go_wp2_with fail
                    go_ret
                    rw [Hfe.out]
                    exact ⟨rfl, Hbel.out⟩
                  · have Hfe := Lib.hid (show resolved p lv [] = nameOr (jn [upN p k, []]) by rw [Hff.out, if_neg h0])
                    have hpe : (upN p k).isEmpty = false := by simpa using h0
                    clear h0
                    obtain ⟨pk, hpk⟩ : ∃ pk, pk = upN p k := ⟨_, rfl⟩
                    rw [← hpk] at hlk Hfe hpe
                    rw [← hpk]
                    clear hpk
                    have Hj := Lib.hid (jn_len [pk, []] 100 (fun q hq => by simp at hq; rcases hq with rfl | rfl <;> first | omega | simp))
                    go_wp2_with fail
                    refine (impl_joinWithDots _ [pk, []] _ (reads_lit wr [pk, []] 9 (by unfold maxLen; simp)) (by simp) (fun q hq => by simp at hq; rcases hq with rfl | rfl <;> first | omega | simp)).mono ?_
                    rintro e w5 ⟨rfl, rfl⟩
                    have hb5 := Lib.hid (Below.alloc Hbel.out (Hbel.out.size) (.cells #[.string (mk pk), .string (mk [])] 9))
                    go_wp2_with fail
                    refine (impl_nameOrNothing _ _ (by have := Hj.out; simp at this; omega)).mono ?_
                    rintro e w6 ⟨rfl, hb6⟩
                    have hb7 := Lib.hid (bt hb5.out hb6)
                    go_wp2_with fail
                    go_ret
                    rw [Hfe.out]
                    exact ⟨rfl, hb7.out⟩
            · have hne : s.isEmpty = false := by simpa using vn_ne hsv
              have Hsv := Lib.hid hsv
              clear hsv hN
              go_enter Tryz.func179, Tryz.ntmps179
              go_wp2_with fail
              refine (impl_validPackage p w (by omega)).mono ?_
              rintro e w1 ⟨rfl, hb⟩
              rw [Hv.out]
              go_wp2_with fail
              refine (impl_ValidName s w1 (by omega)).mono ?_
              rintro e w2 ⟨rfl, hb2⟩
              rw [Hsv.out]
              go_wp2_with fail
              have hbx := bt hb hb2
              clear hb hb2
              obtain ⟨wx, rfl⟩ : ∃ x, x = w2 := ⟨_, rfl⟩
              rw [HN.out] at hl0b hlv1
              go_loopw [0, 32] (fun pv kv wr => ∃ k : Nat, k ≤ N ∧ kv = .int .i64 k ∧ pv = .string (mk (upN p k)) ∧ Below w.heap.size w wr) (fun _ kv _ => N - (intOf kv).toNat)
              case atStart => exact ⟨0, by omega, rfl, rfl, hbx⟩
              case round =>
                obtain ⟨k, hk, rfl, rfl, hbel⟩ := hrel
                have hlk := Hup.out k
                have Hbel := Lib.hid hbel
                clear hbel
                by_cases hlt : k < N
                · have hkl : (k : Int) < lv - 1 := by have := HN.out; omega
                  have hsn := Lib.hid (congrArg mk (upN_snoc p k))
                  generalize upN p k = pk at *
                  go_wp2_with fail
                  refine (impl_ParentOf pk _ (by omega)).mono ?_
                  rintro e w4 ⟨rfl, hb4⟩
                  have Hb4 := Lib.hid (bt Hbel.out hb4)
                  clear hb4
                  go_wp2_with fail
                  go_roundw
                  case rel => exact ⟨k + 1, by omega, by go_num, by rw [hsn.out], Hb4.out⟩
                  case measure => simp [intOf]; omega
                · have hkl : ¬ (k : Int) < lv - 1 := by have := HN.out; omega
                  obtain rfl : k = N := by omega
                  by_cases h0 : upN p k = []
                  · have Hfe := Lib.hid (show resolved p lv s = [] by rw [Hff.out, if_pos h0])
                    rw [h0]
                    clear h0
                    go_wp2_with fail
                    go_ret
                    rw [Hfe.out]
                    exact ⟨rfl, Hbel.out⟩
                  · have Hfe := Lib.hid (show resolved p lv s = nameOr (jn [upN p k, s]) by rw [Hff.out, if_neg h0])
                    have hpe : (upN p k).isEmpty = false := by simpa using h0
                    clear h0
                    obtain ⟨pk, hpk⟩ : ∃ pk, pk = upN p k := ⟨_, rfl⟩
                    rw [← hpk] at hlk Hfe hpe
                    rw [← hpk]
                    clear hpk
                    have Hj := Lib.hid (jn_len [pk, s] 100 (fun q hq => by simp at hq; rcases hq with rfl | rfl <;> first | omega | simp))
                    go_wp2_with fail
                    refine (impl_joinWithDots _ [pk, s] _ (reads_lit wr [pk, s] 9 (by unfold maxLen; simp)) (by simp) (fun q hq => by simp at hq; rcases hq with rfl | rfl <;> first | omega | simp)).mono ?_
                    rintro e w5 ⟨rfl, rfl⟩
                    have hb5 := Lib.hid (Below.alloc Hbel.out (Hbel.out.size) (.cells #[.string (mk pk), .string (mk s)] 9))
                    go_wp2_with fail
                    refine (impl_nameOrNothing _ _ (by have := Hj.out; simp at this; omega)).mono ?_
                    rintro e w6 ⟨rfl, hb6⟩
                    have hb7 := Lib.hid (bt hb5.out hb6)
                    go_wp2_with fail
                    go_ret
                    rw [Hfe.out]
                    exact ⟨rfl, hb7.out⟩

/-- What base tells: the package to which dots lead, and whether there is one. -/
def Based (p : Bs) (N : Nat) (w : World) (e : Ending) (w' : World) : Prop :=
  ((upN p N = [] ∧ e = .returned (.tuple #[.string (mk []), .bool false])) ∨ (upN p N ≠ [] ∧ e = .returned (.tuple #[.string (mk (upN p N)), .bool true]))) ∧ Below w.heap.size w w'

theorem upN_mono_nil {p : Bs} {k N : Nat} (h : upN p k = []) (hk : k ≤ N) : upN p N = [] := by
  induction N with
  | zero => obtain rfl : k = 0 := by omega
            exact h
  | succ N ih =>
    by_cases e : k = N + 1
    · subst e; exact h
    · rw [upN_snoc, ih (by omega), parentOf_nil]

set_option maxRecDepth 100000 in
set_option maxHeartbeats 1000000 in
theorem spec_base (p : Bs) (N : Nat) (w : World) (hv : vpk p = true) (hN : N ≤ 10) :
    Calls Tryz.prog 195 #[.string (mk p), .int .i64 ((N : Int) + 1)] w (Based p N w) := by
  have hup := fun k => vpk_len (vpk_upN hv k)
  have Hup := Lib.hid hup
  have Hv := Lib.hid (fun k => vpk_upN hv k)
  clear hup hv
  go_enter Tryz.func195, Tryz.ntmps195
  go_wp2_with fail
  go_loopw [0, 6] (fun pv kv wr => ∃ k : Nat, k ≤ N ∧ kv = .int .i64 ((k : Int) + 1) ∧ pv = .string (mk (upN p k)) ∧ Below w.heap.size w wr) (fun _ kv _ => N + 1 - (intOf kv).toNat)
  case atStart => exact ⟨0, by omega, rfl, rfl, Below.refl _ _⟩
  case round =>
    obtain ⟨k, hk, rfl, rfl, hbel⟩ := hrel
    have hlk := Hup.out k
    have Hbel := Lib.hid hbel
    clear hbel
    by_cases hlt : k < N
    · have hkl : (k : Int) + 1 < (N : Int) + 1 := by omega
      by_cases h0 : upN p k = []
      · have Hn := Lib.hid (upN_mono_nil h0 hk)
        rw [h0]
        clear h0
        go_wp2_with fail
        go_ret2
        exact ⟨.inl ⟨Hn.out, rfl⟩, Hbel.out⟩
      · have hpe : (upN p k).isEmpty = false := by simpa using h0
        have hsn : mk (upN p (k + 1)) = mk (parent (upN p k)) := by
          rw [upN_snoc, parentOf_of]
          rcases vpk_iff.1 (Hv.out k) with h | h
          · exact absurd h h0
          · exact h
        have Hsn := Lib.hid hsn
        clear hsn h0
        generalize upN p k = pk at *
        go_wp2_with fail
        refine (spec_parent pk _ (by omega)).mono ?_
        rintro e w4 ⟨rfl, hb4⟩
        have Hb4 := Lib.hid (bt Hbel.out hb4)
        clear hb4
        go_wp2_with fail
        go_roundw
        case rel => exact ⟨k + 1, by omega, by go_num, by rw [Hsn.out], Hb4.out⟩
        case measure => simp [intOf]; omega
    · have hkl : ¬ (k : Int) + 1 < (N : Int) + 1 := by omega
      obtain rfl : k = N := by omega
      by_cases h0 : upN p k = []
      · have Hn := Lib.hid h0
        rw [h0]
        clear h0
        go_wp2_with fail
        go_ret2
        exact ⟨.inl ⟨Hn.out, rfl⟩, Hbel.out⟩
      · have hpe : (upN p k).isEmpty = false := by simpa using h0
        have Hn := Lib.hid h0
        clear h0
        go_wp2_with fail
        go_ret2
        exact ⟨.inr ⟨Hn.out, rfl⟩, Hbel.out⟩

/-- What resolve tells of valid arguments. -/
def resolve0 (p : Bs) (lv : Int) (s : Bs) : Bs := if lv = 0 then s else if upN p (lv - 1).toNat = [] then [] else if s = [] then upN p (lv - 1).toNat else child (upN p (lv - 1).toNat) s

theorem resolve0_len {p s : Bs} (hv : vpk p = true) (hs : vpk s = true) (lv : Int) : (resolve0 p lv s).length ≤ 30 := by
  have h1 := vpk_len (vpk_upN hv (lv - 1).toNat)
  have h2 := vpk_len hs
  have h3 := child_len (upN p (lv - 1).toNat) s
  unfold resolve0
  split
  · omega
  · split
    · simp
    · split
      · omega
      · omega

theorem resolved_eq {p s : Bs} {lv : Int} (hv : vpk p = true) (hs : vpk s = true) (h0 : 0 ≤ lv) (h4 : lv ≤ 4) : resolved p lv s = nameOr (resolve0 p lv s) := by
  unfold resolved resolve0
  rw [hv, hs, decide_eq_true h0, decide_eq_true h4]
  simp only [Bool.and_self, if_true]
  by_cases hl : lv = 0
  · rw [if_pos hl, if_pos hl]
    rcases vpk_iff.1 hs with rfl | h
    · decide
    · exact (nameOr_yes h).symm
  · rw [if_neg hl, if_neg hl]
    by_cases hu : upN p (lv - 1).toNat = []
    · rw [if_pos hu, if_pos hu]; decide
    · rw [if_neg hu, if_neg hu]
      by_cases hse : s = []
      · rw [if_pos hse, hse, jn_nil_right]
      · rw [if_neg hse, child_jn hse]

set_option maxRecDepth 100000 in
set_option maxHeartbeats 1000000 in
theorem spec_resolve (p s : Bs) (lv : Int) (w : World) (hv : vpk p = true) (hs : vpk s = true) (h0 : 0 ≤ lv) (h4 : lv ≤ 4) :
    Calls Tryz.prog 178 #[.string (mk p), .int .i64 lv, .string (mk s)] w fun e w' => e = .returned (.string (mk (resolve0 p lv s))) ∧ Below w.heap.size w w' := by
  have hsl := vpk_len hs
  have hup := vpk_len (vpk_upN hv (lv - 1).toNat)
  by_cases hl0 : lv = 0
  · have Hf := Lib.hid (show resolve0 p lv s = s by rw [resolve0, if_pos hl0])
    subst hl0
    go_enter Tryz.func178, Tryz.ntmps178
    go_wp2_with fail
    go_ret
    rw [Hf.out]
    exact ⟨rfl, Below.refl _ _⟩
  · obtain ⟨N, hN, hN3⟩ : ∃ N : Nat, lv = (N : Int) + 1 ∧ N ≤ 3 := ⟨(lv - 1).toNat, by omega, by omega⟩
    subst hN
    have e1 : ((N : Int) + 1 - 1).toNat = N := by omega
    have hf : resolve0 p ((N : Int) + 1) s = if upN p N = [] then [] else if s = [] then upN p N else child (upN p N) s := by
      unfold resolve0; rw [if_neg hl0, e1]
    have Hf := Lib.hid hf
    rw [e1] at hup
    have Hb := Lib.hid (fun ww => spec_base p N ww hv (by omega))
    have hl0b : ((N : Int) + 1 == 0) = false := by simpa using hl0
    clear hf e1 hv hl0
    by_cases hu : upN p N = []
    · have Hff := Lib.hid (show resolve0 p ((N : Int) + 1) s = [] by rw [Hf.out, if_pos hu])
      have Hu := Lib.hid hu
      clear hu
      go_enter Tryz.func178, Tryz.ntmps178
      go_wp2_with fail
      refine (Hb.out _).mono ?_
      rintro e w1 ⟨he, hb⟩
      rcases he with ⟨_, rfl⟩ | ⟨hx, _⟩
      · go_wp2_with fail
        go_ret
        rw [Hff.out]
        exact ⟨rfl, hb⟩
      · exact absurd Hu.out hx
    · by_cases hse : s = []
      · have Hff := Lib.hid (show resolve0 p ((N : Int) + 1) s = upN p N by rw [Hf.out, if_neg hu, if_pos hse])
        have Hu := Lib.hid hu
        subst hse
        clear hu
        go_enter Tryz.func178, Tryz.ntmps178
        go_wp2_with fail
        refine (Hb.out _).mono ?_
        rintro e w1 ⟨he, hb⟩
        rcases he with ⟨hx, _⟩ | ⟨_, rfl⟩
        · exact absurd hx Hu.out
        · go_wp2_with fail
          go_ret
          rw [Hff.out]
          exact ⟨rfl, hb⟩
      · have Hff := Lib.hid (show resolve0 p ((N : Int) + 1) s = child (upN p N) s by rw [Hf.out, if_neg hu, if_neg hse])
        have Hu := Lib.hid hu
        have hsb : s.isEmpty = false := by simpa using hse
        clear hu hse
        go_enter Tryz.func178, Tryz.ntmps178
        go_wp2_with fail
        refine (Hb.out _).mono ?_
        rintro e w1 ⟨he, hb⟩
        rcases he with ⟨hx, _⟩ | ⟨_, rfl⟩
        · exact absurd hx Hu.out
        · go_wp2_with fail
          refine (spec_child (upN p N) s _ (by omega) (by omega)).mono ?_
          rintro e w2 ⟨rfl, rfl⟩
          go_wp2_with fail
          go_ret
          rw [Hff.out]
          exact ⟨rfl, hb⟩

end Go.Proofs.YtcmnldomcpjlcaaGreat
