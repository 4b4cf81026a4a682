/- Contracts of the functions that ask for a part of a name: the program's and the model's both say whether a text is one to three letters from a to z. -/
import Derived.Test.YtgecemngfpgcoaaTools
set_option linter.unusedVariables false
set_option linter.unusedSimpArgs false
namespace Go.Proofs.Ytgecemngfpgcoaa
open Go.RowKit Go.Proofs.Ytgecemngfpgcoaa.Nm

set_option maxRecDepth 100000 in
set_option maxHeartbeats 400000 in
theorem impl_ValidPart (l : Bs) (w : World) (hs : l.length ≤ 9000000) :
    Calls Try.prog 153 #[.string (mk l)] w fun e w' => e = .returned (.bool (vp l)) ∧ Below w.heap.size w w' := by
  by_cases h0 : l = []
  · subst h0
    go_enter Try.func153, Try.ntmps153
    go_wp2_with fail
    go_ret
    exact ⟨rfl, Below.refl _ _⟩
  · have hd : l.isEmpty = false := by simpa using h0
    by_cases h3 : 3 < l.length
    · have hv := Lib.hid (vp_long l h3)
      have h3' : (3 : Int) < (l.length : Int) := by omega
      go_enter Try.func153, Try.ntmps153
      go_wp2_with fail
      go_ret
      rw [hv.out]
      exact ⟨rfl, Below.refl _ _⟩
    · have h3' : ¬ (3 : Int) < (l.length : Int) := by omega
      have hpos : 1 ≤ l.length := by cases l with
        | nil => exact absurd rfl h0
        | cons => simp
      go_enter Try.func153, Try.ntmps153
      go_wp2_with fail
      go_loopw [] (fun wr => ∃ pos, pos ≤ l.length ∧ wr = w.iter (mk l) pos ∧ (l.take pos).all lower = true) (fun wr => l.length - wr.iterPos w.heap.size)
      case atStart => exact ⟨0, by omega, rfl, by simp⟩
      case round =>
        obtain ⟨pos, hp, rfl, ha⟩ := hrel
        have Ha := Lib.hid ha
        clear ha
        by_cases hlt : pos < l.length
        · have hlt' : pos < (mk l).size := by rw [mk_size]; exact hlt
          have hnx : ∀ ty, (Instr.next (.pointer (some ⟨w.heap.size, 0, none⟩)) true ty).run Try.prog (w.iter (mk l) pos) = _ := fun ty => run_next_any w (mk l) pos ty hlt'
          have hbw : ∀ q, Below w.heap.size w (w.iter (mk l) q) := fun q => (Below.refl _ _).alloc (Nat.le_refl _) _
          by_cases hc : lower l[pos] = true
          · have hr := (lower_iff _).1 hc
            have hnx2 := Lib.hid (decode_ascii (mk l) pos hlt' (by rw [mk_get]; omega))
            rw [mk_get] at hnx2
            rw [hnx2.out] at hnx
            have Hn := Lib.hid (all_take_succ l pos hlt Ha.out hc)
            have Hb := Lib.hid hbw
            clear hc hnx2 hbw
            dsimp only at hnx
            generalize l[pos] = c at *
            go_wp2
            go_roundw
            case rel => exact ⟨pos + 1, by omega, rfl, Hn.out⟩
            case measure => simp; omega
          · have hv := Lib.hid (vp_false_at l pos hlt (Bool.eq_false_iff.2 hc))
            have hd : ¬ (97 ≤ ((Utf8.decode (mk l) pos).1 : Int) ∧ ((Utf8.decode (mk l) pos).1 : Int) ≤ 122) := by
              by_cases hasc : (l[pos]).toNat < 128
              · have := decode_ascii (mk l) pos hlt' (by rw [mk_get]; exact hasc)
                rw [mk_get] at this
                rw [this]
                exact fun h => hc ((lower_iff _).2 h)
              · have := decode_high (mk l) pos hlt' (by rw [mk_get]; omega)
                omega
            clear hc
            have Hb := Lib.hid hbw
            clear hbw
            generalize (Utf8.decode (mk l) pos).1 = r at *
            by_cases h97 : (r : Int) < 97
            · go_wp2
              go_ret
              rw [hv.out]
              exact ⟨rfl, Hb.out _⟩
            · have h122 : (122 : Int) < (r : Int) := by omega
              go_wp2
              go_ret
              rw [hv.out]
              exact ⟨rfl, Hb.out _⟩
        · have hnx : ∀ ty, (Instr.next (.pointer (some ⟨w.heap.size, 0, none⟩)) true ty).run Try.prog (w.iter (mk l) pos) = _ := fun ty => run_next_end w (mk l) pos ty (by rw [mk_size]; exact hlt)
          have hv := Lib.hid (vp_true_of l hpos (by omega) (by have := Ha.out; rwa [List.take_of_length_le (by omega)] at this))
          go_wp2
          go_ret
          rw [hv.out]
          exact ⟨rfl, (Below.refl _ _).alloc (Nat.le_refl _) _⟩

set_option maxHeartbeats 400000 in
theorem spec_inRange (n lo hi : Int) (w : World) :
    Calls Try.prog 46 #[.int .i64 n, .int .i64 lo, .int .i64 hi] w fun e w' => e = .returned (.bool (decide (lo ≤ n) && decide (n ≤ hi))) ∧ w = w' := by
  by_cases h1 : lo ≤ n
  · by_cases h2 : n ≤ hi
    · go_enter Try.func46, Try.ntmps46
      go_wp2
      go_ret
      exact ⟨ret_bool (by simp [h1, h2]), rfl⟩
    · go_enter Try.func46, Try.ntmps46
      go_wp2
      go_ret
      exact ⟨ret_bool (by simp [h1, h2]), rfl⟩
  · go_enter Try.func46, Try.ntmps46
    go_wp2
    go_ret
    exact ⟨ret_bool (by rw [decide_eq_false (Int.not_le.2 (by omega : n < lo))]; rfl), rfl⟩

set_option maxRecDepth 100000 in
set_option maxHeartbeats 400000 in
theorem spec_validPart (l : Bs) (w : World) (hs : l.length ≤ 9000000) :
    Calls Try.prog 135 #[.string (mk l)] w fun e w' => e = .returned (.bool (vp l)) ∧ w = w' := by
  by_cases h3 : 1 ≤ l.length ∧ l.length ≤ 3
  · have hr : (decide ((1 : Int) ≤ (l.length : Int)) && decide ((l.length : Int) ≤ 3)) = true := by simp; omega
    have Hr := Lib.hid hr
    clear hr
    go_enter Try.func135, Try.ntmps135
    go_wp2_with fail
    refine (spec_inRange _ _ _ _).mono ?_
    rintro e w' ⟨rfl, rfl⟩
    rw [Hr.out]
    go_wp2_with fail
    go_loop [3] (fun i => ∃ k : Nat, k ≤ l.length ∧ i = .int .i64 k ∧ (l.take k).all lower = true) (fun i => l.length - (intOf i).toNat)
    case atStart => exact ⟨0, by omega, rfl, by simp⟩
    case round =>
      obtain ⟨k, hk, rfl, ha⟩ := hrel
      have Ha := Lib.hid ha
      clear ha
      by_cases hlt : k < l.length
      · have hlt' : k < (mk l).size := by rw [mk_size]; exact hlt
        have hg := mk_get l k hlt'
        by_cases hc : lower l[k] = true
        · have hr := (lower_iff _).1 hc
          have Hn := Lib.hid (all_take_succ l k hlt Ha.out hc)
          clear hc
          generalize l[k] = c at *
          go_wp2_with fail
          go_round
          case rel => exact ⟨k + 1, by omega, by go_num, Hn.out⟩
          case measure => simp [intOf]; omega
        · have hv := Lib.hid (vp_false_at l k hlt (Bool.eq_false_iff.2 hc))
          have hr : ¬ (97 ≤ ((l[k]).toNat : Int) ∧ ((l[k]).toNat : Int) ≤ 122) := fun h => hc ((lower_iff _).2 h)
          clear hc
          generalize l[k] = c at *
          by_cases h97 : (c.toNat : Int) < 97
          · go_wp2_with fail
            go_ret
            rw [hv.out]
            exact ⟨rfl, rfl⟩
          · have h122 : (122 : Int) < (c.toNat : Int) := by omega
            go_wp2_with fail
            go_ret
            rw [hv.out]
            exact ⟨rfl, rfl⟩
      · have hv := Lib.hid (vp_true_of l (by omega) (by omega) (by have := Ha.out; rwa [List.take_of_length_le (by omega)] at this))
        go_wp2_with fail
        go_ret
        rw [hv.out]
        exact ⟨rfl, rfl⟩
  · have hr : (decide ((1 : Int) ≤ (l.length : Int)) && decide ((l.length : Int) ≤ 3)) = false := by
      rw [Bool.eq_false_iff]; simp; omega
    have Hr := Lib.hid hr
    have hv : vp l = false := by
      rw [Bool.eq_false_iff]; intro h; exact h3 (vp_len h)
    have Hv := Lib.hid hv
    clear hr hv
    go_enter Try.func135, Try.ntmps135
    go_wp2_with fail
    refine (spec_inRange _ _ _ _).mono ?_
    rintro e w' ⟨rfl, rfl⟩
    rw [Hr.out]
    go_wp2_with fail
    go_ret
    rw [Hv.out]
    exact ⟨rfl, rfl⟩

/-! ### Contracts of the functions that split a text at its dots. -/
theorem infoS : (Try.prog.info? 9).map (fun i => (i.zero, i.size, i.bytes)) = some (some (.string ByteArray.empty), 1, 16) := by kernel_rfl

set_option maxRecDepth 100000 in
set_option maxHeartbeats 400000 in
theorem spec_splitAt (l : Bs) (w : World) (hs : l.length ≤ 9000000) :
    Calls Try.prog 134 #[.string (mk l), .int .u8 46] w (NewStrs 9 (split l) w) := by
  obtain ⟨i0, hi, hz0, hz1, hz2⟩ := info_parts infoS
  go_enter Try.func134, Try.ntmps134
  go_wp2_with fail
  go_loopw [5, 6, 7] (fun v fv kv wr => ∃ (k f : Nat) (acc : List Bs), k ≤ l.length ∧ f ≤ k ∧ acc.length ≤ k ∧ fv = .int .i64 f ∧ kv = .int .i64 k ∧
      wr.ownsRow w.heap.size 9 1 v acc.length (acc.map sv) ∧ Below w.heap.size w wr ∧ splitFrom acc ((l.drop f).take (k - f)) (l.drop k) = split l) (fun _ _ kv _ => l.length - (intOf kv).toNat)
  case atStart => exact ⟨0, 0, [], by omega, by omega, by simp, rfl, rfl, World.ownsRow_made w #[] 0 (Nat.le_refl _) (by omega) rfl, (Below.refl _ _).alloc (Nat.le_refl _) _, sf_start l⟩
  case round =>
    obtain ⟨k, f, acc, hk, hf, hal, rfl, rfl, hown, hbel, hsp⟩ := hrel
    have Hsp := Lib.hid hsp
    clear hsp
    have hwz := hbel.size
    by_cases hlt : k < l.length
    · have hlt' : k < (mk l).size := by rw [mk_size]; exact hlt
      have hg := mk_get l k hlt'
      by_cases hc : l[k] = 46
      · have hn := Lib.hid ((sf_dot l acc f k hlt hc).symm.trans Hsp.out)
        have hcb : (((l[k]).toNat : Int) == 46) = true := by rw [hc]; rfl
        clear hc Hsp
        generalize l[k] = c at *
        go_wp2_with (at_builtin; refine wpList_append_own _ rfl _ _ 70 rfl w.heap.size 9 i0 (.string ByteArray.empty) 1 16 Try.underlying70 hi hz0 hz1 hz2 rfl (by decide) _ _ _ rfl (hown.alloc _) ⟨wr.heap.size, 0, none⟩ 1 1 [.string (mk ((l.drop f).take (k - f)))] rfl rfl (cell_one_new _ _ _) (fun x hx => by simp at hx; subst hx; rfl) (by unfold maxLen; omega) (by omega) (by simp; omega) ?_; intro v' w3 hown' hgrow3 hnil3)
        rw [map_snoc] at hown'
        have hb3 := Lib.hid ((hbel.alloc hwz _).grown hgrow3 (by simp; omega) (fun g hg => (hown.lt g hg).1))
        go_roundw
        case rel => exact ⟨k + 1, k + 1, _, by omega, by omega, by simp; omega, by go_num, by go_num, by simpa using hown', hb3.out, hn.out⟩
        case measure => simp [intOf]; omega
      · have hn := Lib.hid ((sf_else l acc f k hf hlt hc).symm.trans Hsp.out)
        have hcb : (((l[k]).toNat : Int) == 46) = false := by
          rw [beq_eq_false_iff_ne]; intro e; exact hc (UInt8.toNat_inj.1 (by simpa using Int.ofNat.inj e))
        clear hc Hsp
        generalize l[k] = c at *
        go_wp2_with fail
        go_roundw
        case rel => exact ⟨k + 1, f, acc, by omega, by omega, by omega, rfl, by go_num, hown, hbel, hn.out⟩
        case measure => simp [intOf]; omega
    · have hn := Lib.hid ((sf_end l acc f k (by omega)).symm.trans Hsp.out)
      clear Hsp
      go_wp2_with (at_builtin; refine wpList_append_own _ rfl _ _ 70 rfl w.heap.size 9 i0 (.string ByteArray.empty) 1 16 Try.underlying70 hi hz0 hz1 hz2 rfl (by decide) _ _ _ rfl (hown.alloc _) ⟨wr.heap.size, 0, none⟩ 1 1 [.string (mk ((l.drop f).take (l.length - f)))] rfl rfl (cell_one_new _ _ _) (fun x hx => by simp at hx; subst hx; rfl) (by unfold maxLen; omega) (by omega) (by simp; omega) ?_; intro v' w3 hown' hgrow3 hnil3)
      rw [map_snoc] at hown'
      have hb3 := Lib.hid ((hbel.alloc hwz _).grown hgrow3 (by simp; omega) (fun g hg => (hown.lt g hg).1))
      go_ret
      have e : acc ++ [(l.drop f).take (l.length - f)] = split l := by rw [← hn.out, List.take_of_length_le (by simp)]
      rw [e] at hown'
      have e2 : acc.length + 1 = (split l).length := by rw [← e]; simp
      rw [e2] at hown'
      exact ⟨v', rfl, hown', hb3.out⟩

set_option maxRecDepth 100000 in
set_option maxHeartbeats 400000 in
theorem impl_splitAtDots (l : Bs) (w : World) (hs : l.length ≤ 9000000) :
    Calls Try.prog 141 #[.string (mk l)] w (NewStrs 9 (split l) w) := by
  obtain ⟨i0, hi, hz0, hz1, hz2⟩ := info_parts infoS
  go_enter Try.func141, Try.ntmps141
  go_wp2_with fail
  go_loopw [3, 4] (fun v fv wr => ∃ (k f : Nat) (acc : List Bs), k ≤ l.length ∧ f ≤ k ∧ acc.length ≤ k ∧ fv = .int .i64 f ∧ wr.heap[w.heap.size]? = some (.stringIter (mk l) k) ∧
      wr.ownsRow (w.heap.size + 1) 9 1 v acc.length (acc.map sv) ∧ Below w.heap.size w wr ∧ splitFrom acc ((l.drop f).take (k - f)) (l.drop k) = split l) (fun _ _ wr => l.length - wr.iterPos w.heap.size)
  case atStart => exact ⟨0, 0, [], by omega, by omega, by simp, rfl, World.iter_heap w (mk l) 0, World.ownsRow_nil _ _ _ _, (Below.refl _ _).alloc (Nat.le_refl _) _, sf_start l⟩
  case round =>
    obtain ⟨k, f, acc, hk, hf, hal, rfl, hit, hown, hbel, hsp⟩ := hrel
    have Hsp := Lib.hid hsp
    clear hsp
    have hwz : w.heap.size < wr.heap.size := (Array.getElem?_eq_some_iff.1 hit).1
    by_cases hlt : k < l.length
    · have hlt' : k < (mk l).size := by rw [mk_size]; exact hlt
      have hnx : ∀ ty, (Instr.next (.pointer (some ⟨w.heap.size, 0, none⟩)) true ty).run Try.prog wr = _ := fun ty => Lib.run_next_any_at wr w.heap.size (mk l) k ty hit hlt'
      obtain ⟨hw1, step⟩ := mk_step l k hlt
      have hit2 := Lib.iterAt_heap wr w.heap.size (mk l) k (k + (Utf8.decode (mk l) k).2) hit
      have hb2 := Lib.below_iterAt hbel (Nat.le_refl _) (mk l) (k + (Utf8.decode (mk l) k).2)
      have hs2 := Lib.iterAt_size wr w.heap.size (mk l) (k + (Utf8.decode (mk l) k).2)
      have hown2 := ownsRow_iterAt hown (k := w.heap.size) (by omega) (mk l) (k + (Utf8.decode (mk l) k).2)
      obtain ⟨wi, hwi⟩ : ∃ wi, wi = wr.iterAt w.heap.size (mk l) (k + (Utf8.decode (mk l) k).2) := ⟨_, rfl⟩
      rw [← hwi] at hit2 hb2 hs2 hown2 hnx
      have hws : w.heap.size < wi.heap.size := by omega
      have hpk := Lib.hid (iterPos_of hit)
      have hpi := Lib.hid (iterPos_of hit2)
      have hit3 := Lib.hid hit2
      clear hwi hs2 hit hbel hown hit2
      generalize (Utf8.decode (mk l) k).1 = r at *
      generalize (Utf8.decode (mk l) k).2 = n at *
      rcases step with ⟨rfl, rfl, hc⟩ | ⟨hr, hkn, hc⟩
      · have hn := Lib.hid ((sf_dot l acc f k hlt hc).symm.trans Hsp.out)
        clear Hsp hc
        go_wp2_with (at_builtin; refine wpList_append_own _ rfl _ _ 70 rfl (w.heap.size + 1) 9 i0 (.string ByteArray.empty) 1 16 Try.underlying70 hi hz0 hz1 hz2 rfl (by decide) _ _ _ rfl (hown2.alloc _) ⟨wi.heap.size, 0, none⟩ 1 1 [.string (mk ((l.drop f).take (k - f)))] rfl rfl (cell_one_new _ _ _) (fun x hx => by simp at hx; subst hx; rfl) (by unfold maxLen; omega) (by omega) (by simp; omega) ?_; intro v' w3 hown' hgrow3 hnil3)
        rw [map_snoc] at hown'
        have hb3 := Lib.hid ((hb2.alloc (by omega) _).grown hgrow3 (by simp; omega) (fun g hg => by have := (hown2.lt g hg).1; omega))
        have hit4 : w3.heap[w.heap.size]? = some (.stringIter (mk l) (k + 1)) := by
          rw [hgrow3.block w.heap.size (by simp; omega) (fun e => by have := (hown2.lt _ e.symm).1; omega), heap_alloc_old _ _ hws]
          exact hit3.out
        have hp3 := Lib.hid (iterPos_of hit4)
        go_roundw
        case rel => exact ⟨k + 1, k + 1, _, by omega, by omega, by simp; omega, by go_num, hit4, by simpa using hown', hb3.out, hn.out⟩
        case measure => rw [hp3.out, hpk.out]; omega
      · have hn := Lib.hid ((sf_skip l acc f k n hf hkn hc).symm.trans Hsp.out)
        have hrb : ((r : Int) == 46) = false := by rw [beq_eq_false_iff_ne]; omega
        clear Hsp hc hr
        go_wp2_with fail
        go_roundw
        case rel => exact ⟨k + n, f, acc, hkn, by omega, by omega, rfl, hit3.out, hown2, hb2, hn.out⟩
        case measure => rw [hpi.out, hpk.out]; omega
    · have hnx : ∀ ty, (Instr.next (.pointer (some ⟨w.heap.size, 0, none⟩)) true ty).run Try.prog wr = _ := fun ty => Lib.run_next_end_at wr w.heap.size (mk l) k ty hit (by rw [mk_size]; exact hlt)
      have hn := Lib.hid ((sf_end l acc f k (by omega)).symm.trans Hsp.out)
      clear Hsp
      go_wp2_with (at_builtin; refine wpList_append_own _ rfl _ _ 70 rfl (w.heap.size + 1) 9 i0 (.string ByteArray.empty) 1 16 Try.underlying70 hi hz0 hz1 hz2 rfl (by decide) _ _ _ rfl (hown.alloc _) ⟨wr.heap.size, 0, none⟩ 1 1 [.string (mk ((l.drop f).take (l.length - f)))] rfl rfl (cell_one_new _ _ _) (fun x hx => by simp at hx; subst hx; rfl) (by unfold maxLen; omega) (by omega) (by simp; omega) ?_; intro v' w3 hown' hgrow3 hnil3)
      rw [map_snoc] at hown'
      have hb3 := Lib.hid ((hbel.alloc (by omega) _).grown hgrow3 (by simp; omega) (fun g hg => by have := (hown.lt g hg).1; omega))
      go_ret
      have e : acc ++ [(l.drop f).take (l.length - f)] = split l := by rw [← hn.out, List.take_of_length_le (by simp)]
      rw [e] at hown'
      have e2 : acc.length + 1 = (split l).length := by rw [← e]; simp
      rw [e2] at hown'
      exact ⟨v', rfl, owns_mono hown' (by omega), hb3.out⟩

/-! ### Contracts of the functions that ask for the parts of a name, and for a name. -/
set_option maxRecDepth 100000 in
set_option maxHeartbeats 400000 in
theorem impl_validParts (v : Value) (xs : List Bs) (w : World) (hr : Reads w v xs) (hsz : ∀ p ∈ xs, p.length ≤ 9000000) :
    Calls Try.prog 142 #[v] w fun e w' => e = .returned (.bool (vps xs)) ∧ Below w.heap.size w w' := by
  rcases hr with ⟨rfl, rfl⟩ | ⟨b, off, cap, rfl, hl, hm, hb, hc⟩
  · go_enter Try.func142, Try.ntmps142
    go_wp2_with fail
    go_ret
    exact ⟨rfl, Below.refl _ _⟩
  · by_cases h0 : xs = []
    · subst h0
      go_enter Try.func142, Try.ntmps142
      go_wp2_with fail
      go_ret
      exact ⟨rfl, Below.refl _ _⟩
    · by_cases h3 : 3 < xs.length
      · have hv := Lib.hid (vps_long xs h3)
        have h3' : (3 : Int) < (xs.length : Int) := by omega
        have h1' : ¬ (xs.length : Int) < 1 := by omega
        go_enter Try.func142, Try.ntmps142
        go_wp2_with fail
        go_ret
        rw [hv.out]
        exact ⟨rfl, Below.refl _ _⟩
      · have h3' : ¬ (3 : Int) < (xs.length : Int) := by omega
        have hpos : 1 ≤ xs.length := by cases xs with
          | nil => exact absurd rfl h0
          | cons => simp
        have h1' : ¬ (xs.length : Int) < 1 := by omega
        clear h0
        go_enter Try.func142, Try.ntmps142
        go_wp2_with fail
        go_loopw [15] (fun kv wr => ∃ k : Nat, k ≤ xs.length ∧ kv = .int .i64 k ∧ Below w.heap.size w wr ∧ ∀ i (h : i < xs.length), i < k → vp xs[i] = true) (fun kv _ => xs.length - (intOf kv).toNat)
        case atStart => exact ⟨0, by omega, rfl, Below.refl _ _, fun i _ h => absurd h (by omega)⟩
        case round =>
          obtain ⟨k, hk, rfl, hbel, ha⟩ := hrel
          have Ha := Lib.hid ha
          clear ha
          by_cases hlt : k < xs.length
          · have hcell : wr.cell? ⟨b, off + k, none⟩ = some (.string (mk xs[k])) := by
              rw [hbel.cell (p := ⟨b, off + k, none⟩) hb]; exact hc k hlt
            have hs1 := hsz _ (List.getElem_mem hlt)
            have Hc := Lib.hid hc
            have Hz := Lib.hid hsz
            clear hc hsz
            cases hvp : vp xs[k]
            · have hv := Lib.hid (vps_false_at xs k hlt hvp)
              have Hvp := Lib.hid hvp
              clear hvp
              go_wp2_with fail
              refine (impl_ValidPart _ _ hs1).mono ?_
              rintro e w' ⟨rfl, hb1⟩
              rw [Hvp.out]
              go_wp2_with fail
              go_ret
              rw [hv.out]
              exact ⟨rfl, hbel.trans (hb1.mono hbel.size)⟩
            · have Hvp := Lib.hid hvp
              clear hvp
              go_wp2_with fail
              refine (impl_ValidPart _ _ hs1).mono ?_
              rintro e w' ⟨rfl, hb1⟩
              rw [Hvp.out]
              go_wp2_with fail
              go_roundw
              case rel =>
                refine ⟨k + 1, by omega, by go_num, hbel.trans (hb1.mono hbel.size), fun i h hi => ?_⟩
                by_cases e : i = k
                · subst e; exact Hvp.out
                · exact Ha.out i h (by omega)
              case measure => simp [intOf]; omega
          · have hv := Lib.hid (vps_true_of xs hpos (by omega) (fun i h => Ha.out i h (by omega)))
            clear hc hsz
            go_wp2_with fail
            go_ret
            rw [hv.out]
            exact ⟨rfl, hbel⟩

set_option maxRecDepth 100000 in
set_option maxHeartbeats 400000 in
theorem spec_validName (l : Bs) (w : World) (hs : l.length ≤ 8000000) :
    Calls Try.prog 115 #[.string (mk l)] w fun e w' => e = .returned (.bool (vn l)) ∧ Below w.heap.size w w' := by
  have hpos := split_pos l
  have hcnt := split_count l
  go_enter Try.func115, Try.ntmps115
  go_wp2_with fail
  refine (spec_splitAt l _ (by omega)).mono ?_
  rintro e w1 ⟨v, rfl, hown, hb0⟩
  obtain ⟨b, off, cap, rfl, hl, hm, hb, hc⟩ := (Reads.of_owns hown).some hpos
  have hsz := fun p (h : p ∈ split l) => Nat.le_trans (split_len h) hs
  have hvf := Lib.hid (vn_false_at l)
  have hvt := Lib.hid (vn_of l)
  clear hown
  generalize split l = xs at *
  go_wp2_with fail
  go_loop [4] (fun kv => ∃ k : Nat, k ≤ xs.length ∧ kv = .int .i64 k ∧ ∀ i (h : i < xs.length), i < k → vp xs[i] = true) (fun kv => xs.length - (intOf kv).toNat)
  case atStart => exact ⟨0, by omega, rfl, fun i _ h => absurd h (by omega)⟩
  case round =>
    obtain ⟨k, hk, rfl, ha⟩ := hrel
    have Ha := Lib.hid ha
    clear ha
    by_cases hlt : k < xs.length
    · have hcell := hc k hlt
      have hs1 := hsz _ (List.getElem_mem hlt)
      have Hc := Lib.hid hc
      have Hz := Lib.hid hsz
      clear hc hsz
      cases hvp : vp xs[k]
      · have hv := Lib.hid (hvf.out k hlt hvp)
        have Hvp := Lib.hid hvp
        clear hvp
        go_wp2_with fail
        refine (spec_validPart _ _ (by omega)).mono ?_
        rintro e w' ⟨rfl, rfl⟩
        rw [Hvp.out]
        go_wp2_with fail
        go_ret
        rw [hv.out]
        exact ⟨rfl, hb0⟩
      · have Hvp := Lib.hid hvp
        clear hvp
        go_wp2_with fail
        refine (spec_validPart _ _ (by omega)).mono ?_
        rintro e w' ⟨rfl, rfl⟩
        rw [Hvp.out]
        go_wp2_with fail
        go_round
        case rel =>
          refine ⟨k + 1, by omega, by go_num, fun i h hi => ?_⟩
          by_cases e : i = k
          · subst e; exact Hvp.out
          · exact Ha.out i h (by omega)
        case measure => simp [intOf]; omega
    · have hv := Lib.hid (hvt.out (fun i h => Ha.out i h (by omega)))
      clear hc hsz
      go_wp2_with fail
      go_ret
      exact ⟨ret_bool (by rw [hv.out]; rw [Bool.eq_iff_iff]; simp; try omega), hb0⟩

/-! ### Contracts of the functions that take names apart and ask for names. -/
theorem newStrs_nil {T : TypeId} {xs : List Bs} {w : World} (h : xs = []) : NewStrs T xs w (.returned (.slice none 0 0)) w := by
  subst h; exact ⟨_, rfl, World.ownsRow_nil _ _ _ _, Below.refl _ _⟩

set_option maxRecDepth 100000 in
set_option maxHeartbeats 400000 in
theorem impl_PartsOf (l : Bs) (w : World) (hs : l.length ≤ 8000000) :
    Calls Try.prog 120 #[.string (mk l)] w (NewStrs 9 (parts l) w) := by
  by_cases h11 : 11 < l.length
  · have hp : parts l = [] := parts_not (by rw [Bool.eq_false_iff]; intro h; have := vn_len h; omega)
    have Hp := Lib.hid hp
    have h11' : (11 : Int) < (l.length : Int) := by omega
    clear hp
    go_enter Try.func120, Try.ntmps120
    go_wp2_with fail
    go_ret
    exact newStrs_nil Hp.out
  · have h11' : ¬ (11 : Int) < (l.length : Int) := by omega
    have hsz : ∀ p ∈ split l, p.length ≤ 9000000 := fun p h => Nat.le_trans (split_len h) (by omega)
    have Hz := Lib.hid hsz
    clear hsz
    cases hv : vn l
    · have Hp := Lib.hid (parts_not hv)
      have Hv := Lib.hid hv
      clear hv
      go_enter Try.func120, Try.ntmps120
      go_wp2_with fail
      refine (impl_splitAtDots l _ (by omega)).mono ?_
      rintro e w1 ⟨v, rfl, hown, hb0⟩
      go_wp2_with fail
      refine (impl_validParts v (split l) w1 (Reads.of_owns hown) Hz.out).mono ?_
      rintro e w2 ⟨rfl, hb1⟩
      rw [show vps (split l) = false from Hv.out]
      go_wp2_with fail
      go_ret
      rw [Hp.out]
      exact ⟨_, rfl, World.ownsRow_nil _ _ _ _, hb0.trans (hb1.mono hb0.size)⟩
    · have Hp := Lib.hid (parts_of hv)
      have Hv := Lib.hid hv
      clear hv
      go_enter Try.func120, Try.ntmps120
      go_wp2_with fail
      refine (impl_splitAtDots l _ (by omega)).mono ?_
      rintro e w1 ⟨v, rfl, hown, hb0⟩
      go_wp2_with fail
      refine (impl_validParts v (split l) w1 (Reads.of_owns hown) Hz.out).mono ?_
      rintro e w2 ⟨rfl, hb1⟩
      rw [show vps (split l) = true from Hv.out]
      have hown2 := Lib.hid (owns_below hown hb1)
      go_wp2_with fail
      go_ret
      rw [Hp.out]
      exact ⟨v, rfl, hown2.out, hb0.trans (hb1.mono hb0.size)⟩

set_option maxRecDepth 100000 in
set_option maxHeartbeats 400000 in
theorem impl_ValidName (l : Bs) (w : World) (hs : l.length ≤ 8000000) :
    Calls Try.prog 125 #[.string (mk l)] w fun e w' => e = .returned (.bool (vn l)) ∧ Below w.heap.size w w' := by
  have Hp := Lib.hid (parts_pos l)
  have hl : (parts l).length ≤ 9000000 := by
    unfold parts; split
    · exact Nat.le_trans (split_count l) (by omega)
    · simp
  go_enter Try.func125, Try.ntmps125
  go_wp2_with fail
  refine (impl_PartsOf l _ hs).mono ?_
  rintro e w1 ⟨v, rfl, hown, hb0⟩
  obtain ⟨a, cap, hvs⟩ := owns_shape hown
  have Hown := Lib.hid hown
  clear hown
  subst hvs
  generalize (parts l).length = n at *
  go_wp2_with fail
  go_ret
  exact ⟨ret_bool (by rw [← Hp.out]), hb0⟩




/-! ### Contracts of the functions that join parts with dots. -/
set_option maxRecDepth 100000 in
set_option maxHeartbeats 400000 in
theorem impl_joinWithDots (v : Value) (xs : List Bs) (w : World) (hr : Reads w v xs) (hn : xs.length ≤ 100) (hsz : ∀ p ∈ xs, p.length ≤ 1000) :
    Calls Try.prog 121 #[v] w fun e w' => e = .returned (.string (mk (jn xs))) ∧ w = w' := by
  rcases hr with ⟨rfl, rfl⟩ | ⟨b, off, cap, rfl, hl, hm, hb, hc⟩
  · go_enter Try.func121, Try.ntmps121
    go_wp2_with fail
    go_loop [3, 8] (fun tv kv => kv = .int .i64 0 ∧ tv = .string (mk [])) (fun _ _ => 0)
    case atStart => exact ⟨rfl, rfl⟩
    case round =>
      obtain ⟨rfl, rfl⟩ := hrel
      go_wp2_with fail
      go_ret
      exact ⟨rfl, rfl⟩
  · go_enter Try.func121, Try.ntmps121
    go_wp2_with fail
    go_loop [3, 8] (fun tv kv => ∃ k : Nat, k ≤ xs.length ∧ kv = .int .i64 k ∧ tv = .string (mk (jn (xs.take k)))) (fun _ kv => xs.length - (intOf kv).toNat)
    case atStart => exact ⟨0, by omega, rfl, rfl⟩
    case round =>
      obtain ⟨k, hk, rfl, rfl⟩ := hrel
      by_cases hlt : k < xs.length
      · have hcell := hc k hlt
        have hs1 := hsz _ (List.getElem_mem hlt)
        have hlen := jn_len (xs.take k) 1000 (fun p hp => hsz p (List.mem_of_mem_take hp))
        have hlk : (xs.take k).length * (1000 + 1) ≤ 100 * 1001 := Nat.mul_le_mul_right _ (by simp; omega)
        have hj := Lib.hid (jn_snoc xs k hlt)
        have Hc := Lib.hid hc
        have Hz := Lib.hid hsz
        clear hc hsz
        have hlen' := Nat.le_trans hlen hlk
        clear hlen hlk
        generalize jn (xs.take k) = t at *
        generalize xs[k] = p at *
        have fin : ∀ (q : Bs), q = jstep t p → Value.string (mk q) = Value.string (mk (jn (xs.take (k + 1)))) := fun q hq => by rw [hj.out, hq]
        have Fin := Lib.hid fin
        clear fin
        by_cases ht : t = []
        · subst ht
          go_wp2_with fail
          go_round
          case rel => exact ⟨k + 1, by omega, by go_num, Fin.out _ (by simp [jstep])⟩
          case measure => simp [intOf]; omega
        · have ht' : t.isEmpty = false := by simpa using ht
          by_cases hp : p = []
          · subst hp
            go_wp2_with fail
            go_round
            case rel => exact ⟨k + 1, by omega, by go_num, Fin.out _ (by simp [jstep])⟩
            case measure => simp [intOf]; omega
          · have hp' : p.isEmpty = false := by simpa using hp
            go_wp2_with fail
            go_round
            case rel => exact ⟨k + 1, by omega, by go_num, Fin.out _ (by rw [jstep, ht', hp']; simp)⟩
            case measure => simp [intOf]; omega
      · have E := Lib.hid (congrArg mk (congrArg jn (List.take_of_length_le (by omega : xs.length ≤ k))))
        clear hc hsz
        go_wp2_with fail
        go_ret
        exact ⟨ret_str E.out, rfl⟩

set_option maxRecDepth 100000 in
set_option maxHeartbeats 400000 in
theorem spec_join (v : Value) (xs : List Bs) (w : World) (hr : Reads w v xs) (hn : xs.length ≤ 9500000) (hz : (join xs).length ≤ 9500000) :
    Calls Try.prog 146 #[v] w fun e w' => e = .returned (.string (mk (join xs))) ∧ w = w' := by
  rcases hr with ⟨rfl, rfl⟩ | ⟨b, off, cap, rfl, hl, hm, hb, hc⟩
  · go_enter Try.func146, Try.ntmps146
    go_wp2_with fail
    go_loop [3, 4] (fun tv kv => kv = .int .i64 0 ∧ tv = .string (mk [])) (fun _ _ => 0)
    case atStart => exact ⟨rfl, rfl⟩
    case round =>
      obtain ⟨rfl, rfl⟩ := hrel
      go_wp2_with fail
      go_ret
      exact ⟨rfl, rfl⟩
  · go_enter Try.func146, Try.ntmps146
    go_wp2_with fail
    go_loop [3, 4] (fun tv kv => ∃ k : Nat, k ≤ xs.length ∧ kv = .int .i64 k ∧ tv = .string (mk (join (xs.take k)))) (fun _ kv => xs.length - (intOf kv).toNat)
    case atStart => exact ⟨0, by omega, rfl, rfl⟩
    case round =>
      obtain ⟨k, hk, rfl, rfl⟩ := hrel
      by_cases hlt : k < xs.length
      · have hcell := hc k hlt
        have hj := join_snoc xs k hlt
        have Hc := Lib.hid hc
        clear hc
        by_cases h0 : k = 0
        · subst h0
          have hcell0 : w.cell? ⟨b, off, none⟩ = some (.string (mk xs[0])) := by simpa using hcell
          have hb1 : (join (xs.take 1)).length ≤ 9500000 := Nat.le_trans (join_take_le xs 1) hz
          rw [hj] at hb1
          simp only [if_true, List.nil_append, Nat.zero_add] at hb1
          clear hcell
          have fin : ∀ (q : Bs), q = xs[0] → Value.string (mk q) = Value.string (mk (join (xs.take (0 + 1)))) := fun q hq => by rw [hj, hq]; rfl
          have Fin := Lib.hid fin
          clear fin hj
          rw [show join (xs.take 0) = [] from rfl]
          generalize xs[0] = p at *
          go_wp2_with fail
          go_round
          case rel => exact ⟨1, by omega, rfl, Fin.out _ (by simp [join])⟩
          case measure => simp [intOf]; omega
        · rw [if_neg h0] at hj
          have hk0 : (0 : Int) < (k : Int) := by omega
          have hb1 : (join (xs.take (k + 1))).length ≤ 9500000 := Nat.le_trans (join_take_le xs (k + 1)) hz
          rw [hj] at hb1
          simp only [List.length_append] at hb1
          have fin : ∀ (q : Bs), q = join (xs.take k) ++ [46] ++ xs[k] → Value.string (mk q) = Value.string (mk (join (xs.take (k + 1)))) := fun q hq => by rw [hj, hq]
          have Fin := Lib.hid fin
          clear fin hj h0
          generalize join (xs.take k) = t at *
          generalize xs[k] = p at *
          go_wp2_with fail
          go_round
          case rel => exact ⟨k + 1, by omega, by go_num, Fin.out _ (by simp)⟩
          case measure => simp [intOf]; omega
      · have E := Lib.hid (congrArg mk (congrArg join (List.take_of_length_le (by omega : xs.length ≤ k))))
        clear hc
        go_wp2_with fail
        go_ret
        exact ⟨ret_str E.out, rfl⟩

/-! ### Contracts of the functions that join parts, and that tell the parent and the last part of a name. -/
set_option maxRecDepth 100000 in
set_option maxHeartbeats 400000 in
theorem laws_equalTexts (va vb : Value) (xs ys : List Bs) (w : World) (ha : Reads w va xs) (hb : Reads w vb ys) (hx : xs.length ≤ 9500000) (hy : ys.length ≤ 9500000) :
    Calls Try.prog 90 #[va, vb] w fun e w' => e = .returned (.bool (decide (xs = ys))) ∧ Below w.heap.size w w' := by
  obtain ⟨aa, ca, rfl⟩ : ∃ a c, va = .slice a xs.length c := by
    rcases ha with ⟨rfl, rfl⟩ | ⟨b, off, cap, rfl, _⟩ <;> exact ⟨_, _, rfl⟩
  obtain ⟨ab, cb, rfl⟩ : ∃ a c, vb = .slice a ys.length c := by
    rcases hb with ⟨rfl, rfl⟩ | ⟨b, off, cap, rfl, _⟩ <;> exact ⟨_, _, rfl⟩
  by_cases hl : xs.length = ys.length
  · have Ha := Lib.hid ha
    have Hb := Lib.hid hb
    have Hl := Lib.hid hl
    clear ha hb
    rw [← hl]
    clear hl
    go_enter Try.func90, Try.ntmps90
    go_wp2_with fail
    go_loopw [5] (fun kv wr => ∃ k : Nat, k ≤ xs.length ∧ kv = .int .i64 k ∧ Below w.heap.size w wr ∧ ∀ i (h1 : i < xs.length) (h2 : i < ys.length), i < k → xs[i] = ys[i]) (fun kv _ => xs.length - (intOf kv).toNat)
    case atStart => exact ⟨0, by omega, rfl, Below.refl _ _, fun i _ _ h => absurd h (by omega)⟩
    case round =>
      obtain ⟨k, hk, rfl, hbel, hp⟩ := hrel
      have Hp := Lib.hid hp
      clear hp
      by_cases hlt : k < xs.length
      · have hlt2 : k < ys.length := by rw [← Hl.out]; exact hlt
        obtain ⟨b1, o1, c1, e1, _, _, hb1, hc1⟩ := Reads.some Ha.out (by omega)
        obtain ⟨b2, o2, c2, e2, _, _, hb2, hc2⟩ := Reads.some Hb.out (by omega)
        simp only [Value.slice.injEq] at e1 e2
        obtain ⟨rfl, _, rfl⟩ := e1
        obtain ⟨rfl, _, rfl⟩ := e2
        have hce1 := (hbel.cell (p := ⟨b1, o1 + k, none⟩) hb1).trans (hc1 k hlt)
        have hce2 := (hbel.cell (p := ⟨b2, o2 + k, none⟩) hb2).trans (hc2 k hlt2)
        have hki : (k : Int) < (xs.length : Int) := by omega
        have hk0 : (0 : Int) ≤ (k : Int) := by omega
        clear hc1 hc2
        by_cases heq : xs[k] = ys[k]
        · have Heq := Lib.hid heq
          rw [← heq] at hce2
          clear heq
          go_wp2_with fail
          go_quiet (fail)
          go_wp2_with fail
          go_roundw
          case rel =>
            refine ⟨k + 1, by omega, by go_num, below_drewN hbel _, fun i h1 h2 hi => ?_⟩
            by_cases e : i = k
            · subst e; exact Heq.out
            · exact Hp.out i h1 h2 (by omega)
          case measure => simp [intOf]; omega
        · have hne : (xs[k] == ys[k]) = false := by simpa using heq
          have hv : decide (xs = ys) = false := decide_eq_false (fun e => heq (by subst e; rfl))
          have Hv := Lib.hid hv
          clear hv heq
          generalize xs[k] = p at *
          generalize ys[k] = r at *
          go_wp2_with fail
          go_quiet (fail)
          go_wp2_with fail
          go_ret
          rw [Hv.out]
          exact ⟨rfl, below_drewN hbel _⟩
      · have hv : decide (xs = ys) = true := decide_eq_true (eq_getElem Hl.out (fun i h1 h2 => Hp.out i h1 h2 (by omega)))
        have Hv := Lib.hid hv
        clear hv
        go_wp2_with fail
        go_ret
        rw [Hv.out]
        exact ⟨rfl, hbel⟩
  · have hv : decide (xs = ys) = false := decide_eq_false (fun e => hl (by rw [e]))
    have Hv := Lib.hid hv
    have hlb : ((xs.length : Int) == (ys.length : Int)) = false := by rw [beq_eq_false_iff_ne]; omega
    clear hv hl
    generalize xs.length = n at *
    generalize ys.length = m at *
    go_enter Try.func90, Try.ntmps90
    go_wp2_with fail
    go_ret
    rw [Hv.out]
    exact ⟨rfl, Below.refl _ _⟩



end Go.Proofs.Ytgecemngfpgcoaa
