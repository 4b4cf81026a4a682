/- Contracts of the functions that split a text at its dots. -/
import Derived.Test.YtolhgklbkjdpiaaGreatTools
set_option linter.unusedVariables false
set_option linter.unusedSimpArgs false
namespace Go.Proofs.YtolhgklbkjdpiaaGreat
open Go.RowKit Go.Proofs.YtolhgklbkjdpiaaGreat.Nm

theorem infoS : (Tryz.prog.info? 9).map (fun i => (i.zero, i.size, i.bytes)) = some (some (.string ByteArray.empty), 1, 16) := by kernel_rfl

set_option maxRecDepth 100000 in
set_option maxHeartbeats 400000 in
theorem spec_splitAt (l : Bs) (w : World) (hs : l.length ≤ 9000000) :
    Calls Tryz.prog 54 #[.string (mk l), .int .u8 46] w (NewStrs 9 (split l) w) := by
  obtain ⟨i0, hi, hz0, hz1, hz2⟩ := info_parts infoS
  go_enter Tryz.func54, Tryz.ntmps54
  go_wp2_with fail
  go_loopw [5, 6, 7] (fun v fv kv wr => ∃ (k f : Nat) (acc : List Bs), k ≤ l.length ∧ f ≤ k ∧ acc.length ≤ k ∧ fv = .int .i64 f ∧ kv = .int .i64 k ∧
      wr.ownsRow w.heap.size 9 1 v acc.length (acc.map sv) ∧ Below w.heap.size w wr ∧ splitFrom acc ((l.drop f).take (k - f)) (l.drop k) = split l) (fun _ _ kv _ => l.length - (intOf kv).toNat)
  case atStart => exact ⟨0, 0, [], by omega, by omega, by simp, rfl, rfl, World.ownsRow_made w #[] 0 (Nat.le_refl _) (by omega) rfl, (Below.refl _ _).alloc (Nat.le_refl _) _, sf_start l⟩
  case round =>
    obtain ⟨k, f, acc, hk, hf, hal, rfl, rfl, hown, hbel, hsp⟩ := hrel
    have Hsp := Lib.hid hsp
    clear hsp
    have hwz := hbel.size
    by_cases hlt : k < l.length
    · have hlt' : k < (mk l).size := by rw [mk_size]; exact hlt
      have hg := mk_get l k hlt'
      by_cases hc : l[k] = 46
      · have hn := Lib.hid ((sf_dot l acc f k hlt hc).symm.trans Hsp.out)
        have hcb : (((l[k]).toNat : Int) == 46) = true := by rw [hc]; rfl
        clear hc Hsp
        generalize l[k] = c at *
        go_wp2_with (at_builtin; refine wpList_append_own _ rfl _ _ 27 rfl w.heap.size 9 i0 (.string ByteArray.empty) 1 16 Tryz.underlying27 hi hz0 hz1 hz2 rfl (by decide) _ _ _ rfl (hown.alloc _) ⟨wr.heap.size, 0, none⟩ 1 1 [.string (mk ((l.drop f).take (k - f)))] rfl rfl (cell_one_new _ _ _) (fun x hx => by simp at hx; subst hx; rfl) (by unfold maxLen; omega) (by omega) (by simp; omega) ?_; intro v' w3 hown' hgrow3 hnil3)
        rw [map_snoc] at hown'
        have hb3 := Lib.hid ((hbel.alloc hwz _).grown hgrow3 (by simp; omega) (fun g hg => (hown.lt g hg).1))
        go_roundw
        case rel => exact ⟨k + 1, k + 1, _, by omega, by omega, by simp; omega, by go_num, by go_num, by simpa using hown', hb3.out, hn.out⟩
        case measure => simp [intOf]; omega
      · have hn := Lib.hid ((sf_else l acc f k hf hlt hc).symm.trans Hsp.out)
        have hcb : (((l[k]).toNat : Int) == 46) = false := by
          rw [beq_eq_false_iff_ne]; intro e; exact hc (UInt8.toNat_inj.1 (by simpa using Int.ofNat.inj e))
        clear hc Hsp
        generalize l[k] = c at *
        go_wp2_with fail
        go_roundw
        case rel => exact ⟨k + 1, f, acc, by omega, by omega, by omega, rfl, by go_num, hown, hbel, hn.out⟩
        case measure => simp [intOf]; omega
    · have hn := Lib.hid ((sf_end l acc f k (by omega)).symm.trans Hsp.out)
      clear Hsp
      go_wp2_with (at_builtin; refine wpList_append_own _ rfl _ _ 27 rfl w.heap.size 9 i0 (.string ByteArray.empty) 1 16 Tryz.underlying27 hi hz0 hz1 hz2 rfl (by decide) _ _ _ rfl (hown.alloc _) ⟨wr.heap.size, 0, none⟩ 1 1 [.string (mk ((l.drop f).take (l.length - f)))] rfl rfl (cell_one_new _ _ _) (fun x hx => by simp at hx; subst hx; rfl) (by unfold maxLen; omega) (by omega) (by simp; omega) ?_; intro v' w3 hown' hgrow3 hnil3)
      rw [map_snoc] at hown'
      have hb3 := Lib.hid ((hbel.alloc hwz _).grown hgrow3 (by simp; omega) (fun g hg => (hown.lt g hg).1))
      go_ret
      have e : acc ++ [(l.drop f).take (l.length - f)] = split l := by rw [← hn.out, List.take_of_length_le (by simp)]
      rw [e] at hown'
      have e2 : acc.length + 1 = (split l).length := by rw [← e]; simp
      rw [e2] at hown'
      exact ⟨v', rfl, hown', hb3.out⟩

set_option maxRecDepth 100000 in
set_option maxHeartbeats 400000 in
theorem impl_splitAtDots (l : Bs) (w : World) (hs : l.length ≤ 9000000) :
    Calls Tryz.prog 94 #[.string (mk l)] w (NewStrs 9 (split l) w) := by
  obtain ⟨i0, hi, hz0, hz1, hz2⟩ := info_parts infoS
  go_enter Tryz.func94, Tryz.ntmps94
  go_wp2_with fail
  go_loopw [3, 4] (fun v fv wr => ∃ (k f : Nat) (acc : List Bs), k ≤ l.length ∧ f ≤ k ∧ acc.length ≤ k ∧ fv = .int .i64 f ∧ wr.heap[w.heap.size]? = some (.stringIter (mk l) k) ∧
      wr.ownsRow (w.heap.size + 1) 9 1 v acc.length (acc.map sv) ∧ Below w.heap.size w wr ∧ splitFrom acc ((l.drop f).take (k - f)) (l.drop k) = split l) (fun _ _ wr => l.length - wr.iterPos w.heap.size)
  case atStart => exact ⟨0, 0, [], by omega, by omega, by simp, rfl, World.iter_heap w (mk l) 0, World.ownsRow_nil _ _ _ _, (Below.refl _ _).alloc (Nat.le_refl _) _, sf_start l⟩
  case round =>
    obtain ⟨k, f, acc, hk, hf, hal, rfl, hit, hown, hbel, hsp⟩ := hrel
    have Hsp := Lib.hid hsp
    clear hsp
    have hwz : w.heap.size < wr.heap.size := (Array.getElem?_eq_some_iff.1 hit).1
    by_cases hlt : k < l.length
    · have hlt' : k < (mk l).size := by rw [mk_size]; exact hlt
      have hnx : ∀ ty, (Instr.next (.pointer (some ⟨w.heap.size, 0, none⟩)) true ty).run Tryz.prog wr = _ := fun ty => Lib.run_next_any_at wr w.heap.size (mk l) k ty hit hlt'
      obtain ⟨hw1, step⟩ := mk_step l k hlt
      have hit2 := Lib.iterAt_heap wr w.heap.size (mk l) k (k + (Utf8.decode (mk l) k).2) hit
      have hb2 := Lib.below_iterAt hbel (Nat.le_refl _) (mk l) (k + (Utf8.decode (mk l) k).2)
      have hs2 := Lib.iterAt_size wr w.heap.size (mk l) (k + (Utf8.decode (mk l) k).2)
      have hown2 := ownsRow_iterAt hown (k := w.heap.size) (by omega) (mk l) (k + (Utf8.decode (mk l) k).2)
      obtain ⟨wi, hwi⟩ : ∃ wi, wi = wr.iterAt w.heap.size (mk l) (k + (Utf8.decode (mk l) k).2) := ⟨_, rfl⟩
      rw [← hwi] at hit2 hb2 hs2 hown2 hnx
      have hws : w.heap.size < wi.heap.size := by omega
      have hpk := Lib.hid (iterPos_of hit)
      have hpi := Lib.hid (iterPos_of hit2)
      have hit3 := Lib.hid hit2
      clear hwi hs2 hit hbel hown hit2
      generalize (Utf8.decode (mk l) k).1 = r at *
      generalize (Utf8.decode (mk l) k).2 = n at *
      rcases step with ⟨rfl, rfl, hc⟩ | ⟨hr, hkn, hc⟩
      · have hn := Lib.hid ((sf_dot l acc f k hlt hc).symm.trans Hsp.out)
        clear Hsp hc
        go_wp2_with (at_builtin; refine wpList_append_own _ rfl _ _ 27 rfl (w.heap.size + 1) 9 i0 (.string ByteArray.empty) 1 16 Tryz.underlying27 hi hz0 hz1 hz2 rfl (by decide) _ _ _ rfl (hown2.alloc _) ⟨wi.heap.size, 0, none⟩ 1 1 [.string (mk ((l.drop f).take (k - f)))] rfl rfl (cell_one_new _ _ _) (fun x hx => by simp at hx; subst hx; rfl) (by unfold maxLen; omega) (by omega) (by simp; omega) ?_; intro v' w3 hown' hgrow3 hnil3)
        rw [map_snoc] at hown'
        have hb3 := Lib.hid ((hb2.alloc (by omega) _).grown hgrow3 (by simp; omega) (fun g hg => by have := (hown2.lt g hg).1; omega))
        have hit4 : w3.heap[w.heap.size]? = some (.stringIter (mk l) (k + 1)) := by
          rw [hgrow3.block w.heap.size (by simp; omega) (fun e => by have := (hown2.lt _ e.symm).1; omega), heap_alloc_old _ _ hws]
          exact hit3.out
        have hp3 := Lib.hid (iterPos_of hit4)
        go_roundw
        case rel => exact ⟨k + 1, k + 1, _, by omega, by omega, by simp; omega, by go_num, hit4, by simpa using hown', hb3.out, hn.out⟩
        case measure => rw [hp3.out, hpk.out]; omega
      · have hn := Lib.hid ((sf_skip l acc f k n hf hkn hc).symm.trans Hsp.out)
        have hrb : ((r : Int) == 46) = false := by rw [beq_eq_false_iff_ne]; omega
        clear Hsp hc hr
        go_wp2_with fail
        go_roundw
        case rel => exact ⟨k + n, f, acc, hkn, by omega, by omega, rfl, hit3.out, hown2, hb2, hn.out⟩
        case measure => rw [hpi.out, hpk.out]; omega
    · have hnx : ∀ ty, (Instr.next (.pointer (some ⟨w.heap.size, 0, none⟩)) true ty).run Tryz.prog wr = _ := fun ty => Lib.run_next_end_at wr w.heap.size (mk l) k ty hit (by rw [mk_size]; exact hlt)
      have hn := Lib.hid ((sf_end l acc f k (by omega)).symm.trans Hsp.out)
      clear Hsp
      go_wp2_with (at_builtin; refine wpList_append_own _ rfl _ _ 27 rfl (w.heap.size + 1) 9 i0 (.string ByteArray.empty) 1 16 Tryz.underlying27 hi hz0 hz1 hz2 rfl (by decide) _ _ _ rfl (hown.alloc _) ⟨wr.heap.size, 0, none⟩ 1 1 [.string (mk ((l.drop f).take (l.length - f)))] rfl rfl (cell_one_new _ _ _) (fun x hx => by simp at hx; subst hx; rfl) (by unfold maxLen; omega) (by omega) (by simp; omega) ?_; intro v' w3 hown' hgrow3 hnil3)
      rw [map_snoc] at hown'
      have hb3 := Lib.hid ((hbel.alloc (by omega) _).grown hgrow3 (by simp; omega) (fun g hg => by have := (hown.lt g hg).1; omega))
      go_ret
      have e : acc ++ [(l.drop f).take (l.length - f)] = split l := by rw [← hn.out, List.take_of_length_le (by simp)]
      rw [e] at hown'
      have e2 : acc.length + 1 = (split l).length := by rw [← e]; simp
      rw [e2] at hown'
      exact ⟨v', rfl, owns_mono hown' (by omega), hb3.out⟩

end Go.Proofs.YtolhgklbkjdpiaaGreat
