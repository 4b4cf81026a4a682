/- Contracts of the functions that make hashes. -/
import Derived.Test.YtomdmkhgkaalnaaStmts
set_option linter.unusedVariables false
set_option linter.unusedSimpArgs false
namespace Go.Proofs.Ytomdmkhgkaalnaa
open Go.RowKit Go.Proofs.Ytomdmkhgkaalnaa.Nm

/-- What a hash may be. -/
def HashOk (n : Int) : Prop := 0 ≤ n ∧ n < 1000003
theorem mixed_eq {n k : Int} (h : 0 ≤ n) (hk : 0 ≤ k) : mixed n k = (n * 131 + k + 1) % 1000003 := by
  unfold mixed; rw [Int.tmod_eq_emod_of_nonneg (by omega)]
theorem mixed_ok {n k : Int} (h : HashOk n) (hk : 0 ≤ k) : HashOk (mixed n k) := by
  obtain ⟨h0, h1⟩ := h
  rw [mixed_eq h0 hk]
  unfold HashOk
  omega
def SmallInts (ks : List Int) : Prop := ∀ k ∈ ks, 0 ≤ k ∧ k ≤ 1000
theorem fold_ok {n : Int} (h : HashOk n) (ks : List Int) (hk : SmallInts ks) : HashOk (ks.foldl mixed n) := by
  induction ks generalizing n with
  | nil => exact h
  | cons k r ih => exact ih (mixed_ok h (hk k (by simp)).1) (fun x hx => hk x (by simp [hx]))
theorem foldl_snoc (f : Int → Int → Int) (n : Int) (ks : List Int) (i : Nat) (h : i < ks.length) : (ks.take (i + 1)).foldl f n = f ((ks.take i).foldl f n) ks[i] := by
  rw [List.take_succ_eq_append_getElem h, List.foldl_append]; rfl
theorem take_small {ks : List Int} (hk : SmallInts ks) (i : Nat) : SmallInts (ks.take i) := fun k h => hk k (List.mem_of_mem_take h)
theorem ret_i64 {a b : Int} (h : a = b) : Ending.returned (.int .i64 a) = .returned (.int .i64 b) := by rw [h]

/-- The bytes of a text as numbers. -/
def nums (s : Bs) : List Int := s.map (fun c => (c.toNat : Int))
theorem nums_len (s : Bs) : (nums s).length = s.length := by simp [nums]
theorem nums_get (s : Bs) (i : Nat) (h : i < s.length) : (nums s)[i]'(by rw [nums_len]; exact h) = (s[i].toNat : Int) := by simp [nums]
theorem nums_small (s : Bs) : SmallInts (nums s) := by
  intro k hk
  simp only [nums, List.mem_map] at hk
  obtain ⟨c, _, rfl⟩ := hk
  have := c.toNat_lt
  omega
theorem mixedText_eq (n : Int) (s : Bs) : mixedText n s = mixed ((nums s).foldl mixed n) 0 := by
  unfold mixedText nums; rw [List.foldl_map]
theorem mixedText_ok {n : Int} (h : HashOk n) (s : Bs) : HashOk (mixedText n s) := by
  rw [mixedText_eq]; exact mixed_ok (fold_ok h _ (nums_small s)) (by omega)

set_option maxHeartbeats 400000 in
theorem spec_mixed (n k : Int) (w : World) (h : HashOk n) (hk : 0 ≤ k) (hk1 : k ≤ 1000) :
    Calls Try.prog 144 #[.int .i64 n, .int .i64 k] w fun e w' => e = .returned (.int .i64 (mixed n k)) ∧ w = w' := by
  obtain ⟨h0, h1⟩ := h
  have Hm := Lib.hid (mixed_eq h0 hk)
  go_enter Try.func144, Try.ntmps144
  go_wp2_with fail
  go_ret
  rw [Hm.out]
  exact ⟨rfl, rfl⟩

theorem one_cell (w : World) (T : TypeId) (x : Int) : ∀ i (h : i < [x].length), (w.alloc (.cells #[.int .i64 x] T)).cell? ⟨w.heap.size, i, none⟩ = some (.int .i64 ([x][i])) := by
  intro i hi
  obtain rfl : i = 0 := by simpa using hi
  have e : (w.alloc (.cells #[.int .i64 x] T)).heap[w.heap.size]? = some (.cells #[.int .i64 x] T (0, 0)) := by
    show (w.heap.push (Obj.cells #[.int .i64 x] T (0, 0)))[w.heap.size]? = _
    simp
  simp only [World.cell?, e]
  rfl
set_option maxRecDepth 100000 in
set_option maxHeartbeats 400000 in
theorem impl_mix (n : Int) (ks : List Int) (cnt b cap : Nat) (w : World) (hcn : ks.length = cnt) (h : HashOk n) (hk : SmallInts ks) (hl : ks.length ≤ 1000) (hc : ∀ i (h : i < ks.length), w.cell? ⟨b, i, none⟩ = some (.int .i64 ks[i])) :
    Calls Try.prog 98 #[.int .i64 n, .slice (some ⟨b, 0, none⟩) cnt cap] w fun e w' => e = .returned (.int .i64 (ks.foldl mixed n)) ∧ w = w' := by
  subst hcn
  have Hn := Lib.hid h
  have Hk := Lib.hid hk
  have Hc := Lib.hid hc
  clear h hk hc
  go_enter Try.func98, Try.ntmps98
  go_wp2_with fail
  go_loop [0, 9] (fun hv iv => ∃ i : Nat, i ≤ ks.length ∧ iv = .int .i64 i ∧ hv = .int .i64 ((ks.take i).foldl mixed n)) (fun _ iv => ks.length - (intOf iv).toNat)
  case atStart => exact ⟨0, by omega, rfl, rfl⟩
  case round =>
    obtain ⟨i, hi, rfl, rfl⟩ := hrel
    by_cases hlt : i < ks.length
    · have hcell := Hc.out i hlt
      have hs := Hk.out _ (List.getElem_mem hlt)
      obtain ⟨hk0, hk1⟩ := hs
      have ho := fold_ok Hn.out _ (take_small Hk.out i)
      have Hs := Lib.hid (foldl_snoc mixed n ks i hlt)
      have He := Lib.hid (mixed_eq ho.1 hk0)
      obtain ⟨ho0, ho1⟩ := ho
      generalize (ks.take i).foldl mixed n = m at *
      generalize ks[i] = k at *
      go_wp2_with fail
      go_round
      case rel => exact ⟨i + 1, by omega, by go_num, by rw [Hs.out, He.out, Int.mul_comm m 131]⟩
      case measure => simp [intOf]; omega
    · obtain rfl : i = ks.length := by omega
      have Hf := Lib.hid (show (ks.take ks.length).foldl mixed n = ks.foldl mixed n by rw [List.take_length])
      go_wp2_with fail
      go_ret
      exact ⟨ret_i64 (by first | rfl | exact Hf.out), rfl⟩

set_option maxRecDepth 100000 in
set_option maxHeartbeats 400000 in
theorem spec_mixedText (n : Int) (s : Bs) (w : World) (h : HashOk n) (hl : s.length ≤ 9000000) :
    Calls Try.prog 145 #[.int .i64 n, .string (mk s)] w fun e w' => e = .returned (.int .i64 (mixedText n s)) ∧ w = w' := by
  have Hn := Lib.hid h
  clear h
  go_enter Try.func145, Try.ntmps145
  go_wp2_with fail
  go_loop [0, 5] (fun hv iv => ∃ i : Nat, i ≤ s.length ∧ iv = .int .i64 i ∧ hv = .int .i64 (((nums s).take i).foldl mixed n)) (fun _ iv => s.length - (intOf iv).toNat)
  case atStart => exact ⟨0, by omega, rfl, rfl⟩
  case round =>
    obtain ⟨i, hi, rfl, rfl⟩ := hrel
    have ho := fold_ok Hn.out _ (take_small (nums_small s) i)
    have Ho := Lib.hid ho
    by_cases hlt : i < s.length
    · have hlt' : i < (mk s).size := by rw [mk_size]; exact hlt
      have Hs := Lib.hid (foldl_snoc mixed n (nums s) i (by rw [nums_len]; exact hlt))
      rw [nums_get s i hlt] at Hs
      have hg := mk_get s i hlt'
      have hu := (s[i]).toNat_lt
      generalize s[i] = c at *
      clear ho
      generalize ((nums s).take i).foldl mixed n = m at *
      go_wp2_with (go_at_call 144; refine (spec_mixed _ _ _ Ho.out (by omega) (by omega)).mono ?_; rintro _ _ ⟨rfl, rfl⟩)
      go_round
      case rel => exact ⟨i + 1, by omega, by go_num, by rw [Hs.out]⟩
      case measure => simp [intOf]; omega
    · obtain rfl : i = s.length := by omega
      have Hf := Lib.hid (show mixed (((nums s).take s.length).foldl mixed n) 0 = mixedText n s by rw [mixedText_eq, List.take_of_length_le (by rw [nums_len]; omega)])
      go_wp2_with (go_at_call 144; refine (spec_mixed _ _ _ Ho.out (by omega) (by omega)).mono ?_; rintro _ _ ⟨rfl, rfl⟩)
      go_ret
      exact ⟨ret_i64 (by first | rfl | exact Hf.out), rfl⟩

set_option maxRecDepth 100000 in
set_option maxHeartbeats 400000 in
theorem impl_mixText (n : Int) (s : Bs) (w : World) (h : HashOk n) (hl : s.length ≤ 9000000) :
    Calls Try.prog 99 #[.int .i64 n, .string (mk s)] w fun e w' => e = .returned (.int .i64 (mixedText n s)) ∧ Below w.heap.size w w' := by
  have Hn := Lib.hid h
  clear h
  go_enter Try.func99, Try.ntmps99
  go_wp2_with fail
  go_loopw [0, 8] (fun hv iv wr => ∃ i : Nat, i ≤ s.length ∧ iv = .int .i64 i ∧ hv = .int .i64 (((nums s).take i).foldl mixed n) ∧ Below w.heap.size w wr) (fun _ iv _ => s.length - (intOf iv).toNat)
  case atStart => exact ⟨0, by omega, rfl, rfl, Below.refl _ _⟩
  case round =>
    obtain ⟨i, hi, rfl, rfl, hbel⟩ := hrel
    have ho := fold_ok Hn.out _ (take_small (nums_small s) i)
    have Ho := Lib.hid ho
    by_cases hlt : i < s.length
    · have hlt' : i < (mk s).size := by rw [mk_size]; exact hlt
      have Hs := Lib.hid (foldl_snoc mixed n (nums s) i (by rw [nums_len]; exact hlt))
      rw [nums_get s i hlt] at Hs
      have hg := mk_get s i hlt'
      have hu := (s[i]).toNat_lt
      generalize s[i] = c at *
      clear ho
      generalize ((nums s).take i).foldl mixed n = m at *
      go_wp2_with (go_at_call 98; refine (impl_mix m [(c.toNat : Int)] 1 _ _ _ rfl Ho.out (fun k hk => by simp at hk; omega) (by simp) (one_cell _ _ _)).mono ?_; rintro _ _ ⟨rfl, rfl⟩)
      go_roundw
      case rel => exact ⟨i + 1, by omega, by go_num, by rw [Hs.out], by (repeat (with_reducible first | exact Below.refl _ _ | assumption | refine ba ?_ _ | refine bd ?_ | refine bdN ?_ _ | refine bs ?_ (by first | exact Nat.le_refl _ | (dsimp only; omega) | (simp; done)) _ | refine bt ?_ (by assumption)))⟩
      case measure => simp [intOf]; omega
    · obtain rfl : i = s.length := by omega
      have Hf := Lib.hid (show mixed (((nums s).take s.length).foldl mixed n) 0 = mixedText n s by rw [mixedText_eq, List.take_of_length_le (by rw [nums_len]; omega)])
      generalize ((nums s).take s.length).foldl mixed n = m at *
      go_wp2_with (go_at_call 98; refine (impl_mix m [0] 1 _ _ _ rfl Ho.out (fun k hk => by simp at hk; omega) (by simp) (one_cell _ _ _)).mono ?_; rintro _ _ ⟨rfl, rfl⟩)
      go_ret
      exact ⟨ret_i64 Hf.out, by (repeat (with_reducible first | exact Below.refl _ _ | assumption | refine ba ?_ _ | refine bd ?_ | refine bdN ?_ _ | refine bs ?_ (by first | exact Nat.le_refl _ | (dsimp only; omega) | (simp; done)) _ | refine bt ?_ (by assumption)))⟩
/-- The hash after some statements. -/
theorem okStm_small {s : Stm} (h : okStm s = true) : SmallInts [s.kind, s.level, s.value] := by
  have : (s.kind = 0 ∨ s.kind = 1 ∨ s.kind = 2 ∨ s.kind = 3 ∨ s.kind = 4 ∨ s.kind = 5) ∧ (0 ≤ s.level ∧ s.level ≤ 3) ∧ 0 ≤ s.value ∧ s.value ≤ 99 := by
    unfold okStm at h
    split at h
    · rename_i hk; simp [hk] at h ⊢; omega
    split at h
    · rename_i hk; simp [hk, okSrc, inr] at h ⊢; omega
    split at h
    · rename_i hk; simp [hk] at h ⊢; omega
    split at h
    · rename_i hk; simp [hk, inr] at h ⊢; omega
    split at h
    · rename_i hk; simp [hk] at h ⊢; omega
    split at h
    · rename_i hk; simp [hk] at h ⊢; omega
    · cases h
  intro k hk
  simp at hk
  omega
theorem hash3 (n : Int) (s : Stm) : hashStm n s = mixedText (mixedText ([s.kind, s.level, s.value].foldl mixed n) s.module) s.name := rfl
theorem hashStm_ok {n : Int} (h : HashOk n) {s : Stm} (hs : okStm s = true) : HashOk (hashStm n s) := by
  rw [hash3]; exact mixedText_ok (mixedText_ok (fold_ok h _ (okStm_small hs)) _) _
theorem hashes_ok {n : Int} (h : HashOk n) (ss : List Stm) (hs : ss.all okStm = true) : HashOk (ss.foldl hashStm n) := by
  induction ss generalizing n with
  | nil => exact h
  | cons s r ih =>
    simp only [List.all_cons, Bool.and_eq_true] at hs
    exact ih (hashStm_ok h hs.1) hs.2
theorem one_ok : HashOk 1 := ⟨by omega, by omega⟩
theorem okBody_all {ss : List Stm} (h : okBody ss = true) : ss.all okStm = true ∧ ss.length ≤ 8 := by
  simp only [okBody, Bool.and_eq_true, decide_eq_true_eq] at h; exact h
theorem hashes_snoc (n : Int) (ss : List Stm) (i : Nat) (h : i < ss.length) : (ss.take (i + 1)).foldl hashStm n = hashStm ((ss.take i).foldl hashStm n) ss[i] := by
  rw [List.take_succ_eq_append_getElem h, List.foldl_append]; rfl
theorem all_take {ss : List Stm} (h : ss.all okStm = true) (i : Nat) : (ss.take i).all okStm = true := by
  rw [List.all_eq_true] at h ⊢; exact fun s hs => h s (List.mem_of_mem_take hs)
theorem hashOf_range {b : List Stm} (h : okBody b = true) : HashOk (hashOf b) := by
  unfold hashOf; rw [if_pos h]; exact hashes_ok one_ok b (okBody_all h).1

theorem cells3 (w : World) (T : TypeId) (x y z : Int) (b : Nat) (hb : b = w.heap.size) : ∀ i (h : i < [x, y, z].length), (w.alloc (.cells #[.int .i64 x, .int .i64 y, .int .i64 z] T)).cell? ⟨b, i, none⟩ = some (.int .i64 ([x, y, z][i])) := by
  subst hb
  intro i hi
  have e : (w.alloc (.cells #[.int .i64 x, .int .i64 y, .int .i64 z] T)).heap[w.heap.size]? = some (.cells #[.int .i64 x, .int .i64 y, .int .i64 z] T (0, 0)) := by
    show (w.heap.push (Obj.cells #[.int .i64 x, .int .i64 y, .int .i64 z] T (0, 0)))[w.heap.size]? = _
    simp
  simp only [World.cell?, e]
  match i, hi with
  | 0, _ => rfl
  | 1, _ => rfl
  | 2, _ => rfl
set_option maxRecDepth 100000 in
set_option maxHeartbeats 400000 in
theorem impl_HashOf (v : Value) (ss : List Stm) (D : Nat → Prop) (w : World) (hr : StmsIn w D v ss) (hz : Short 8000000 ss) :
    Calls Try.prog 37 #[v] w fun e w' => e = .returned (.int .i64 (hashOf ss)) ∧ Below w.heap.size w w' := by
  obtain ⟨aa, ca, rfl, hl, hm⟩ := hr.len
  unfold maxLen at hm
  have Hr := Lib.hid hr
  have Hz := Lib.hid hz
  clear hr hz
  cases hb : okBody ss
  · have Hb := Lib.hid hb
    have Hv := Lib.hid (show hashOf ss = -1 by unfold hashOf; rw [hb]; rfl)
    clear hb
    go_enter Try.func37, Try.ntmps37
    go_wp2_with (go_at_call 97; refine (impl_ValidBody _ ss D w Hr.out Hz.out).mono ?_; (rintro _ _ ⟨rfl, hb⟩; obtain ⟨hc, hf, hs⟩ := bcell hb); rw [Hb.out])
    go_ret
    exact ⟨ret_i64 Hv.out.symm, by (repeat (with_reducible first | exact Below.refl _ _ | assumption | refine ba ?_ _ | refine bd ?_ | refine bdN ?_ _ | refine bs ?_ (by first | exact Nat.le_refl _ | (dsimp only; omega) | (simp; done)) _ | refine bt ?_ (by assumption)))⟩
  · have Hb := Lib.hid hb
    have Ha := Lib.hid (okBody_all hb).1
    have hs8 := (okBody_all hb).2
    have Hv := Lib.hid (show hashOf ss = ss.foldl hashStm 1 by unfold hashOf; rw [if_pos hb])
    clear hb
    go_enter Try.func37, Try.ntmps37
    go_wp2_with (go_at_call 97; refine (impl_ValidBody _ ss D w Hr.out Hz.out).mono ?_; rintro e w1 ⟨rfl, hb1⟩; rw [Hb.out])
    go_loopw [3, 11] (fun hv iv wr => ∃ i : Nat, i ≤ ss.length ∧ iv = .int .i64 i ∧ hv = .int .i64 ((ss.take i).foldl hashStm 1) ∧ Below w.heap.size w wr) (fun _ iv _ => ss.length - (intOf iv).toNat)
    case atStart => exact ⟨0, by omega, rfl, rfl, hb1⟩
    case round =>
      obtain ⟨k, hk, rfl, rfl, hbel⟩ := hrel
      have Ho := Lib.hid (hashes_ok one_ok _ (all_take Ha.out k))
      by_cases hlt : k < ss.length
      · obtain ⟨b, off, cap, e, hD, hb, c0, c1, c2, c3, c4⟩ := (Hr.out.below hbel).at_ hlt
        simp only [Value.slice.injEq] at e
        obtain ⟨rfl, _, rfl⟩ := e
        obtain ⟨hz1, hz2⟩ := Hz.out _ (List.getElem_mem hlt)
        have Hs := Lib.hid (hashes_snoc 1 ss k hlt)
        have Hsm := Lib.hid (okStm_small (List.all_eq_true.1 Ha.out _ (List.getElem_mem hlt)))
        rw [hash3] at Hs
        generalize ss[k] = s at *
        obtain ⟨sk, sm, sl, sn, sv⟩ := s
        dsimp only at c0 c1 c2 c3 c4 hz1 hz2 Hs Hsm
        generalize (ss.take k).foldl hashStm 1 = m at *
        obtain ⟨m3, h3⟩ : ∃ m3, m3 = [sk, sl, sv].foldl mixed m := ⟨_, rfl⟩
        obtain ⟨m4, h4⟩ : ∃ m4, m4 = mixedText m3 sm := ⟨_, rfl⟩
        have o3 : HashOk m3 := by rw [h3]; exact fold_ok Ho.out _ Hsm.out
        have o4 : HashOk m4 := by rw [h4]; exact mixedText_ok o3 _
        rw [← h3, ← h4] at Hs
        have H3 := Lib.hid h3
        have H4 := Lib.hid h4
        clear hb1 h3 h4
        go_wp2_with (first
          | (go_at_call 98; refine (impl_mix m [sk, sl, sv] 3 _ _ _ rfl Ho.out Hsm.out (by simp) (cells3 _ _ _ _ _ _ (by simp))).mono ?_; rintro _ _ ⟨rfl, rfl⟩; rw [← H3.out])
          | (go_at_call 99; refine (impl_mixText _ _ _ (by assumption) (by omega)).mono ?_; (rintro _ _ ⟨rfl, hb⟩; obtain ⟨hc, hf, hs⟩ := bcell hb); try rw [← H4.out]))
        go_roundw
        case rel => exact ⟨k + 1, by omega, by go_num, by rw [Hs.out], by (repeat (with_reducible first | exact Below.refl _ _ | assumption | refine ba ?_ _ | refine bd ?_ | refine bdN ?_ _ | refine bs ?_ (by first | exact Nat.le_refl _ | (dsimp only; omega) | (simp; done)) _ | refine bt ?_ (by assumption)))⟩
        case measure => simp [intOf]; omega
      · obtain rfl : k = ss.length := by omega
        have Hf := Lib.hid (show (ss.take ss.length).foldl hashStm 1 = hashOf ss by rw [List.take_length, Hv.out])
        go_wp2_with fail
        go_ret
        exact ⟨ret_i64 (by first | exact Hf.out | exact Hv.out.symm), hbel⟩
set_option maxRecDepth 100000 in
set_option maxHeartbeats 400000 in
theorem spec_hashOf (v : Value) (ss : List Stm) (D : Nat → Prop) (w : World) (hr : StmsIn w D v ss) (hz : Short 8000000 ss) (hb : okBody ss = true) :
    Calls Try.prog 117 #[v] w fun e w' => e = .returned (.int .i64 (hashOf ss)) ∧ Below w.heap.size w w' := by
  obtain ⟨aa, ca, rfl, hl, hm⟩ := hr.len
  unfold maxLen at hm
  have Hr := Lib.hid hr
  have Hz := Lib.hid hz
  clear hr hz
  have Ha := Lib.hid (okBody_all hb).1
  have hs8 := (okBody_all hb).2
  have Hv := Lib.hid (show hashOf ss = ss.foldl hashStm 1 by unfold hashOf; rw [if_pos hb])
  clear hb
  go_enter Try.func117, Try.ntmps117
  go_wp2_with fail
  go_loopw [3, 4] (fun hv iv wr => ∃ i : Nat, i ≤ ss.length ∧ iv = .int .i64 i ∧ hv = .int .i64 ((ss.take i).foldl hashStm 1) ∧ Below w.heap.size w wr) (fun _ iv _ => ss.length - (intOf iv).toNat)
  case atStart => exact ⟨0, by omega, rfl, rfl, Below.refl _ _⟩
  case round =>
    obtain ⟨k, hk, rfl, rfl, hbel⟩ := hrel
    have Ho := Lib.hid (hashes_ok one_ok _ (all_take Ha.out k))
    by_cases hlt : k < ss.length
    · obtain ⟨b, off, cap, e, hD, hb, c0, c1, c2, c3, c4⟩ := (Hr.out.below hbel).at_ hlt
      simp only [Value.slice.injEq] at e
      obtain ⟨rfl, _, rfl⟩ := e
      obtain ⟨hz1, hz2⟩ := Hz.out _ (List.getElem_mem hlt)
      have Hs := Lib.hid (hashes_snoc 1 ss k hlt)
      have Hsm := Lib.hid (okStm_small (List.all_eq_true.1 Ha.out _ (List.getElem_mem hlt)))
      rw [hash3] at Hs
      generalize ss[k] = s at *
      obtain ⟨sk, sm, sl, sn, sv⟩ := s
      dsimp only at c0 c1 c2 c3 c4 hz1 hz2 Hs Hsm
      generalize (ss.take k).foldl hashStm 1 = m at *
      have b1 := Hsm.out sk (by simp)
      have b2 := Hsm.out sl (by simp)
      have b3 := Hsm.out sv (by simp)
      obtain ⟨b10, b11⟩ := b1
      obtain ⟨b20, b21⟩ := b2
      obtain ⟨b30, b31⟩ := b3
      have o0 : HashOk m := Ho.out
      have o1 : HashOk (mixed m sk) := mixed_ok o0 b10
      have o2 : HashOk (mixed (mixed m sk) sl) := mixed_ok o1 b20
      have o3 : HashOk (mixed (mixed (mixed m sk) sl) sv) := mixed_ok o2 b30
      have o4 : HashOk (mixedText (mixed (mixed (mixed m sk) sl) sv) sm) := mixedText_ok o3 _
      have hbe := Lib.hid hbel
      go_wp2_with fail
      go_quiet ((go_at_call 144; exact still_one (spec_mixed _ _ _ (by assumption) (by assumption) (by assumption))))
      go_wp2_with fail
      go_quiet ((go_at_call 145; exact still_more (spec_mixedText _ _ _ (by assumption) (by omega))))
      go_wp2_with fail
      go_roundw
      case rel => exact ⟨k + 1, by omega, by go_num, by rw [Hs.out]; rfl, by have hbel := hbe.out; (repeat (with_reducible first | exact Below.refl _ _ | assumption | refine ba ?_ _ | refine bd ?_ | refine bdN ?_ _ | refine bs ?_ (by first | exact Nat.le_refl _ | (dsimp only; omega) | (simp; done)) _ | refine bt ?_ (by assumption)))⟩
      case measure => simp [intOf]; omega
    · obtain rfl : k = ss.length := by omega
      have Hf := Lib.hid (show (ss.take ss.length).foldl hashStm 1 = hashOf ss by rw [List.take_length, Hv.out])
      go_wp2_with fail
      go_ret
      exact ⟨ret_i64 (by first | exact Hf.out | exact Hv.out.symm), hbel⟩
end Go.Proofs.Ytomdmkhgkaalnaa
