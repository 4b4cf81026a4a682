/- The function that draws a body: whatever the code, it answers a short one, in memory of its own. -/
import Derived.Test.YtgecemngfpgcoaaDrawR
import Derived.Deep.AppendLies
set_option linter.unusedVariables false
set_option linter.unusedSimpArgs false
namespace Go.Proofs.Ytgecemngfpgcoaa
open Go.RowKit Go.Proofs.Ytgecemngfpgcoaa.Nm

theorem gb_own {w W w7 : World} {R : Nat} {row : Option Nat} (h : w.grownBy W (some R)) (hg : W.grownBy w7 row) (hr : ∀ b, row = some b → w.heap.size ≤ b) : w.grownBy w7 (some R) :=
  ⟨hg.os.trans h.os, hg.tape.trans h.tape, hg.output.trans h.output, Nat.le_trans h.size hg.size, fun i hi hne => (hg.block i (Nat.lt_of_lt_of_le hi h.size) (fun e => by have := hr i e.symm; omega)).trans (h.block i hi hne)⟩
/-- What a function that draws a body comes to. -/
def DrawBody (R q c : Nat) (w : World) (e : Ending) (w' : World) : Prop :=
  ∃ (v : Value) (ss : List Stm), e = .returned v ∧ w'.ownsRow w.heap.size 138 5 v ss.length (ss.flatMap stmCells) ∧ Short 8 ss ∧ ss.length ≤ 4 ∧ ∃ q', q' ≤ q + c ∧ Rd w' R q' ∧ w.grownBy w' (some R)
/-- .. and the body is a valid one. -/
def DrawBodyK (R q c : Nat) (w : World) (e : Ending) (w' : World) : Prop :=
  ∃ (v : Value) (ss : List Stm), e = .returned v ∧ w'.ownsRow w.heap.size 138 5 v ss.length (ss.flatMap stmCells) ∧ okBody ss = true ∧ Short 8 ss ∧ ss.length ≤ 4 ∧ ∃ q', q' ≤ q + c ∧ Rd w' R q' ∧ w.grownBy w' (some R)
theorem okBody_of {ss : List Stm} (h : ∀ s ∈ ss, okStm s = true) (hl : ss.length ≤ 4) : okBody ss = true := by
  unfold okBody
  rw [List.all_eq_true.2 h]
  simp; omega
theorem okSs_snoc {ss : List Stm} {s : Stm} (h : ∀ s ∈ ss, okStm s = true) (h1 : okStm s = true) : ∀ x ∈ ss ++ [s], okStm x = true := fun x hx => by
  rcases List.mem_append.1 hx with hx | hx
  · exact h x hx
  · simp at hx; subst hx; exact h1
set_option maxRecDepth 100000 in
set_option maxHeartbeats 1500000 in
theorem spec_someBodyK (R q : Nat) (w : World) (hr : Rd w R q) (hq : q ≤ 700000) :
    Calls Try.prog 139 #[.pointer (some ⟨R, 0, none⟩)] w (DrawBodyK R q 50 w) := by
  obtain ⟨i1, hi1, hy0, hy1, hy2⟩ := info_parts infoStm
  have Hi1 := Lib.hid hi1
  have Hy0 := Lib.hid hy0
  have Hy1 := Lib.hid hy1
  have Hy2 := Lib.hid hy2
  clear hi1 hy0 hy1 hy2
  have hR := hr.lt
  go_enter Try.func139, Try.ntmps139
  go_wp2_with fail
  refine (reader_pick R q _ _ (hr.alloc _) (by omega) (by omega)).mono ?_
  rintro e w1 ⟨j0, rfl, hj0, hj1, hr1, hg1⟩
  have hown1 : w1.ownsRow w.heap.size 138 5 (.slice (some ⟨w.heap.size, 0, none⟩) 0 0) 0 [] :=
    (World.ownsRow_made (e := 138) (size := 5) (base := w.heap.size) w #[] 0 (by omega) (by omega) rfl).kept hg1 (.inr (by simp [Value.ownBlock]; omega))
  have G1 := Lib.hid (gb_trans (World.grownBy_alloc w _ _) hg1)
  have hR1 := hr1.lt
  clear hg1 hj0 hj1
  go_wp2_with fail
  generalize (j0 == 0) = pb at *
  refine (reader_one R (q + 1) w1.heap.size 3 [2, 1, 3, 0, 4] _ (hr1.alloc _) (heap_new w1 _ _) (by omega) (by decide) (by decide) (by omega)).mono ?_
  rintro e w2 ⟨n, hn, rfl, hr2, hg2⟩
  have hn' := mem_int 0 4 (by decide) hn
  have G2 := Lib.hid (gb_trans G1.out (gb_trans (World.grownBy_alloc w1 _ _) hg2))
  have Hown2 := Lib.hid ((hown1.alloc (.cells #[.int .i64 2, .int .i64 1, .int .i64 3, .int .i64 0, .int .i64 4] 3)).kept hg2 (.inr (by simp [Value.ownBlock]; omega)))
  clear hg2 hown1 hn G1
  go_wp2_with fail
  go_loopw [3, 5] (fun v kv wr => ∃ (ss : List Stm) (k : Int) (q2 : Nat), kv = .int .i64 k ∧ 0 ≤ k ∧ (ss.length : Int) + k ≤ 4 ∧ (q2 : Int) + 11 * k ≤ q + 46 ∧ Short 8 ss ∧ (∀ s ∈ ss, okStm s = true) ∧ wr.ownsRow w.heap.size 138 5 v ss.length (ss.flatMap stmCells) ∧ Rd wr R q2 ∧ w.grownBy wr (some R)) (fun _ kv _ => (intOf kv).toNat)
  case atStart => exact ⟨[], n, q + 1 + 1, rfl, hn'.1, by simp; omega, by omega, (by intro s hs; cases hs), (by intro s hs; cases hs), Hown2.out, hr2, G2.out⟩
  case round =>
    obtain ⟨ss, k, q2, rfl, hk0, hk4, hq2, hsh, hoks, hown, hrd, hgr⟩ := hrel
    have Hoks := Lib.hid hoks
    have Hsh := Lib.hid hsh
    have Hgr := Lib.hid hgr
    have Hown := Lib.hid hown
    have hRr := hrd.lt
    clear hsh hgr hown Hown2 G2 hr2 hoks
    by_cases hk1 : 0 < k
    · go_wp2_with fail
      refine (spec_someStmtK R q2 _ hrd (by omega)).mono ?_
      rintro e w4 ⟨⟨sk, sm, sl, sn, sv⟩, rfl, hks, hm, hnm, q4, hq4, hr4, hg4⟩
      have Hks := Lib.hid hks
      clear hks
      dsimp only at hm hnm
      unfold stmV
      dsimp only
      have Hown4 := Lib.hid (Hown.out.kept hg4 (.inr (fun e => by have := (Hown.out.lt _ e).1; omega)))
      have G4 := Lib.hid (gb_trans Hgr.out hg4)
      have hge := Lib.hid (fun b hb => (Hown4.out.lt b hb).1)
      have hR4 := hr4.lt
      have hz4 := G4.out.size
      clear hg4 Hown Hgr hrd
      have hcase : (pb = false ∨ (pb = true ∧ (sk == 1) = false ∧ (sk == 4) = false ∧ (sk == 5) = false)) ∨ (pb = true ∧ (sk = 1 ∨ ((sk == 1) = false ∧ sk = 4) ∨ ((sk == 1) = false ∧ (sk == 4) = false ∧ sk = 5))) := by
        cases pb
        · exact .inl (.inl rfl)
        · by_cases h1 : sk = 1
          · exact .inr ⟨rfl, .inl h1⟩
          · have h1b : (sk == 1) = false := by simpa using h1
            by_cases h4 : sk = 4
            · exact .inr ⟨rfl, .inr (.inl ⟨h1b, h4⟩)⟩
            · have h4b : (sk == 4) = false := by simpa using h4
              by_cases h5 : sk = 5
              · exact .inr ⟨rfl, .inr (.inr ⟨h1b, h4b, h5⟩)⟩
              · exact .inl (.inr ⟨rfl, h1b, h4b, by simpa using h5⟩)
      rcases hcase with (rfl | ⟨rfl, n1, n4, n5⟩) | ⟨rfl, hsk⟩
      iterate 2
        · go_wp2_with (at_builtin; refine wpList_append_own _ rfl _ _ 34 rfl w.heap.size 138 i1 _ 5 56 Try.underlying34 Hi1.out Hy0.out Hy1.out Hy2.out rfl (by decide) _ ss.length _ rfl ((Hown4.out.alloc _).alloc _) ⟨_, 0, none⟩ 1 1 (stmCells ⟨sk, sm, sl, sn, sv⟩) rfl rfl ?_ (fun x hx => by simp [stmCells] at hx; rcases hx with rfl | rfl | rfl | rfl | rfl <;> rfl) (by unfold maxLen; omega) (by omega) (by simp; omega) ?_; (exact new_cellsD _ (stmCells ⟨sk, sm, sl, sn, sv⟩).toArray _ _ (by first | with_reducible rfl | (simp; done))); intro v7 w7 hown7 hgrow7 hnil7)
          have Hown7 := Lib.hid hown7
          have G7 := Lib.hid (gb_own (gb_trans G4.out (gb_below (ba (ba (Below.refl _ _) _) _) _)) hgrow7 hge.out)
          have hr7 := ((hr4.alloc _).alloc _).keep (fun j hj => hgrow7.block j (by simp; omega) (fun e => by have := hge.out j e.symm; omega))
          clear hown7 hgrow7 hnil7 Hown4 G4
          go_roundw
          case rel =>
            refine ⟨ss ++ [⟨sk, sm, sl, sn, sv⟩], k - 1, q4, by go_num, by omega, by simp; omega, by omega, ?_, okSs_snoc Hoks.out Hks.out, by have := Hown7.out; simpa using this, hr7, G7.out⟩
            intro x hx
            rcases List.mem_append.1 hx with hx | hx
            · exact Hsh.out x hx
            · simp at hx; subst hx; exact ⟨hm, hnm⟩
          case measure => simp [intOf]; omega
      · rcases hsk with rfl | ⟨n1, rfl⟩ | ⟨n1, n4, rfl⟩
        all_goals
          go_wp2_with fail
          refine (reader_pick R q4 _ _ (hr4.alloc _) (by omega) (by omega)).mono ?_
          rintro e w5 ⟨j, rfl, hj0, hj, hr5, hg5⟩
          have d5 := (Dst.start hR4 _ _).step hg5
          obtain ⟨⟨hl, hc⟩, hf, hg, hx, hw⟩ := d5
          have x0 := hc 0
          have x1 := hc 1
          have x2 := hc 2
          have x3 := hc 3
          have x4 := hc 4
          simp at x0 x1 x2 x3 x4
          have f0 := hf 0
          have f1 := hf 1
          have f2 := hf 2
          have f3 := hf 3
          have f4 := hf 4
          have G5 := Lib.hid (gb_trans G4.out hg)
          have hz5 := G5.out.size
          have Hown5 := Lib.hid ((Hown4.out.alloc _).kept hg5 (.inr (fun e => by have := hge.out _ e; omega)))
          have Hlt4 := Lib.hid (fun b hb => (Hown4.out.lt b hb).2)
          clear hc hf hg hg5 Hown4 G4 hr4
          have Hown6 := Lib.hid (show (((((w5.setCell ⟨w4.heap.size, 0, none⟩ (.int .i64 3)).setCell ⟨w4.heap.size, 1, none⟩ (.string ByteArray.empty)).setCell ⟨w4.heap.size, 2, none⟩ (.int .i64 0)).setCell ⟨w4.heap.size, 3, none⟩ (.string (mk [121]))).setCell ⟨w4.heap.size, 4, none⟩ (.int .i64 j)).ownsRow w.heap.size 138 5 _ ss.length (ss.flatMap stmCells) from (owns_set_otherD (owns_set_otherD (owns_set_otherD (owns_set_otherD (owns_set_otherD Hown5.out (p := ⟨w4.heap.size, 0, none⟩) (fun b hb => by have := Hlt4.out b hb; dsimp only; omega) (.int .i64 3)) (p := ⟨w4.heap.size, 1, none⟩) (fun b hb => by have := Hlt4.out b hb; dsimp only; omega) (.string ByteArray.empty)) (p := ⟨w4.heap.size, 2, none⟩) (fun b hb => by have := Hlt4.out b hb; dsimp only; omega) (.int .i64 0)) (p := ⟨w4.heap.size, 3, none⟩) (fun b hb => by have := Hlt4.out b hb; dsimp only; omega) (.string (mk [121]))) (p := ⟨w4.heap.size, 4, none⟩) (fun b hb => by have := Hlt4.out b hb; dsimp only; omega) (.int .i64 j)))
          have G6 := Lib.hid (show w.grownBy (((((w5.setCell ⟨w4.heap.size, 0, none⟩ (.int .i64 3)).setCell ⟨w4.heap.size, 1, none⟩ (.string ByteArray.empty)).setCell ⟨w4.heap.size, 2, none⟩ (.int .i64 0)).setCell ⟨w4.heap.size, 3, none⟩ (.string (mk [121]))).setCell ⟨w4.heap.size, 4, none⟩ (.int .i64 j)) (some R) from (gb_set (gb_set (gb_set (gb_set (gb_set G5.out (p := ⟨w4.heap.size, 0, none⟩) hz4 (.int .i64 3)) (p := ⟨w4.heap.size, 1, none⟩) hz4 (.string ByteArray.empty)) (p := ⟨w4.heap.size, 2, none⟩) hz4 (.int .i64 0)) (p := ⟨w4.heap.size, 3, none⟩) hz4 (.string (mk [121]))) (p := ⟨w4.heap.size, 4, none⟩) hz4 (.int .i64 j)))
          have Hr6 := Lib.hid (show Rd (((((w5.setCell ⟨w4.heap.size, 0, none⟩ (.int .i64 3)).setCell ⟨w4.heap.size, 1, none⟩ (.string ByteArray.empty)).setCell ⟨w4.heap.size, 2, none⟩ (.int .i64 0)).setCell ⟨w4.heap.size, 3, none⟩ (.string (mk [121]))).setCell ⟨w4.heap.size, 4, none⟩ (.int .i64 j)) R (q4 + 1) from (Rd.set (Rd.set (Rd.set (Rd.set (Rd.set hr5 (p := ⟨w4.heap.size, 0, none⟩) hR4 (.int .i64 3)) (p := ⟨w4.heap.size, 1, none⟩) hR4 (.string ByteArray.empty)) (p := ⟨w4.heap.size, 2, none⟩) hR4 (.int .i64 0)) (p := ⟨w4.heap.size, 3, none⟩) hR4 (.string (mk [121]))) (p := ⟨w4.heap.size, 4, none⟩) hR4 (.int .i64 j)))
          go_wp2_with (at_builtin; refine wpList_append_own _ rfl _ _ 34 rfl w.heap.size 138 i1 _ 5 56 Try.underlying34 Hi1.out Hy0.out Hy1.out Hy2.out rfl (by decide) _ ss.length _ rfl (Hown6.out.alloc _) ⟨_, 0, none⟩ 1 1 (stmCells ⟨3, [], 0, [121], j⟩) rfl rfl ?_ (fun x hx => by simp [stmCells] at hx; rcases hx with rfl | rfl | rfl | rfl | rfl <;> rfl) (by unfold maxLen; omega) (by omega) (by simp; omega) ?_; (exact new_cellsD _ (stmCells ⟨3, [], 0, [121], j⟩).toArray _ _ (by first | with_reducible rfl | (simp; done))); intro v7 w7 hown7 hgrow7 hnil7)
          have Hown7 := Lib.hid hown7
          have G7 := Lib.hid (gb_own (gb_trans G6.out (World.grownBy_alloc _ _ _)) hgrow7 hge.out)
          have hr7 : Rd w7 R (q4 + 1) := (Hr6.out.alloc _).keep (fun j hj => hgrow7.block j (by simp; omega) (fun e => by have := hge.out j e.symm; omega))
          clear hown7 hgrow7 hnil7 Hown5 G5
          go_roundw
          case rel =>
            refine ⟨ss ++ [⟨3, [], 0, [121], j⟩], k - 1, q4 + 1, by go_num, by omega, by simp; omega, by omega, ?_, okSs_snoc Hoks.out (okS_set (by decide) (by omega) (by omega)), by have := Hown7.out; simpa using this, hr7, G7.out⟩
            intro x hx
            rcases List.mem_append.1 hx with hx | hx
            · exact Hsh.out x hx
            · simp at hx; subst hx; exact ⟨by simp, by simp⟩
          case measure => simp [intOf]; omega
    · go_wp2_with fail
      go_ret
      exact ⟨_, ss, rfl, Hown.out, okBody_of Hoks.out (by omega), Hsh.out, by omega, q2, by omega, hrd, Hgr.out⟩
theorem spec_someBody (R q : Nat) (w : World) (hr : Rd w R q) (hq : q ≤ 700000) :
    Calls Try.prog 139 #[.pointer (some ⟨R, 0, none⟩)] w (DrawBody R q 50 w) :=
  (spec_someBodyK R q w hr hq).mono fun _ _ ⟨v, ss, h1, h2, _, h3⟩ => ⟨v, ss, h1, h2, h3⟩

/-! ### The function that draws a body that may not be valid: whatever the code, it answers a short one, in memory of its own. -/
end Go.Proofs.Ytgecemngfpgcoaa
