/- The functions that draw commands for a law. -/
import Derived.Test.YtebfafefeajemaaDrawO
import Derived.Test.YtebfafefeajemaaCmdMem
import Derived.Deep.Cut
set_option linter.unusedVariables false
set_option linter.unusedSimpArgs false
namespace Go.Proofs.Ytebfafefeajemaa
open Go.RowKit Go.Proofs.Ytebfafefeajemaa.Nm

theorem infoCmdD : (Try.prog.info? 136).map (fun i => (i.zero, i.size, i.bytes)) = some (some (.agg #[.int .i64 0, .string ByteArray.empty]), 2, 24) := by kernel_rfl
theorem cmd_one (s : Cmd) : ∀ x ∈ cmdCells s, x.oneCell' = true := fun x hx => by simp [cmdCells] at hx; rcases hx with rfl | rfl <;> rfl
theorem cmd_oneD (ss : List Cmd) : ∀ x ∈ ss.flatMap cmdCells, x.oneCell' = true := fun x hx => by
  obtain ⟨s, _, h⟩ := List.mem_flatMap.1 hx
  exact cmd_one s x h
theorem short_snoc {B : Nat} {cs : List Cmd} {c : Cmd} (h : ShortCmd B cs) (hc : c.name.length ≤ B) : ShortCmd B (cs ++ [c]) := fun x hx => by
  rcases List.mem_append.1 hx with hx | hx
  · exact h x hx
  · simp at hx; subst hx; exact hc
/-- What commandsOf comes to: a tree, a path and commands. -/
def DrawCmds (R q c : Nat) (w : World) (e : Ending) (w' : World) : Prop :=
  ∃ v ps pv xs lv cs, e = .returned (.tuple #[.agg #[v], pv, lv]) ∧ RowsB w' w.heap.size v ps ∧ ShortT 8 (ps.map (·.1)) ∧ ps.length ≤ 11 ∧ (∀ p ∈ ps, p.1.body.length ≤ 5) ∧ PathIn w' pv xs ∧ xs.length ≤ 3 ∧ w'.ownsRow w.heap.size 136 2 lv cs.length (cs.flatMap cmdCells) ∧ ShortCmd 17 cs ∧ cs.length ≤ 6 ∧ ∃ q', q' ≤ q + c ∧ Rd w' R q' ∧ w.grownBy w' (some R)
set_option maxRecDepth 100000 in
set_option maxHeartbeats 4000000 in
theorem spec_commandsOf (R q : Nat) (w : World) (hr : Rd w R q) (hq : q ≤ 90000) :
    Calls Try.prog 118 #[.pointer (some ⟨R, 0, none⟩)] w (DrawCmds R q 667 w) := by
  obtain ⟨i1, hi1, hy0, hy1, hy2⟩ := info_parts infoCmdD
  have Hi1 := Lib.hid hi1
  have Hy0 := Lib.hid hy0
  have Hy1 := Lib.hid hy1
  have Hy2 := Lib.hid hy2
  clear hi1 hy0 hy1 hy2
  have hR := hr.lt
  go_enter Try.func118, Try.ntmps118
  go_wp2_with fail
  have d0 := Dst.start hR #[.slice none 0 0] 62
  refine (spec_nameOf R q _ (hr.alloc _) (by omega)).mono ?_
  rintro e w1 ⟨v, ps, pv, xs, s0, rfl, hrows, hsh, hl, hb5, hp, hx3, hs17, q1, hq1, hr1, hg1⟩
  obtain ⟨va, vc, rfl⟩ := hrows.len
  obtain ⟨pa, pc, rfl⟩ := hp.len
  have Hsh := Lib.hid hsh
  have Hb5 := Lib.hid hb5
  have D1 := Lib.hid (d0.step hg1)
  have hR1 := hr1.lt
  have hz1 : w.heap.size + 1 ≤ w1.heap.size := by have := hg1.size; simpa using this
  have HR1 := Lib.hid (hrows.mono (B' := w.heap.size + 1) (by simp))
  have HP1 := Lib.hid hp
  clear hrows hsh hb5 hg1 d0 hp
  have E1 : Dst w R w1.heap.size #[.slice va ps.length vc] (w1.alloc (.cells #[.slice va ps.length vc] 62)) := by
    obtain ⟨h1, h2, h3, h4, h5⟩ := Dst.start (w := w1) hR1 #[.slice va ps.length vc] 62
    exact ⟨h1, h2, gb_trans D1.out.2.2.1 h3, h4, by omega⟩
  have HR2 := Lib.hid (HR1.out.below (ba (Below.refl _ _) (.cells #[.slice va ps.length vc] 62)))
  have HP2 := Lib.hid (HP1.out.below (ba (Below.refl _ _) (.cells #[.slice va ps.length vc] 62)))
  have D2 := Lib.hid (D1.out.alloc (.cells #[.slice va ps.length vc] 62))
  have E2 := Lib.hid E1
  have Hr2 := Lib.hid (hr1.alloc (.cells #[.slice va ps.length vc] 62))
  clear HR1 HP1 D1 E1 hr1 hr
  obtain ⟨W, hW⟩ : ∃ W, W = w1.alloc (.cells #[.slice va ps.length vc] 62) := ⟨_, rfl⟩
  have hWs : W.heap.size = w1.heap.size + 1 := by rw [hW]; simp
  rw [← hW] at HR2 HP2 D2 E2 Hr2
  have HW := Lib.hid hW
  clear hW
  obtain ⟨X, hX⟩ : ∃ X, X = w1.heap.size := ⟨_, rfl⟩
  rw [← hX] at E2 hWs hz1 hR1
  have hXw : w.heap.size ≠ X := by omega
  have hXw' : X ≠ w.heap.size := by omega
  have Fin := Lib.hid (show ∀ (w' : World) (q' : Nat) (lv : Value) (cs : List Cmd), W.grownBy w' (some R) → Rd w' R q' → q' ≤ q + 667 → w'.ownsRow (X + 1) 136 2 lv cs.length (cs.flatMap cmdCells) → ShortCmd 17 cs → cs.length ≤ 6 →
      DrawCmds R q 667 w (.returned (.tuple #[.agg #[.slice va ps.length vc], .slice pa xs.length pc, lv])) (w'.setCell ⟨w.heap.size, 0, none⟩ (.slice va ps.length vc)) from fun w' q' lv cs h1 h2 h3 h4 h5 h6 =>
    ⟨_, ps, _, xs, lv, cs, rfl, ((HR2.out.gb h1 (by omega)).set_low (by dsimp only; omega) _).mono (by omega), Hsh.out, by omega, Hb5.out, PathIn.set_box (HP2.out.gbR Hr2.out h1) ((D2.out.step h1).1.2 0) _, hx3, owns_mono (owns_set_low h4 (by dsimp only; omega) _) (by omega), h5, h6, q', h3, h2.set (by dsimp only; omega) _, gb_set (D2.out.step h1).2.2.1 (by dsimp only; omega) _⟩)
  go_wp2_with fail
  rw [← HW.out]
  rw [← hX]
  clear hX
  have hr2 := Hr2.out
  have hR2 := hr2.lt
  refine (reader_one R q1 (X + 1 + 1) 3 [2, 3, 1, 4, 0, 6] _ ((hr2.alloc (.cells #[] 136)).alloc _) (by have := heap_new (W.alloc (.cells #[] 136)) ((([2, 3, 1, 4, 0, 6] : List Int).map ivN).toArray) 3; have e : (W.alloc (.cells #[] 136)).heap.size = X + 1 + 1 := (by simp [hWs]); rw [e] at this; exact this) (by omega) (by decide) (by decide) (by omega)).mono ?_
  rintro e w3 ⟨n, hn, rfl, hr3, hg3⟩
  have hn' := mem_int 0 6 (by decide) hn
  have Hown3 := Lib.hid (((show (W.alloc (.cells #[] 136)).ownsRow (X + 1) 136 2 (.slice (some ⟨X + 1, 0, none⟩) 0 0) 0 [] by have h := World.ownsRow_made (e := 136) (size := 2) (base := W.heap.size) W #[] 0 (by omega) (by omega) rfl; rw [hWs] at h; exact h).alloc (.cells #[.int .i64 2, .int .i64 3, .int .i64 1, .int .i64 4, .int .i64 0, .int .i64 6] 3)).kept hg3 (.inr (by simp [Value.ownBlock]; omega)))
  have G3 := Lib.hid (gb_trans (gb_trans (World.grownBy_alloc W (.cells #[] 136) (some R)) (World.grownBy_alloc _ _ _)) hg3)
  have Hr3 := Lib.hid hr3
  clear hn hg3 hr3 hr2
  go_wp2_with fail
  go_loopw [8, 9] (fun ov nv wr => ∃ (cs : List Cmd) (k : Int) (q2 : Nat), nv = .int .i64 k ∧ 0 ≤ k ∧ (cs.length : Int) + k ≤ 6 ∧ (q2 : Int) + 7 * k ≤ q + 665 ∧ ShortCmd 17 cs ∧ wr.ownsRow (X + 1) 136 2 ov cs.length (cs.flatMap cmdCells) ∧ Rd wr R q2 ∧ W.grownBy wr (some R)) (fun _ nv _ => (intOf nv).toNat)
  case atStart => exact ⟨[], n, q1 + 1, rfl, hn'.1, by simp; omega, by omega, (by intro s hs; cases hs), Hown3.out, Hr3.out, G3.out⟩
  case round =>
    obtain ⟨cs, k, q2, rfl, hk0, hk6, hq2, hsc, hown, hrd, hgr⟩ := hrel
    obtain ⟨oa, oc, rfl⟩ := owns_shape hown
    have Hsc := Lib.hid hsc
    have Hgr := Lib.hid hgr
    have Hown := Lib.hid hown
    have hge := Lib.hid (fun b hb => (Hown.out.lt b hb).1)
    have hRr := hrd.lt
    have hzr := hgr.size
    clear hsc hgr hown Hown3 G3 Hr3
    by_cases hk1 : 0 < k
    · go_wp2_with fail
      refine (reader_one R q2 wr.heap.size 3 [0, 0, 1, 2, 0] _ (hrd.alloc _) (heap_new wr _ _) (by omega) (by decide) (by decide) (by omega)).mono ?_
      rintro e w4 ⟨kd, hkd, rfl, hr4, hg4⟩
      have G4 := Lib.hid (gb_trans Hgr.out (gb_trans (World.grownBy_alloc wr _ _) hg4))
      have Hown4 := Lib.hid ((Hown.out.alloc (.cells #[.int .i64 0, .int .i64 0, .int .i64 1, .int .i64 2, .int .i64 0] 3)).kept hg4 (.inr (fun e => by have := hge.out _ e; omega)))
      clear hkd hg4 Hgr Hown hrd
      go_wp2_with fail
      refine (spec_aName R (q2 + 1) _ hr4 (by omega)).mono ?_
      rintro e w5 ⟨s, rfl, hs5, q5, hq5, hr5, hg5⟩
      have G5 := Lib.hid (gb_trans G4.out hg5)
      have Hown5 := Lib.hid (Hown4.out.kept hg5 (.inr (fun e => by have := hge.out _ e; omega)))
      have hR5 := hr5.lt
      have hz5 := G5.out.size
      have B5 := Lib.hid (Dst.start hR5 #[.int .i64 kd, .string (mk s)] 136)
      have Hown6 := Lib.hid (Hown5.out.alloc (.cells #[.int .i64 kd, .string (mk s)] 136))
      have Hlt5 := Lib.hid (fun b hb => (Hown5.out.lt b hb).2)
      have G6 := Lib.hid (gb_trans G5.out (World.grownBy_alloc w5 (.cells #[.int .i64 kd, .string (mk s)] 136) (some R)))
      have hr6 := hr5.alloc (.cells #[.int .i64 kd, .string (mk s)] 136)
      clear hg5 Hown4 G4 hr4 Hown5 G5 hr5
      obtain ⟨w6, hw6⟩ : ∃ w6, w6 = w5.alloc (.cells #[.int .i64 kd, .string (mk s)] 136) := ⟨_, rfl⟩
      rw [← hw6] at B5 Hown6 G6 hr6
      have Hw6 := Lib.hid hw6
      obtain ⟨Y, hY⟩ : ∃ Y, Y = w5.heap.size := ⟨_, rfl⟩
      rw [← hY] at B5 hz5 Hlt5 hR5
      have HY := Lib.hid hY
      have EX := Lib.hid (E2.out.step G6.out)
      have x5 : w6.cell? ⟨X, 0, none⟩ = some (.slice va ps.length vc) := EX.out.1.2 0
      have hXY : X ≠ Y := by omega
      have hXY' : Y ≠ X := by omega
      have hYR : R < Y := by omega
      clear hw6 hY
      by_cases hp0 : 0 < ps.length
      · have hp0i : (0 : Int) < (ps.length : Int) := by omega
        go_upto_region 7 with fail
        rw [← Hw6.out, ← HY.out]
        go_wp2_with fail
        refine (reader_pick R q5 _ _ hr6 (by omega) (by omega)).mono ?_
        rintro e w7 ⟨j, rfl, hj0, hj, hr7, hg7⟩
        have G7 := Lib.hid (gb_trans G6.out hg7)
        have B7 := Lib.hid (B5.out.step hg7)
        have Hown7 := Lib.hid (Hown6.out.kept hg7 (.inr (fun e => by have := hge.out _ e; omega)))
        have x7 : w7.cell? ⟨X, 0, none⟩ = some (.slice va ps.length vc) := (E2.out.step G7.out).1.2 0
        have y0 : w7.cell? ⟨Y, 0, none⟩ = some (.int .i64 kd) := B7.out.1.2 0
        have y1 : w7.cell? ⟨Y, 1, none⟩ = some (.string (mk s)) := B7.out.1.2 1
        clear hg7 hj Hown6 G6 hr6 x5 EX B5
        by_cases hj1 : 0 < j
        · go_wp2_with fail
          go_region_law (first
            | (go_simp; go_at_call 109; refine (reader_pick R (q5 + 1) (ps.length : Int) _ (hr7.drew) (by omega) (by omega)).mono ?_; rintro e w8 ⟨i, rfl, hi0, hi, hr8, hg8⟩; obtain ⟨m, rfl⟩ := Int.eq_ofNat_of_zero_le hi0; have hm : m < ps.length := (by rcases hi with h | h <;> omega); have G8 := Lib.hid (gb_trans (show W.grownBy w7.drew (some R) from gb_trans G7.out ⟨rfl, rfl, rfl, Nat.le_refl _, fun _ _ _ => rfl⟩) hg8); have B8 := Lib.hid (B7.out.drew.step hg8); have HR8 := Lib.hid (HR2.out.gb G8.out (by omega)); have Hr8 := Lib.hid hr8; have Hown8 := Lib.hid ((owns_below Hown7.out (show Below w7.heap.size w7 w7.drew from ⟨rfl, rfl, rfl, Nat.le_refl _, fun _ _ => rfl⟩)).kept hg8 (.inr (fun e => by have := hge.out _ e; omega))); have y8 : w8.cell? ⟨X, 0, none⟩ = some (.slice va ps.length vc) := (E2.out.step G8.out).1.2 0; obtain ⟨g, cap, e1, hg, _⟩ := HR8.out.1.form (by omega); simp only [Value.slice.injEq] at e1; obtain ⟨rfl, _, rfl⟩ := e1; obtain ⟨⟨c0, c1, c2, c3, c4, c5⟩, _⟩ := own6 HR8.out.1 m hm; have Hz := Lib.hid (show ShortF 8 ps[m].1 from Hsh.out _ (List.mem_map.2 ⟨ps[m], List.getElem_mem hm, rfl⟩)); obtain ⟨f, hf⟩ : ∃ f, f = ps[m] := ⟨_, rfl⟩; rw [← hf] at c0 c1 c2 c3 c4 c5 Hz; obtain ⟨⟨fr, fp, fn, fi, fst, fb⟩, bv⟩ := f; dsimp only at c0 c1 c2 c3 c4 c5; clear hg8 hr8 hf)
            | (go_simp; go_at_call 76; refine (spec_moduleName _ _ _ _ _ _ fb _ (by have := Hz.out.1; dsimp only at this; omega) (by have := Hz.out.2.1; dsimp only at this; omega)).mono ?_; rintro e w9 ⟨rfl, hb9⟩; have G9 := Lib.hid (gb_trans G8.out (gb_below hb9 _)); have B9 := Lib.hid (B8.out.step (gb_below hb9 _)); have Hown9 := Lib.hid (owns_below Hown8.out hb9); have Hr9 := Lib.hid (Hr8.out.below hb9 Hr8.out.lt); have z0 : w9.cell? ⟨Y, 0, none⟩ = some (.int .i64 kd) := B9.out.1.2 0; have z1 : w9.cell? ⟨Y, 1, none⟩ = some (.string (mk s)) := B9.out.1.2 1; have zf : w9.frozen? ⟨Y, 1, none⟩ = false := B9.out.2.1 1; clear hb9))
          all_goals
            have hml := modName_len ⟨fr, fp, fn, fi, fst, fb⟩
            have hz1 := Hz.out.1
            have hz2 := Hz.out.2.1
            dsimp only at hml hz1 hz2
            have Hml := Lib.hid (show (modName ⟨fr, fp, fn, fi, fst, fb⟩).length ≤ 17 by omega)
            generalize modName ⟨fr, fp, fn, fi, fst, fb⟩ = t at *
            have HownA := Lib.hid (owns_set_otherD Hown9.out (p := ⟨Y, 1, none⟩) (fun b hb => by have := Hlt5.out b hb; dsimp only; omega) (.string (mk t)))
            have GA := Lib.hid (gb_set G9.out (p := ⟨Y, 1, none⟩) (by dsimp only; omega) (.string (mk t)))
            have HrA := Lib.hid (Hr9.out.set (p := ⟨Y, 1, none⟩) hYR (.string (mk t)))
            have hz9 := GA.out.size
            go_wp2_with (at_builtin; refine wpList_append_own _ rfl _ _ 86 rfl (X + 1) 136 i1 _ 2 24 Try.underlying86 Hi1.out Hy0.out Hy1.out Hy2.out rfl (by decide) _ cs.length _ rfl (HownA.out.alloc _) ⟨_, 0, none⟩ 1 1 (cmdCells ⟨kd, t⟩) rfl rfl ?_ (cmd_one _) (by unfold maxLen; omega) (by omega) (by simp at hz9 ⊢; omega) ?_; (exact new_cellsD _ (cmdCells ⟨kd, t⟩).toArray _ _ (by first | with_reducible rfl | (simp; done))); intro vB wB hownB hgrowB hnilB)
            have HownB := Lib.hid hownB
            have GB := Lib.hid (gb_own (gb_trans GA.out (World.grownBy_alloc _ _ _)) hgrowB (fun b hb => by have := hge.out b hb; omega))
            have hrB : Rd wB R (q5 + 1 + 1) := (HrA.out.alloc _).keep (fun j hj => hgrowB.block j (by have := HrA.out.lt; simp at this ⊢; omega) (fun e => by have := hge.out j e.symm; omega))
            clear hownB hgrowB hnilB
            go_roundw
            case rel => exact ⟨cs ++ [⟨kd, t⟩], k - 1, q5 + 1 + 1, by go_num, by omega, by simp; omega, by omega, short_snoc Hsc.out Hml.out, by have := HownB.out; simpa using this, hrB, GB.out⟩
            case measure => simp [intOf]; omega
        · have hj1b : decide (0 < j) = false := decide_eq_false hj1
          go_wp2_with (at_builtin; refine wpList_append_own _ rfl _ _ 86 rfl (X + 1) 136 i1 _ 2 24 Try.underlying86 Hi1.out Hy0.out Hy1.out Hy2.out rfl (by decide) _ cs.length _ rfl (Hown7.out.alloc _) ⟨_, 0, none⟩ 1 1 (cmdCells ⟨kd, s⟩) rfl rfl ?_ (cmd_one _) (by unfold maxLen; omega) (by omega) (by have := G7.out.size; simp; omega) ?_; (exact new_cellsD _ (cmdCells ⟨kd, s⟩).toArray _ _ (by first | with_reducible rfl | (simp; done))); intro vB wB hownB hgrowB hnilB)
          have HownB := Lib.hid hownB
          have GB := Lib.hid (gb_own (gb_trans G7.out (World.grownBy_alloc _ _ _)) hgrowB (fun b hb => by have := hge.out b hb; omega))
          have hrB : Rd wB R (q5 + 1) := (hr7.alloc _).keep (fun j hj => hgrowB.block j (by have := hr7.lt; simp; omega) (fun e => by have := hge.out j e.symm; omega))
          clear hownB hgrowB hnilB
          go_roundw
          case rel => exact ⟨cs ++ [⟨kd, s⟩], k - 1, q5 + 1, by go_num, by omega, by simp; omega, by omega, short_snoc Hsc.out (by dsimp only; omega), by have := HownB.out; simpa using this, hrB, GB.out⟩
          case measure => simp [intOf]; omega
      · have hp0i : ¬ (0 : Int) < (ps.length : Int) := by omega
        have hp0b : decide ((0 : Int) < (ps.length : Int)) = false := decide_eq_false hp0i
        have y0 : w6.cell? ⟨Y, 0, none⟩ = some (.int .i64 kd) := B5.out.1.2 0
        have y1 : w6.cell? ⟨Y, 1, none⟩ = some (.string (mk s)) := B5.out.1.2 1
        go_upto_region 7 with fail
        rw [← Hw6.out, ← HY.out]
        go_wp2_with (at_builtin; refine wpList_append_own _ rfl _ _ 86 rfl (X + 1) 136 i1 _ 2 24 Try.underlying86 Hi1.out Hy0.out Hy1.out Hy2.out rfl (by decide) _ cs.length _ rfl (Hown6.out.alloc _) ⟨_, 0, none⟩ 1 1 (cmdCells ⟨kd, s⟩) rfl rfl ?_ (cmd_one _) (by unfold maxLen; omega) (by omega) (by have := G6.out.size; simp; omega) ?_; (exact new_cellsD _ (cmdCells ⟨kd, s⟩).toArray _ _ (by first | with_reducible rfl | (simp; done))); intro vB wB hownB hgrowB hnilB)
        have HownB := Lib.hid hownB
        have GB := Lib.hid (gb_own (gb_trans G6.out (World.grownBy_alloc _ _ _)) hgrowB (fun b hb => by have := hge.out b hb; omega))
        have hrB : Rd wB R q5 := (hr6.alloc _).keep (fun j hj => hgrowB.block j (by have := hr6.lt; simp; omega) (fun e => by have := hge.out j e.symm; omega))
        clear hownB hgrowB hnilB
        go_roundw
        case rel => exact ⟨cs ++ [⟨kd, s⟩], k - 1, q5, by go_num, by omega, by simp; omega, by omega, short_snoc Hsc.out (by dsimp only; omega), by have := HownB.out; simpa using this, hrB, GB.out⟩
        case measure => simp [intOf]; omega
    · cases cs with
      | nil =>
        have z : wr.cell? ⟨w.heap.size, 0, none⟩ = some (.slice none 0 0) := (D2.out.step Hgr.out).1.2 0
        have zf : wr.frozen? ⟨w.heap.size, 0, none⟩ = false := (D2.out.step Hgr.out).2.1 0
        have x : wr.cell? ⟨X, 0, none⟩ = some (.slice va ps.length vc) := (E2.out.step Hgr.out).1.2 0
        go_wp2_with fail
        exact bodyPost_ret (v := .tuple #[.agg #[.slice va ps.length vc], .slice pa xs.length pc, .slice oa 0 oc]) (by simp [results, Try.results118, go_sem, z]) rfl (Fin.out wr q2 _ [] Hgr.out hrd (by omega) Hown.out Hsc.out (by simp))
      | cons c0 tl =>
        obtain ⟨ck, cn⟩ := c0
        have hln : (((⟨ck, cn⟩ : Cmd) :: tl).length : Int) = (tl.length : Int) + 1 := by simp
        obtain ⟨g, cap, e1, hg, hg2⟩ := Hown.out.form (by simp)
        simp only [Value.slice.injEq] at e1
        obtain ⟨rfl, _, rfl⟩ := e1
        have hgw := hge.out g rfl
        go_wp2_with fail
        refine (reader_pick R q2 _ _ hrd (by omega) (by omega)).mono ?_
        rintro e w7 ⟨j, rfl, hj0, hj, hr7, hg7⟩
        have G7 := Lib.hid (gb_trans Hgr.out hg7)
        have Hown7 := Lib.hid (Hown.out.kept hg7 (.inr (fun e => by have := hge.out _ e; omega)))
        have hR7 := hr7.lt
        clear hg7 Hgr Hown hrd
        by_cases h0 : j = 0
        · subst h0
          go_wp2_with fail
          refine (reader_one R (q2 + 1) w7.heap.size 3 [-1, 3] _ (hr7.alloc _) (heap_new w7 _ _) (by omega) (by decide) (by decide) (by omega)).mono ?_
          rintro e w8 ⟨y, hy, rfl, hr8, hg8⟩
          have hown8 := (Hown7.out.alloc (.cells #[.int .i64 (-1), .int .i64 3] 3)).kept hg8 (.inr (fun e => by have := hge.out _ e; omega))
          have hfr := hown8.frozenAt 0
          obtain ⟨u0, hu0⟩ := own_hasD hown8 0 (by simp)
          have Hown8 := Lib.hid (hown8.stored 0 (.int .i64 y)).1
          have G8 := Lib.hid (gb_set (gb_trans G7.out (gb_trans (World.grownBy_alloc w7 _ _) hg8)) (p := ⟨g, 0, none⟩) (by dsimp only; omega) (.int .i64 y))
          have Hr8 := Lib.hid (hr8.set (p := ⟨g, 0, none⟩) (by dsimp only; omega) (.int .i64 y))
          have z : (w8.setCell ⟨g, 0, none⟩ (.int .i64 y)).cell? ⟨w.heap.size, 0, none⟩ = some (.slice none 0 0) := (D2.out.step G8.out).1.2 0
          have zf : (w8.setCell ⟨g, 0, none⟩ (.int .i64 y)).frozen? ⟨w.heap.size, 0, none⟩ = false := (D2.out.step G8.out).2.1 0
          have x : (w8.setCell ⟨g, 0, none⟩ (.int .i64 y)).cell? ⟨X, 0, none⟩ = some (.slice va ps.length vc) := (E2.out.step G8.out).1.2 0
          have z' : w8.cell? ⟨w.heap.size, 0, none⟩ = some (.slice none 0 0) := (D2.out.step (gb_trans G7.out (gb_trans (World.grownBy_alloc w7 _ _) hg8))).1.2 0
          have x' : w8.cell? ⟨X, 0, none⟩ = some (.slice va ps.length vc) := (E2.out.step (gb_trans G7.out (gb_trans (World.grownBy_alloc w7 _ _) hg8))).1.2 0
          have n1 : g ≠ w.heap.size := by omega
          have n2 : w.heap.size ≠ g := by omega
          have n3 : g ≠ X := by omega
          have n4 : X ≠ g := by omega
          clear hg8 hown8 hy
          go_wp2_with fail
          exact bodyPost_ret (v := .tuple #[.agg #[.slice va ps.length vc], .slice pa xs.length pc, .slice (some ⟨g, 0, none⟩) (tl.length + 1) oc]) (by simp [results, Try.results118, go_sem, z, z']) rfl (Fin.out _ (q2 + 1 + 1) _ (⟨y, cn⟩ :: tl) G8.out Hr8.out (by omega) (by have h := Hown8.out; simpa [cmdCells] using h) (fun c hc => by
            rcases List.mem_cons.1 hc with rfl | hc
            · exact Hsc.out ⟨ck, cn⟩ (List.mem_cons_self ..)
            · exact Hsc.out c (List.mem_cons_of_mem _ hc)) (by simp at hk6 ⊢; omega))
        · have h0b : (j == 0) = false := by simpa using h0
          have z : w7.cell? ⟨w.heap.size, 0, none⟩ = some (.slice none 0 0) := (D2.out.step G7.out).1.2 0
          have zf : w7.frozen? ⟨w.heap.size, 0, none⟩ = false := (D2.out.step G7.out).2.1 0
          have x : w7.cell? ⟨X, 0, none⟩ = some (.slice va ps.length vc) := (E2.out.step G7.out).1.2 0
          go_wp2_with fail
          exact bodyPost_ret (v := .tuple #[.agg #[.slice va ps.length vc], .slice pa xs.length pc, .slice (some ⟨g, 0, none⟩) (tl.length + 1) oc]) (by simp [results, Try.results118, go_sem, z]) rfl (Fin.out _ (q2 + 1) _ (⟨ck, cn⟩ :: tl) G7.out hr7 (by omega) Hown7.out Hsc.out (by simp at hk6 ⊢; omega))

/-- Commands, drawn for a law. -/
def DrawnCmds (w : World) (e : Ending) (w' : World) : Prop :=
  ∃ (v : Value) (cs : List Cmd), e = .returned v ∧ w'.ownsRow w.heap.size 136 2 v cs.length (cs.flatMap cmdCells) ∧ ShortCmd 17 cs ∧ cs.length ≤ 6 ∧ Below w.heap.size w w'
set_option maxRecDepth 100000 in
set_option maxHeartbeats 800000 in
theorem spec_DrawValidCommands (a : Option Addr) (n cap : Nat) (w : World) (hc : Code w w.heap.size a n cap) :
    Calls Try.prog 65 #[.slice a n cap] w (DrawnCmds w) := by
  go_enter Try.func65, Try.ntmps65
  go_wp2_with fail
  refine (spec_newReader a n cap w hc).mono ?_
  rintro e w1 ⟨rfl, hr, hb⟩
  have hz := hb.size
  go_wp2_with fail
  refine (spec_commandsOf _ 0 _ hr (by omega)).mono ?_
  rintro e w2 ⟨v, ps, pv, xs, lv, cs, rfl, hrows, hsh, hl, hb5, hp, hx3, hown, hsc, hl6, q', hq', hr2, hg⟩
  have Hg := Lib.hid (below_gb hb hz (Nat.le_refl _) hg)
  have Hown := Lib.hid hown
  have Hsc := Lib.hid hsc
  obtain ⟨va, vc, rfl⟩ := hrows.len
  obtain ⟨pa, pc, rfl⟩ := hp.len
  clear hg hown hsc hrows hp hsh hb5
  go_wp2_with fail
  go_ret
  exact ⟨lv, cs, rfl, owns_below (owns_mono Hown.out hz) (ba (Below.refl _ _) _), Hsc.out, hl6, ba Hg.out _⟩
end Go.Proofs.Ytebfafefeajemaa
