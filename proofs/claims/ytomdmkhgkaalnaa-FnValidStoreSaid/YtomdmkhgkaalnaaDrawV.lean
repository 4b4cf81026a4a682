/- The function that draws a body that may not be valid: whatever the code, it answers a short one, in memory of its own. -/
import Derived.Test.YtomdmkhgkaalnaaDrawU
import Derived.Deep.AppendLies
set_option linter.unusedVariables false
set_option linter.unusedSimpArgs false
namespace Go.Proofs.Ytomdmkhgkaalnaa
open Go.RowKit Go.Proofs.Ytomdmkhgkaalnaa.Nm

set_option maxRecDepth 100000 in
set_option maxHeartbeats 800000 in
theorem spec_anyBody (R q : Nat) (w : World) (hr : Rd w R q) (hq : q ≤ 600000) :
    Calls Try.prog 133 #[.pointer (some ⟨R, 0, none⟩)] w (DrawBody R q 52 w) := by
  have hR := hr.lt
  go_enter Try.func133, Try.ntmps133
  go_wp2_with fail
  refine (spec_someBody R q _ hr (by omega)).mono ?_
  rintro e w1 ⟨v, ss, rfl, hown, hsh, hl4, q1, hq1, hr1, hg1⟩
  obtain ⟨aa, ca, rfl⟩ := owns_shape hown
  have Hsh := Lib.hid hsh
  have Hown := Lib.hid hown
  have G1 := Lib.hid hg1
  have hR1 := hr1.lt
  clear hsh hown hg1
  cases ss with
  | nil =>
    go_wp2_with fail
    go_ret
    exact ⟨_, [], rfl, Hown.out, Hsh.out, by simp, q1, by omega, hr1, G1.out⟩
  | cons s0 tl =>
    obtain ⟨sk, sm, sl, sn, sv⟩ := s0
    have hln : (((⟨sk, sm, sl, sn, sv⟩ : Stm) :: tl).length : Int) = (tl.length : Int) + 1 := by simp
    have hs0 := Hsh.out _ (List.mem_cons_self ..)
    have Htl := Lib.hid (fun s (hs : s ∈ tl) => Hsh.out s (List.mem_cons_of_mem _ hs))
    dsimp only at hs0
    obtain ⟨g, cap, e1, hg, hg2⟩ := Hown.out.form (by simp)
    simp only [Value.slice.injEq] at e1
    obtain ⟨rfl, _, rfl⟩ := e1
    have hgr := (Hown.out.lt g rfl).1
    simp only [List.length_cons] at hl4
    go_wp2_with fail
    refine (reader_pick R q1 _ _ hr1 (by omega) (by omega)).mono ?_
    rintro e w2 ⟨j, rfl, hj0, hj, hr2, hg2⟩
    have Hown2 := Lib.hid (Hown.out.kept hg2 (.inr (fun e => by have := (Hown.out.lt _ e).1; omega)))
    have G2 := Lib.hid (gb_trans G1.out hg2)
    have hR2 := hr2.lt
    clear hg2 Hown G1 hr1
    by_cases h0 : j = 0
    · subst h0
      go_wp2_with fail
      refine (reader_one R (q1 + 1) w2.heap.size 3 [-1, 6] _ (hr2.alloc _) (heap_new w2 _ _) (by omega) (by decide) (by decide) (by omega)).mono ?_
      rintro e w3 ⟨x, hx, rfl, hr3, hg3⟩
      have hown3 := (Hown2.out.alloc (.cells #[.int .i64 (-1), .int .i64 6] 3)).kept hg3 (.inr (fun e => by have := (Hown2.out.lt _ e).1; omega))
      have hfr := hown3.frozenAt 0
      obtain ⟨u0, hu0⟩ := own_hasD hown3 0 (by simp)
      have Hown3 := Lib.hid (hown3.stored 0 (.int .i64 x)).1
      have G3 := Lib.hid (gb_trans G2.out (gb_trans (World.grownBy_alloc w2 _ _) hg3))
      clear hg3 hown3 Hown2 G2 hx
      go_wp2_with fail
      go_ret
      refine ⟨_, ⟨x, sm, sl, sn, sv⟩ :: tl, rfl, ?_, ?_, by simp; omega, q1 + 1 + 1, by omega, hr3.set (by dsimp only; omega) _, gb_set G3.out (by dsimp only; omega) _⟩
      · have h := Hown3.out
        simpa [stmCells] using h
      · intro s hs
        rcases List.mem_cons.1 hs with rfl | hs
        · exact hs0
        · exact Htl.out s hs
    · by_cases h1 : j = 1
      · subst h1
        go_wp2_with fail
        refine (reader_one R (q1 + 1) w2.heap.size 3 [-1, 100] _ (hr2.alloc _) (heap_new w2 _ _) (by omega) (by decide) (by decide) (by omega)).mono ?_
        rintro e w3 ⟨x, hx, rfl, hr3, hg3⟩
        have hown3 := (Hown2.out.alloc (.cells #[.int .i64 (-1), .int .i64 100] 3)).kept hg3 (.inr (fun e => by have := (Hown2.out.lt _ e).1; omega))
        have hfr := hown3.frozenAt 4
        obtain ⟨u0, hu0⟩ := own_hasD hown3 4 (by simp; omega)
        have Hown3 := Lib.hid (hown3.stored 4 (.int .i64 x)).1
        have G3 := Lib.hid (gb_trans G2.out (gb_trans (World.grownBy_alloc w2 _ _) hg3))
        clear hg3 hown3 Hown2 G2 hx
        go_wp2_with fail
        go_ret
        refine ⟨_, ⟨sk, sm, sl, sn, x⟩ :: tl, rfl, ?_, ?_, by simp; omega, q1 + 1 + 1, by omega, hr3.set (by dsimp only; omega) _, gb_set G3.out (by dsimp only; omega) _⟩
        · have h := Hown3.out
          simpa [stmCells] using h
        · intro s hs
          rcases List.mem_cons.1 hs with rfl | hs
          · exact hs0
          · exact Htl.out s hs
      · by_cases h2 : j = 2
        · subst h2
          go_wp2_with fail
          refine (reader_of R (q1 + 1) _ [[], [65], [97]] _ (hr2.alloc _) (reads_lit w2 [[], [65], [97]] 9 (by decide)) (by decide) (by decide) (by omega)).mono ?_
          rintro e w3 ⟨x, hx, rfl, hr3, hg3⟩
          have hx1 := mem_len 1 (by decide) hx
          have hown3 := (Hown2.out.alloc _).kept hg3 (.inr (fun e => by have := (Hown2.out.lt _ e).1; omega))
          have hfr := hown3.frozenAt 1
          obtain ⟨u0, hu0⟩ := own_hasD hown3 1 (by simp; omega)
          have Hown3 := Lib.hid (hown3.stored 1 (.string (mk x))).1
          have G3 := Lib.hid (gb_trans G2.out (gb_trans (World.grownBy_alloc w2 _ _) hg3))
          clear hg3 hown3 Hown2 G2 hx
          go_wp2_with fail
          go_ret
          refine ⟨_, ⟨sk, x, sl, sn, sv⟩ :: tl, rfl, ?_, ?_, by simp; omega, q1 + 1 + 1, by omega, hr3.set (by dsimp only; omega) _, gb_set G3.out (by dsimp only; omega) _⟩
          · have h := Hown3.out
            simpa [stmCells] using h
          · intro s hs
            rcases List.mem_cons.1 hs with rfl | hs
            · exact ⟨by dsimp only; omega, hs0.2⟩
            · exact Htl.out s hs
        · have h0b : (j == 0) = false := by simpa using h0
          have h1b : (j == 1) = false := by simpa using h1
          have h2b : (j == 2) = false := by simpa using h2
          go_wp2_with fail
          go_ret
          exact ⟨_, _, rfl, Hown2.out, Hsh.out, by simp; omega, q1 + 1, by omega, hr2, G2.out⟩
end Go.Proofs.Ytomdmkhgkaalnaa
