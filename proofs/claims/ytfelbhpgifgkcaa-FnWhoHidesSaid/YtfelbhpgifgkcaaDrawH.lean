/- The function that draws a tree, a path and an index. Written by mkdraws.py. -/
import Derived.Test.YtfelbhpgifgkcaaDrawK
import Derived.Test.YtfelbhpgifgkcaaDrawG
import Derived.Test.YtfelbhpgifgkcaaDrawP
import Derived.Deep.RegionLaw
set_option linter.unusedVariables false
set_option linter.unusedSimpArgs false
namespace Go.Proofs.Ytfelbhpgifgkcaa
open Go.RowKit Go.Proofs.Ytfelbhpgifgkcaa.Nm

set_option maxRecDepth 100000 in
set_option maxHeartbeats 8000000 in
theorem spec_DrawWhoHides (a : Option Addr) (n cap : Nat) (w : World) (hc : Code w w.heap.size a n cap) :
    Calls Try.prog 10 #[.slice a n cap] w fun e w' => ∃ v ps pv xs i, e = .returned (.tuple #[.agg #[v], pv, .int .i64 i]) ∧ TreeD w w' v ps ∧ PathIn w' pv xs ∧ xs.length ≤ 3 := by
  go_enter Try.func10, Try.ntmps10
  go_wp2_with fail
  refine (spec_newReader a n cap _ (code_alloc hc _)).mono ?_
  rintro e w1 ⟨rfl, hr, hb⟩
  have hz := hb.size
  have B1 := Lib.hid ((Boxed.start w #[.slice none 0 0] 25).step hb)
  have hz1 : w.heap.size + 1 ≤ w1.heap.size := by simp at hz; omega
  simp only [World.size_alloc] at hr hz ⊢
  have hRlt := hr.lt
  clear hb
  go_wp2_with fail
  refine (spec_anyTree _ 0 _ hr (by omega)).mono ?_
  rintro e w2 ⟨v, ps, rfl, hrows, hsh, hl, hb5, q2, hq2, hr2, hg2⟩
  obtain ⟨va, vc, rfl⟩ := hrows.len
  have HR2 := Lib.hid hrows
  have Hsh := Lib.hid hsh
  have Hb5 := Lib.hid hb5
  have B2 := Lib.hid (show Below (w.heap.size + 1) (w.alloc (.cells #[.slice none 0 0] 25)) w2 from below_gb (by have := B1.out; unfold Boxed at this; simpa using this) hz1 (Nat.le_refl _) hg2)
  have hz2 := hg2.size
  clear hrows hsh hb5 hg2 B1
  have hRX : w.heap.size + 1 < w2.heap.size := by omega
  have hXR : w2.heap.size ≠ w.heap.size + 1 := by omega
  have HRc := Lib.hid (HR2.out.below (ba (Below.refl _ _) (.cells #[.slice va ps.length vc] 25)))
  have BXc := Lib.hid (BoxC.start w2 #[.slice va ps.length vc] 25)
  have Bc := Lib.hid (show Below (w.heap.size + 1) (w.alloc (.cells #[.slice none 0 0] 25)) (w2.alloc (.cells #[.slice va ps.length vc] 25)) from B2.out.alloc (by omega) _)
  have hr3 := hr2.alloc (.cells #[.slice va ps.length vc] 25)
  have y0 : (w2.alloc (.cells #[.slice va ps.length vc] 25)).cell? ⟨w2.heap.size, 0, none⟩ = some (.slice va ps.length vc) := BXc.out.2 0
  have hz3 : w2.heap.size < (w2.alloc (.cells #[.slice va ps.length vc] 25)).heap.size := BXc.out.1
  have hw0 : w.heap.size < w2.heap.size := by omega
  have hpi : IntKind.i64.wrap ((ps.length : Int) + 1) = (ps.length : Int) + 1 := by rw [IntKind.wrap_i64]; omega
  clear HR2 B2 hr2
  go_wp2_with fail
  go_region_law (first
    | (go_simp; go_at_call 54; refine (spec_anyPath _ q2 _ (hr3.drew) (by omega)).mono ?_; rintro e w4 ⟨pv, xs, rfl, hp, hx3, q4, hq4, hr4, hg4⟩; obtain ⟨pa, pc, rfl⟩ := hp.len; have HPc := Lib.hid hp; have HRc := Lib.hid ((HRc.out.drewK).gb hg4 (by omega)); have BXc := Lib.hid ((BXc.out.drew).gb hg4 hXR); have Bc := Lib.hid (below_gb (below_drewK Bc.out) (by first | omega | (simp; omega)) (Nat.le_refl _) hg4); have hz4 : w2.heap.size < w4.heap.size := BXc.out.1; have y0 : w4.cell? ⟨w2.heap.size, 0, none⟩ = some (.slice va ps.length vc) := BXc.out.2 0; have Xc := Lib.hid (show Boxed w #[.slice none 0 0] 25 w4 from by unfold Boxed; simpa using Bc.out); have x0 : w4.cell? ⟨w.heap.size, 0, none⟩ = some (.slice none 0 0) := Xc.out.cell 0; have xf : w4.frozen? ⟨w.heap.size, 0, none⟩ = false := (by have := Xc.out.frozen (p := ⟨w.heap.size, 0, none⟩) (by simp); rw [this]; simp [go_sem]); clear hg4 hp hr3)
    | (go_simp; go_at_call 56; refine (reader_pick _ q4 ((ps.length : Int) + 1) _ hr4 (by omega) (by omega)).mono ?_; rintro e w5 ⟨i5, rfl, hi50, hi5, hr5, hg5⟩; have HPc := Lib.hid (HPc.out.gbR hr4 hg5); have HRc := Lib.hid ((HRc.out).gb hg5 (by omega)); have BXc := Lib.hid ((BXc.out).gb hg5 hXR); have Bc := Lib.hid (below_gb (Bc.out) (by first | omega | (simp; omega)) (Nat.le_refl _) hg5); have hz5 : w2.heap.size < w5.heap.size := BXc.out.1; have y0 : w5.cell? ⟨w2.heap.size, 0, none⟩ = some (.slice va ps.length vc) := BXc.out.2 0; have Xc := Lib.hid (show Boxed w #[.slice none 0 0] 25 w5 from by unfold Boxed; simpa using Bc.out); have x0 : w5.cell? ⟨w.heap.size, 0, none⟩ = some (.slice none 0 0) := Xc.out.cell 0; have xf : w5.frozen? ⟨w.heap.size, 0, none⟩ = false := (by have := Xc.out.frozen (p := ⟨w.heap.size, 0, none⟩) (by simp); rw [this]; simp [go_sem]); clear hg5 hi5 hr4)
    | (go_simp; go_at_call 56; refine (reader_pick _ (q4 + 1) ((ps.length : Int) + 1) _ hr5 (by omega) (by omega)).mono ?_; rintro e w6 ⟨i6, rfl, hi60, hi6, hr6, hg6⟩; have HPc := Lib.hid (HPc.out.gbR hr5 hg6); have HRc := Lib.hid ((HRc.out).gb hg6 (by omega)); have BXc := Lib.hid ((BXc.out).gb hg6 hXR); have Bc := Lib.hid (below_gb (Bc.out) (by first | omega | (simp; omega)) (Nat.le_refl _) hg6); have hz6 : w2.heap.size < w6.heap.size := BXc.out.1; have y0 : w6.cell? ⟨w2.heap.size, 0, none⟩ = some (.slice va ps.length vc) := BXc.out.2 0; have Xc := Lib.hid (show Boxed w #[.slice none 0 0] 25 w6 from by unfold Boxed; simpa using Bc.out); have x0 : w6.cell? ⟨w.heap.size, 0, none⟩ = some (.slice none 0 0) := Xc.out.cell 0; have xf : w6.frozen? ⟨w.heap.size, 0, none⟩ = false := (by have := Xc.out.frozen (p := ⟨w.heap.size, 0, none⟩) (by simp); rw [this]; simp [go_sem]); clear hg6 hi6 hr5)
    | (go_simp; go_at_call 55; refine (reader_one _ (q4 + 1 + 1) w6.heap.size 3 [i5, 0, i6, -1] _ (hr6.alloc _) (heap_new w6 _ _) (by have := hr6.lt; omega) (by simp) (by simp) (by omega)).mono ?_; rintro e w7 ⟨i7, hi7, rfl, hr7, hg7⟩; have HPc := Lib.hid ((HPc.out.below (ba (Below.refl _ _) (.cells #[.int .i64 i5, .int .i64 0, .int .i64 i6, .int .i64 (-1)] 3))).gbR (hr6.alloc _) hg7); have HRc := Lib.hid (HRc.out.below (ba (Below.refl _ _) (.cells #[.int .i64 i5, .int .i64 0, .int .i64 i6, .int .i64 (-1)] 3))); have BXc := Lib.hid (BXc.out.below (ba (Below.refl _ _) (.cells #[.int .i64 i5, .int .i64 0, .int .i64 i6, .int .i64 (-1)] 3))); have Bc := Lib.hid (Bc.out.alloc (by omega) (.cells #[.int .i64 i5, .int .i64 0, .int .i64 i6, .int .i64 (-1)] 3)); have HRc := Lib.hid ((HRc.out).gb hg7 (by omega)); have BXc := Lib.hid ((BXc.out).gb hg7 hXR); have Bc := Lib.hid (below_gb (Bc.out) (by first | omega | (simp; omega)) (Nat.le_refl _) hg7); have hz7 : w2.heap.size < w7.heap.size := BXc.out.1; have y0 : w7.cell? ⟨w2.heap.size, 0, none⟩ = some (.slice va ps.length vc) := BXc.out.2 0; have Xc := Lib.hid (show Boxed w #[.slice none 0 0] 25 w7 from by unfold Boxed; simpa using Bc.out); have x0 : w7.cell? ⟨w.heap.size, 0, none⟩ = some (.slice none 0 0) := Xc.out.cell 0; have xf : w7.frozen? ⟨w.heap.size, 0, none⟩ = false := (by have := Xc.out.frozen (p := ⟨w.heap.size, 0, none⟩) (by simp); rw [this]; simp [go_sem]); clear hg7 hi7))
  all_goals
    have HPF := Lib.hid (PathIn.set_box HPc.out x0 (.slice va ps.length vc))
    generalize hpn : ps.length = pn at *
    generalize hxn : xs.length = xn at *
    go_wp2_with fail
    refine bodyPost_ret (v := .tuple #[.agg #[.slice va pn vc], .slice pa xn pc, .int .i64 i7]) (by simp [results, Try.results10, go_sem, x0]) rfl ⟨_, ps, _, xs, i7, rfl, ⟨((HRc.out.mono (by omega)).set_low (p := ⟨w.heap.size, 0, none⟩) (B := w.heap.size + 1) (by dsimp only; omega) _).mono (by omega), Hsh.out, by omega, Hb5.out, ?_⟩, HPF.out, by omega⟩
    exact bs (show Below w.heap.size w w7 from Xc.out.below) (Nat.le_refl _) _
end Go.Proofs.Ytfelbhpgifgkcaa
