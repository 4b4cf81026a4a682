/- The functions that draw a tree and an index. Written by mkdraws.py. -/
import Derived.Test.YtoleklppgmeflaaDrawZ
import Derived.Test.YtoleklppgmeflaaDrawG
import Derived.Test.YtoleklppgmeflaaDrawP
import Derived.Deep.RegionLaw
set_option linter.unusedVariables false
set_option linter.unusedSimpArgs false
namespace Go.Proofs.Ytoleklppgmeflaa
open Go.RowKit Go.Proofs.Ytoleklppgmeflaa.Nm

theorem BoxC.gb {w w' : World} {X R : Nat} {cs : Array Value} (h : BoxC w X cs) (hg : w.grownBy w' (some R)) (hne : X ≠ R) : BoxC w' X cs :=
  h.keep hg.size (hg.block X h.1 (fun e => hne (Option.some.inj e)))
theorem BoxC.drew {w : World} {X : Nat} {cs : Array Value} (h : BoxC w X cs) : BoxC w.drew X cs := h.keep (Nat.le_refl _) rfl
theorem RowsB.drewK {w : World} {B : Nat} {v : Value} {ps : List (Fil × Value)} (h : RowsB w B v ps) : RowsB w.drew B v ps := h.below ⟨rfl, rfl, rfl, Nat.le_refl _, fun _ _ => rfl⟩
theorem below_drewK {c : Nat} {a b : World} (h : Below c a b) : Below c a b.drew := ⟨h.os, h.tape, h.output, h.size, h.block⟩
set_option maxRecDepth 100000 in
set_option maxHeartbeats 4000000 in
theorem spec_DrawRemoveFile (a : Option Addr) (n cap : Nat) (w : World) (hc : Code w w.heap.size a n cap) :
    Calls Try.prog 27 #[.slice a n cap] w fun e w' => ∃ v ps i, e = .returned (.tuple #[.agg #[v], .int .i64 i]) ∧ TreeD w w' v ps := by
  go_enter Try.func27, Try.ntmps27
  go_wp2_with fail
  refine (spec_newReader a n cap _ (code_alloc hc _)).mono ?_
  rintro e w1 ⟨rfl, hr, hb⟩
  have hz := hb.size
  have B1 := Lib.hid ((Boxed.start w #[.slice none 0 0] 25).step hb)
  have hz1 : w.heap.size + 1 ≤ w1.heap.size := by simp at hz; omega
  simp only [World.size_alloc] at hr hz ⊢
  have hRlt := hr.lt
  clear hb
  go_wp2_with fail
  refine (spec_anyTree _ 0 _ hr (by omega)).mono ?_
  rintro e w2 ⟨v, ps, rfl, hrows, hsh, hl, hb5, q2, hq2, hr2, hg2⟩
  obtain ⟨va, vc, rfl⟩ := hrows.len
  have HR2 := Lib.hid hrows
  have Hsh := Lib.hid hsh
  have Hb5 := Lib.hid hb5
  have B2 := Lib.hid (show Below (w.heap.size + 1) (w.alloc (.cells #[.slice none 0 0] 25)) w2 from below_gb (by have := B1.out; unfold Boxed at this; simpa using this) hz1 (Nat.le_refl _) hg2)
  have hz2 := hg2.size
  clear hrows hsh hb5 hg2 B1
  have hRX : w.heap.size + 1 < w2.heap.size := by omega
  have hXR : w2.heap.size ≠ w.heap.size + 1 := by omega
  have HRc := Lib.hid (HR2.out.below (ba (Below.refl _ _) (.cells #[.slice va ps.length vc] 25)))
  have BXc := Lib.hid (BoxC.start w2 #[.slice va ps.length vc] 25)
  have Bc := Lib.hid (show Below (w.heap.size + 1) (w.alloc (.cells #[.slice none 0 0] 25)) (w2.alloc (.cells #[.slice va ps.length vc] 25)) from B2.out.alloc (by omega) _)
  have hr3 := hr2.alloc (.cells #[.slice va ps.length vc] 25)
  have y0 : (w2.alloc (.cells #[.slice va ps.length vc] 25)).cell? ⟨w2.heap.size, 0, none⟩ = some (.slice va ps.length vc) := BXc.out.2 0
  have hz3 : w2.heap.size < (w2.alloc (.cells #[.slice va ps.length vc] 25)).heap.size := BXc.out.1
  have hw0 : w.heap.size < w2.heap.size := by omega
  have hpi : IntKind.i64.wrap ((ps.length : Int) + 1) = (ps.length : Int) + 1 := by rw [IntKind.wrap_i64]; omega
  clear HR2 B2 hr2
  go_wp2_with fail
  go_region_law (first
    | (go_simp; go_at_call 79; refine (reader_pick _ q2 ((ps.length : Int) + 1) _ (hr3.drew) (by omega) (by omega)).mono ?_; rintro e w4 ⟨i4, rfl, hi40, hi4, hr4, hg4⟩; have HRc := Lib.hid ((HRc.out.drewK).gb hg4 (by omega)); have BXc := Lib.hid ((BXc.out.drew).gb hg4 hXR); have Bc := Lib.hid (below_gb (below_drewK Bc.out) (by simp; omega) (Nat.le_refl _) hg4); have hz4 : w2.heap.size < w4.heap.size := BXc.out.1; have y0 : w4.cell? ⟨w2.heap.size, 0, none⟩ = some (.slice va ps.length vc) := BXc.out.2 0; have Xc := Lib.hid (show Boxed w #[.slice none 0 0] 25 w4 from by unfold Boxed; simpa using Bc.out); have x0 : w4.cell? ⟨w.heap.size, 0, none⟩ = some (.slice none 0 0) := Xc.out.cell 0; have xf : w4.frozen? ⟨w.heap.size, 0, none⟩ = false := (by have := Xc.out.frozen (p := ⟨w.heap.size, 0, none⟩) (by simp); rw [this]; simp [go_sem]); clear hg4 hi4 hr3)
    | (go_simp; go_at_call 78; refine (reader_one _ (q2 + 1) w4.heap.size 3 [0, i4, 1, -1] _ (hr4.alloc _) (heap_new w4 _ _) (by have := hr4.lt; omega) (by simp) (by simp) (by omega)).mono ?_; rintro e w5 ⟨i5, hi5, rfl, hr5, hg5⟩; have HRc := Lib.hid (HRc.out.below (ba (Below.refl _ _) (.cells #[.int .i64 0, .int .i64 i4, .int .i64 1, .int .i64 (-1)] 3))); have BXc := Lib.hid (BXc.out.below (ba (Below.refl _ _) (.cells #[.int .i64 0, .int .i64 i4, .int .i64 1, .int .i64 (-1)] 3))); have Bc := Lib.hid (Bc.out.alloc (by omega) (.cells #[.int .i64 0, .int .i64 i4, .int .i64 1, .int .i64 (-1)] 3)); have HRc := Lib.hid ((HRc.out).gb hg5 (by omega)); have BXc := Lib.hid ((BXc.out).gb hg5 hXR); have Bc := Lib.hid (below_gb (Bc.out) (by simp; omega) (Nat.le_refl _) hg5); have hz5 : w2.heap.size < w5.heap.size := BXc.out.1; have y0 : w5.cell? ⟨w2.heap.size, 0, none⟩ = some (.slice va ps.length vc) := BXc.out.2 0; have Xc := Lib.hid (show Boxed w #[.slice none 0 0] 25 w5 from by unfold Boxed; simpa using Bc.out); have x0 : w5.cell? ⟨w.heap.size, 0, none⟩ = some (.slice none 0 0) := Xc.out.cell 0; have xf : w5.frozen? ⟨w.heap.size, 0, none⟩ = false := (by have := Xc.out.frozen (p := ⟨w.heap.size, 0, none⟩) (by simp); rw [this]; simp [go_sem]); clear hg5 hi5))
  all_goals
    generalize hpn : ps.length = pn at *
    go_wp2_with fail
    refine bodyPost_ret (v := .tuple #[.agg #[.slice va pn vc], .int .i64 i5]) (by simp [results, Try.results27, go_sem, x0]) rfl ⟨_, ps, i5, rfl, ((HRc.out.mono (by omega)).set_low (p := ⟨w.heap.size, 0, none⟩) (B := w.heap.size + 1) (by dsimp only; omega) _).mono (by omega), Hsh.out, by omega, Hb5.out, ?_⟩
    exact bs (show Below w.heap.size w w5 from Xc.out.below) (Nat.le_refl _) _
end Go.Proofs.Ytoleklppgmeflaa
