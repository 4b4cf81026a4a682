/- Draws of a tree, a path and a name for the laws of chapter 7. Written by mkdrawq.py after DrawO. -/
import Derived.Test.YtfchakfkgmhagaaGreatDrawO
set_option linter.unusedVariables false
set_option linter.unusedSimpArgs false
namespace Go.Proofs.YtfchakfkgmhagaaGreat
open Go.RowKit Go.Proofs.YtfchakfkgmhagaaGreat.Nm
set_option maxRecDepth 100000 in
set_option maxHeartbeats 800000 in
theorem spec_DrawNeedsOf (a : Option Addr) (n cap : Nat) (w : World) (hc : Code w w.heap.size a n cap) :
    Calls Tryz.prog 46 #[.slice a n cap] w (NameD w) := by
  go_enter Tryz.func46, Tryz.ntmps46
  go_wp2_with fail
  refine (spec_newReader a n cap _ (code_alloc hc _)).mono ?_
  rintro e w1 ⟨rfl, hr, hb⟩
  have hz := hb.size
  have B1 := Lib.hid ((Boxed.start w #[.slice none 0 0] 31).step hb)
  have hz1 : w.heap.size + 1 ≤ w1.heap.size := by simp at hz; omega
  simp only [World.size_alloc] at hr hz ⊢
  have hRlt := hr.lt
  clear hb
  go_wp2_with fail
  refine (spec_nameOf _ 0 _ hr (by omega)).mono ?_
  rintro e w2 ⟨v, ps, pv, xs, s, rfl, hrows, hsh, hl, hb5, hp, hx3, hs, q2, hq2, hr2, hg2⟩
  obtain ⟨va, vc, rfl⟩ := hrows.len
  obtain ⟨pa, pc, rfl⟩ := hp.len
  have HP2 := Lib.hid hp
  have HR2 := Lib.hid hrows
  have Hsh := Lib.hid hsh
  have Hb5 := Lib.hid hb5
  have B2 := Lib.hid (show Below (w.heap.size + 1) (w.alloc (.cells #[.slice none 0 0] 31)) w2 from below_gb (by have := B1.out; unfold Boxed at this; simpa using this) hz1 (Nat.le_refl _) hg2)
  have hz2 := hg2.size
  clear hrows hsh hb5 hg2 B1 hp
  have X2 := Lib.hid (show Boxed w #[.slice none 0 0] 31 w2 from by unfold Boxed; simpa using B2.out)
  have x0 : w2.cell? ⟨w.heap.size, 0, none⟩ = some (.slice none 0 0) := X2.out.cell 0
  have xf : w2.frozen? ⟨w.heap.size, 0, none⟩ = false := by
    have := X2.out.frozen (p := ⟨w.heap.size, 0, none⟩) (by simp)
    rw [this]; simp [go_sem]
  have HPF := Lib.hid (PathIn.set_box HP2.out x0 (.slice va ps.length vc))
  generalize hpn : ps.length = pn at *
  generalize hxn : xs.length = xn at *
  go_wp2_with fail
  refine bodyPost_ret (v := .tuple #[.agg #[.slice va pn vc], .slice pa xn pc, .string (mk s)]) (by simp [results, Tryz.results46, go_sem, *]) rfl ⟨_, ps, _, xs, s, rfl, ⟨((HR2.out.mono (by omega)).set_low (p := ⟨w.heap.size, 0, none⟩) (B := w.heap.size + 1) (by dsimp only; omega) _).mono (by omega), Hsh.out, by omega, Hb5.out, ?_⟩, HPF.out, by omega, hs⟩
  have h3 := X2.out.below
  (repeat (with_reducible first | exact Below.refl _ _ | assumption | refine ba ?_ _ | refine bd ?_ | refine bdN ?_ _ | refine bs ?_ (by first | exact Nat.le_refl _ | (dsimp only; omega) | (simp; done)) _ | refine bt ?_ (by assumption)))
set_option maxRecDepth 100000 in
set_option maxHeartbeats 800000 in
theorem spec_DrawEdgesOf (a : Option Addr) (n cap : Nat) (w : World) (hc : Code w w.heap.size a n cap) :
    Calls Tryz.prog 53 #[.slice a n cap] w (NameD w) := by
  go_enter Tryz.func53, Tryz.ntmps53
  go_wp2_with fail
  refine (spec_newReader a n cap _ (code_alloc hc _)).mono ?_
  rintro e w1 ⟨rfl, hr, hb⟩
  have hz := hb.size
  have B1 := Lib.hid ((Boxed.start w #[.slice none 0 0] 31).step hb)
  have hz1 : w.heap.size + 1 ≤ w1.heap.size := by simp at hz; omega
  simp only [World.size_alloc] at hr hz ⊢
  have hRlt := hr.lt
  clear hb
  go_wp2_with fail
  refine (spec_nameOf _ 0 _ hr (by omega)).mono ?_
  rintro e w2 ⟨v, ps, pv, xs, s, rfl, hrows, hsh, hl, hb5, hp, hx3, hs, q2, hq2, hr2, hg2⟩
  obtain ⟨va, vc, rfl⟩ := hrows.len
  obtain ⟨pa, pc, rfl⟩ := hp.len
  have HP2 := Lib.hid hp
  have HR2 := Lib.hid hrows
  have Hsh := Lib.hid hsh
  have Hb5 := Lib.hid hb5
  have B2 := Lib.hid (show Below (w.heap.size + 1) (w.alloc (.cells #[.slice none 0 0] 31)) w2 from below_gb (by have := B1.out; unfold Boxed at this; simpa using this) hz1 (Nat.le_refl _) hg2)
  have hz2 := hg2.size
  clear hrows hsh hb5 hg2 B1 hp
  have X2 := Lib.hid (show Boxed w #[.slice none 0 0] 31 w2 from by unfold Boxed; simpa using B2.out)
  have x0 : w2.cell? ⟨w.heap.size, 0, none⟩ = some (.slice none 0 0) := X2.out.cell 0
  have xf : w2.frozen? ⟨w.heap.size, 0, none⟩ = false := by
    have := X2.out.frozen (p := ⟨w.heap.size, 0, none⟩) (by simp)
    rw [this]; simp [go_sem]
  have HPF := Lib.hid (PathIn.set_box HP2.out x0 (.slice va ps.length vc))
  generalize hpn : ps.length = pn at *
  generalize hxn : xs.length = xn at *
  go_wp2_with fail
  refine bodyPost_ret (v := .tuple #[.agg #[.slice va pn vc], .slice pa xn pc, .string (mk s)]) (by simp [results, Tryz.results53, go_sem, *]) rfl ⟨_, ps, _, xs, s, rfl, ⟨((HR2.out.mono (by omega)).set_low (p := ⟨w.heap.size, 0, none⟩) (B := w.heap.size + 1) (by dsimp only; omega) _).mono (by omega), Hsh.out, by omega, Hb5.out, ?_⟩, HPF.out, by omega, hs⟩
  have h3 := X2.out.below
  (repeat (with_reducible first | exact Below.refl _ _ | assumption | refine ba ?_ _ | refine bd ?_ | refine bdN ?_ _ | refine bs ?_ (by first | exact Nat.le_refl _ | (dsimp only; omega) | (simp; done)) _ | refine bt ?_ (by assumption)))
set_option maxRecDepth 100000 in
set_option maxHeartbeats 800000 in
theorem spec_DrawReachOf (a : Option Addr) (n cap : Nat) (w : World) (hc : Code w w.heap.size a n cap) :
    Calls Tryz.prog 56 #[.slice a n cap] w (NameD w) := by
  go_enter Tryz.func56, Tryz.ntmps56
  go_wp2_with fail
  refine (spec_newReader a n cap _ (code_alloc hc _)).mono ?_
  rintro e w1 ⟨rfl, hr, hb⟩
  have hz := hb.size
  have B1 := Lib.hid ((Boxed.start w #[.slice none 0 0] 31).step hb)
  have hz1 : w.heap.size + 1 ≤ w1.heap.size := by simp at hz; omega
  simp only [World.size_alloc] at hr hz ⊢
  have hRlt := hr.lt
  clear hb
  go_wp2_with fail
  refine (spec_nameOf _ 0 _ hr (by omega)).mono ?_
  rintro e w2 ⟨v, ps, pv, xs, s, rfl, hrows, hsh, hl, hb5, hp, hx3, hs, q2, hq2, hr2, hg2⟩
  obtain ⟨va, vc, rfl⟩ := hrows.len
  obtain ⟨pa, pc, rfl⟩ := hp.len
  have HP2 := Lib.hid hp
  have HR2 := Lib.hid hrows
  have Hsh := Lib.hid hsh
  have Hb5 := Lib.hid hb5
  have B2 := Lib.hid (show Below (w.heap.size + 1) (w.alloc (.cells #[.slice none 0 0] 31)) w2 from below_gb (by have := B1.out; unfold Boxed at this; simpa using this) hz1 (Nat.le_refl _) hg2)
  have hz2 := hg2.size
  clear hrows hsh hb5 hg2 B1 hp
  have X2 := Lib.hid (show Boxed w #[.slice none 0 0] 31 w2 from by unfold Boxed; simpa using B2.out)
  have x0 : w2.cell? ⟨w.heap.size, 0, none⟩ = some (.slice none 0 0) := X2.out.cell 0
  have xf : w2.frozen? ⟨w.heap.size, 0, none⟩ = false := by
    have := X2.out.frozen (p := ⟨w.heap.size, 0, none⟩) (by simp)
    rw [this]; simp [go_sem]
  have HPF := Lib.hid (PathIn.set_box HP2.out x0 (.slice va ps.length vc))
  generalize hpn : ps.length = pn at *
  generalize hxn : xs.length = xn at *
  go_wp2_with fail
  refine bodyPost_ret (v := .tuple #[.agg #[.slice va pn vc], .slice pa xn pc, .string (mk s)]) (by simp [results, Tryz.results56, go_sem, *]) rfl ⟨_, ps, _, xs, s, rfl, ⟨((HR2.out.mono (by omega)).set_low (p := ⟨w.heap.size, 0, none⟩) (B := w.heap.size + 1) (by dsimp only; omega) _).mono (by omega), Hsh.out, by omega, Hb5.out, ?_⟩, HPF.out, by omega, hs⟩
  have h3 := X2.out.below
  (repeat (with_reducible first | exact Below.refl _ _ | assumption | refine ba ?_ _ | refine bd ?_ | refine bdN ?_ _ | refine bs ?_ (by first | exact Nat.le_refl _ | (dsimp only; omega) | (simp; done)) _ | refine bt ?_ (by assumption)))
end Go.Proofs.YtfchakfkgmhagaaGreat
