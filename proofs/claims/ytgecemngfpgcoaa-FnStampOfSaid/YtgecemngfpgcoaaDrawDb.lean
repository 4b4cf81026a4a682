/- The functions that draw disks for the laws. -/
import Derived.Test.YtgecemngfpgcoaaDrawD
set_option linter.unusedVariables false
set_option linter.unusedSimpArgs false
namespace Go.Proofs.Ytgecemngfpgcoaa
open Go.RowKit Go.Proofs.Ytgecemngfpgcoaa.Nm

/-- A disk that a draw for a law answers. -/
def DiskO (w w' : World) (v : Value) (ps : List (Fil × Value)) (u : Value) (qs : List (Dr × Value)) (cl : Int) : Prop := OwnDsk w' w.heap.size v ps u qs ∧ FineD (ps.map (·.1)) (qs.map (·.1)) ∧ -1 ≤ cl ∧ cl ≤ 201
theorem boxed_belowD {w w' : World} {cs : Array Value} {T : TypeId} (h : Below (w.heap.size + 1) (w.alloc (.cells cs T)) w') : Boxed w cs T w' := by unfold Boxed; simpa using h
theorem Nm.Boxed.freeD {w wr : World} {cs : Array Value} {T : TypeId} (h : Boxed w cs T wr) (i : Nat) : wr.frozen? ⟨w.heap.size, i, none⟩ = false := by
  have := h.frozen (p := ⟨w.heap.size, i, none⟩) (by simp)
  rw [this]; simp [go_sem]
set_option maxRecDepth 100000 in
set_option maxHeartbeats 1000000 in
theorem spec_DrawValidDisk (a : Option Addr) (n cap : Nat) (w : World) (hc : Code w w.heap.size a n cap) :
    Calls Try.prog 36 #[.slice a n cap] w fun e w' => ∃ v ps u qs cl, e = .returned (.agg #[v, .int .i64 cl, u]) ∧ DiskO w w' v ps u qs cl ∧ Below w.heap.size w w' := by
  go_enter Try.func36, Try.ntmps36
  go_wp2_with fail
  refine (spec_newReader a n cap _ (code_alloc hc _)).mono ?_
  rintro e w1 ⟨rfl, hr, hb⟩
  have hz := hb.size
  have B1 := Lib.hid ((Boxed.start w #[.slice none 0 0, .int .i64 0, .slice none 0 0] 28).step hb)
  have hz1 : w.heap.size + 1 ≤ w1.heap.size := by simp at hz; omega
  simp only [World.size_alloc] at hr hz ⊢
  have hRlt := hr.lt
  clear hb
  go_wp2_with fail
  refine (spec_anyDisk _ 0 _ hr (by omega)).mono ?_
  rintro e w2 ⟨v, ps, u, qs, cl, rfl, hfine, hc1, hc2, hown, q2, hq2, hr2, hg2⟩
  obtain ⟨⟨oa, oc, rfl⟩, ⟨ua, uc, rfl⟩⟩ := hown.len
  have O2 := Lib.hid (hown.mono (B' := w.heap.size + 2) (by omega))
  have Hfine := Lib.hid hfine
  have B2 := Lib.hid (show Below (w.heap.size + 1) (w.alloc (.cells #[.slice none 0 0, .int .i64 0, .slice none 0 0] 28)) w2 from below_gb (by have := B1.out; unfold Boxed at this; simpa using this) hz1 (Nat.le_refl _) hg2)
  have hz2 := hg2.size
  clear hfine hg2 hown B1
  have X2 := Lib.hid (show Boxed w #[.slice none 0 0, .int .i64 0, .slice none 0 0] 28 w2 from by unfold Boxed; simpa using B2.out)
  have x0 : w2.cell? ⟨w.heap.size, 0, none⟩ = some (.slice none 0 0) := X2.out.cell 0
  have x1 : w2.cell? ⟨w.heap.size, 1, none⟩ = some (.int .i64 0) := X2.out.cell 1
  have x2 : w2.cell? ⟨w.heap.size, 2, none⟩ = some (.slice none 0 0) := X2.out.cell 2
  have xf : ∀ j, w2.frozen? ⟨w.heap.size, j, none⟩ = false := fun j => by
    have := X2.out.frozen (p := ⟨w.heap.size, j, none⟩) (by simp)
    rw [this]; simp [go_sem]
  have xf0 := xf 0
  have xf1 := xf 1
  have xf2 := xf 2
  clear xf
  generalize hpn : ps.length = pn at *
  generalize hqn : qs.length = qn at *
  have Hpn := Lib.hid hpn
  have Hqn := Lib.hid hqn
  clear hpn hqn
  go_wp2_with fail
  refine bodyPost_ret (v := .agg #[.slice oa pn oc, .int .i64 cl, .slice ua qn uc]) (by simp [results, Try.results36, go_sem, *]) rfl ⟨_, ps, _, qs, cl, rfl, ⟨(O2.out.set3 (fun b hb => by have := (blkK_ge O2.out b hb).1; omega) _ _ _).mono (by omega), Hfine.out, hc1, hc2⟩, ?_⟩
  have h3 := X2.out.below
  (repeat (with_reducible first | exact Below.refl _ _ | assumption | refine ba ?_ _ | refine bd ?_ | refine bdN ?_ _ | refine bs ?_ (by first | exact Nat.le_refl _ | (dsimp only; omega) | (simp; done)) _ | refine bt ?_ (by assumption)))
set_option maxRecDepth 100000 in
set_option maxHeartbeats 1000000 in
theorem spec_DrawStampOf (a : Option Addr) (n cap : Nat) (w : World) (hc : Code w w.heap.size a n cap) :
    Calls Try.prog 34 #[.slice a n cap] w fun e w' => ∃ v ps u qs cl root p, e = .returned (.tuple #[.agg #[v, .int .i64 cl, u], .int .i64 root, .string (mk p)]) ∧ DiskO w w' v ps u qs cl ∧ -1 ≤ root ∧ root ≤ 3 ∧ p.length ≤ 7 ∧ Below w.heap.size w w' := by
  go_enter Try.func34, Try.ntmps34
  go_wp2_with fail
  refine (spec_newReader a n cap _ (code_alloc hc _)).mono ?_
  rintro e w1 ⟨rfl, hr, hb⟩
  have hz := hb.size
  have B1 := Lib.hid ((Boxed.start w #[.slice none 0 0, .int .i64 0, .slice none 0 0] 28).step hb)
  have hz1 : w.heap.size + 1 ≤ w1.heap.size := by simp at hz; omega
  simp only [World.size_alloc] at hr hz ⊢
  have hRlt := hr.lt
  clear hb
  go_wp2_with fail
  refine (spec_anyDisk _ 0 _ hr (by omega)).mono ?_
  rintro e w2 ⟨v, ps, u, qs, cl, rfl, hfine, hc1, hc2, hown, q2, hq2, hr2, hg2⟩
  obtain ⟨⟨oa, oc, rfl⟩, ⟨ua, uc, rfl⟩⟩ := hown.len
  have O2 := Lib.hid (hown.mono (B' := w.heap.size + 2) (by omega))
  have Hfine := Lib.hid hfine
  have B2 := Lib.hid (show Below (w.heap.size + 1) (w.alloc (.cells #[.slice none 0 0, .int .i64 0, .slice none 0 0] 28)) w2 from below_gb (by have := B1.out; unfold Boxed at this; simpa using this) hz1 (Nat.le_refl _) hg2)
  have hz2 := hg2.size
  clear hfine hg2 hown B1
  go_wp2_with fail
  refine (reader_one _ q2 w2.heap.size 3 [0, 1, 2, 3, -1] _ (hr2.alloc _) (heap_new w2 _ _) (by have := hr2.lt; omega) (by decide) (by decide) (by omega)).mono ?_
  rintro e w3 ⟨root, hroot, rfl, hr3, hg3⟩
  have hroot' := mem_int (-1) 3 (by decide) hroot
  have O3 := Lib.hid ((O2.out.below (ba (Below.refl _ _) (.cells ([0, 1, 2, 3, -1].map ivN).toArray 3))).gb hg3 (by omega))
  have B3 := Lib.hid (below_gb (B2.out.alloc (by omega) (.cells ([0, 1, 2, 3, -1].map ivN).toArray 3)) (by simp; omega) (Nat.le_refl _) hg3)
  have hz3 : w2.heap.size + 1 ≤ w3.heap.size := by have := hg3.size; simpa using this
  clear B2 O2 hg3 hroot
  go_wp2_with fail
  refine (spec_anyPackage _ (q2 + 1) _ hr3 (by omega)).mono ?_
  rintro e w4 ⟨p, rfl, hp, q4, hq4, hr4, hg4⟩
  have O4 := Lib.hid (O3.out.gb hg4 (by omega))
  have B4 := Lib.hid (below_gb B3.out (by omega) (Nat.le_refl _) hg4)
  clear B3 O3 hg4
  have X4 := Lib.hid (show Boxed w #[.slice none 0 0, .int .i64 0, .slice none 0 0] 28 w4 from by unfold Boxed; simpa using B4.out)
  have x0 : w4.cell? ⟨w.heap.size, 0, none⟩ = some (.slice none 0 0) := X4.out.cell 0
  have x1 : w4.cell? ⟨w.heap.size, 1, none⟩ = some (.int .i64 0) := X4.out.cell 1
  have x2 : w4.cell? ⟨w.heap.size, 2, none⟩ = some (.slice none 0 0) := X4.out.cell 2
  have xf : ∀ j, w4.frozen? ⟨w.heap.size, j, none⟩ = false := fun j => by
    have := X4.out.frozen (p := ⟨w.heap.size, j, none⟩) (by simp)
    rw [this]; simp [go_sem]
  have xf0 := xf 0
  have xf1 := xf 1
  have xf2 := xf 2
  clear xf
  generalize hpn : ps.length = pn at *
  generalize hqn : qs.length = qn at *
  have Hpn := Lib.hid hpn
  have Hqn := Lib.hid hqn
  clear hpn hqn
  go_wp2_with fail
  refine bodyPost_ret (v := .tuple #[.agg #[.slice oa pn oc, .int .i64 cl, .slice ua qn uc], .int .i64 root, .string (mk p)]) (by simp [results, Try.results34, go_sem, *]) rfl ⟨_, ps, _, qs, cl, root, p, rfl, ⟨(O4.out.set3 (fun b hb => by have := (blkK_ge O4.out b hb).1; omega) _ _ _).mono (by omega), Hfine.out, hc1, hc2⟩, hroot'.1, hroot'.2, hp, ?_⟩
  have h3 := X4.out.below
  (repeat (with_reducible first | exact Below.refl _ _ | assumption | refine ba ?_ _ | refine bd ?_ | refine bdN ?_ _ | refine bs ?_ (by first | exact Nat.le_refl _ | (dsimp only; omega) | (simp; done)) _ | refine bt ?_ (by assumption)))
end Go.Proofs.Ytgecemngfpgcoaa
