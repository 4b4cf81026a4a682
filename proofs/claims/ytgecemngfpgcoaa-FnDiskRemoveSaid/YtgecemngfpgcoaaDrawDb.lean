/- The functions that draw disks for the laws. -/
import Derived.Test.YtgecemngfpgcoaaDrawD
set_option linter.unusedVariables false
set_option linter.unusedSimpArgs false
namespace Go.Proofs.Ytgecemngfpgcoaa
open Go.RowKit Go.Proofs.Ytgecemngfpgcoaa.Nm

/-- A disk that a draw for a law answers. -/
def DiskO (w w' : World) (v : Value) (ps : List (Fil × Value)) (u : Value) (qs : List (Dr × Value)) (cl : Int) : Prop := OwnDsk w' w.heap.size v ps u qs ∧ FineD (ps.map (·.1)) (qs.map (·.1)) ∧ -1 ≤ cl ∧ cl ≤ 201
theorem boxed_belowD {w w' : World} {cs : Array Value} {T : TypeId} (h : Below (w.heap.size + 1) (w.alloc (.cells cs T)) w') : Boxed w cs T w' := by unfold Boxed; simpa using h
theorem Nm.Boxed.freeD {w wr : World} {cs : Array Value} {T : TypeId} (h : Boxed w cs T wr) (i : Nat) : wr.frozen? ⟨w.heap.size, i, none⟩ = false := by
  have := h.frozen (p := ⟨w.heap.size, i, none⟩) (by simp)
  rw [this]; simp [go_sem]
set_option maxRecDepth 100000 in
set_option maxHeartbeats 1000000 in
theorem spec_DrawValidDisk (a : Option Addr) (n cap : Nat) (w : World) (hc : Code w w.heap.size a n cap) :
    Calls Try.prog 36 #[.slice a n cap] w fun e w' => ∃ v ps u qs cl, e = .returned (.agg #[v, .int .i64 cl, u]) ∧ DiskO w w' v ps u qs cl ∧ Below w.heap.size w w' := by
  go_enter Try.func36, Try.ntmps36
  go_wp2_with fail
  refine (spec_newReader a n cap _ (code_alloc hc _)).mono ?_
  rintro e w1 ⟨rfl, hr, hb⟩
  have hz := hb.size
  have B1 := Lib.hid ((Boxed.start w #[.slice none 0 0, .int .i64 0, .slice none 0 0] 28).step hb)
  have hz1 : w.heap.size + 1 ≤ w1.heap.size := by simp at hz; omega
  simp only [World.size_alloc] at hr hz ⊢
  have hRlt := hr.lt
  clear hb
  go_wp2_with fail
  refine (spec_anyDisk _ 0 _ hr (by omega)).mono ?_
  rintro e w2 ⟨v, ps, u, qs, cl, rfl, hfine, hc1, hc2, hown, q2, hq2, hr2, hg2⟩
  obtain ⟨⟨oa, oc, rfl⟩, ⟨ua, uc, rfl⟩⟩ := hown.len
  have O2 := Lib.hid (hown.mono (B' := w.heap.size + 2) (by omega))
  have Hfine := Lib.hid hfine
  have B2 := Lib.hid (show Below (w.heap.size + 1) (w.alloc (.cells #[.slice none 0 0, .int .i64 0, .slice none 0 0] 28)) w2 from below_gb (by have := B1.out; unfold Boxed at this; simpa using this) hz1 (Nat.le_refl _) hg2)
  have hz2 := hg2.size
  clear hfine hg2 hown B1
  have X2 := Lib.hid (show Boxed w #[.slice none 0 0, .int .i64 0, .slice none 0 0] 28 w2 from by unfold Boxed; simpa using B2.out)
  have x0 : w2.cell? ⟨w.heap.size, 0, none⟩ = some (.slice none 0 0) := X2.out.cell 0
  have x1 : w2.cell? ⟨w.heap.size, 1, none⟩ = some (.int .i64 0) := X2.out.cell 1
  have x2 : w2.cell? ⟨w.heap.size, 2, none⟩ = some (.slice none 0 0) := X2.out.cell 2
  have xf : ∀ j, w2.frozen? ⟨w.heap.size, j, none⟩ = false := fun j => by
    have := X2.out.frozen (p := ⟨w.heap.size, j, none⟩) (by simp)
    rw [this]; simp [go_sem]
  have xf0 := xf 0
  have xf1 := xf 1
  have xf2 := xf 2
  clear xf
  generalize hpn : ps.length = pn at *
  generalize hqn : qs.length = qn at *
  have Hpn := Lib.hid hpn
  have Hqn := Lib.hid hqn
  clear hpn hqn
  go_wp2_with fail
  refine bodyPost_ret (v := .agg #[.slice oa pn oc, .int .i64 cl, .slice ua qn uc]) (by simp [results, Try.results36, go_sem, *]) rfl ⟨_, ps, _, qs, cl, rfl, ⟨(O2.out.set3 (fun b hb => by have := (blkK_ge O2.out b hb).1; omega) _ _ _).mono (by omega), Hfine.out, hc1, hc2⟩, ?_⟩
  have h3 := X2.out.below
  (repeat (with_reducible first | exact Below.refl _ _ | assumption | refine ba ?_ _ | refine bd ?_ | refine bdN ?_ _ | refine bs ?_ (by first | exact Nat.le_refl _ | (dsimp only; omega) | (simp; done)) _ | refine bt ?_ (by assumption)))
set_option maxRecDepth 100000 in
set_option maxHeartbeats 1000000 in
theorem spec_DrawStampOf (a : Option Addr) (n cap : Nat) (w : World) (hc : Code w w.heap.size a n cap) :
    Calls Try.prog 34 #[.slice a n cap] w fun e w' => ∃ v ps u qs cl root p, e = .returned (.tuple #[.agg #[v, .int .i64 cl, u], .int .i64 root, .string (mk p)]) ∧ DiskO w w' v ps u qs cl ∧ -1 ≤ root ∧ root ≤ 3 ∧ p.length ≤ 7 ∧ Below w.heap.size w w' := by
  go_enter Try.func34, Try.ntmps34
  go_wp2_with fail
  refine (spec_newReader a n cap _ (code_alloc hc _)).mono ?_
  rintro e w1 ⟨rfl, hr, hb⟩
  have hz := hb.size
  have B1 := Lib.hid ((Boxed.start w #[.slice none 0 0, .int .i64 0, .slice none 0 0] 28).step hb)
  have hz1 : w.heap.size + 1 ≤ w1.heap.size := by simp at hz; omega
  simp only [World.size_alloc] at hr hz ⊢
  have hRlt := hr.lt
  clear hb
  go_wp2_with fail
  refine (spec_anyDisk _ 0 _ hr (by omega)).mono ?_
  rintro e w2 ⟨v, ps, u, qs, cl, rfl, hfine, hc1, hc2, hown, q2, hq2, hr2, hg2⟩
  obtain ⟨⟨oa, oc, rfl⟩, ⟨ua, uc, rfl⟩⟩ := hown.len
  have O2 := Lib.hid (hown.mono (B' := w.heap.size + 2) (by omega))
  have Hfine := Lib.hid hfine
  have B2 := Lib.hid (show Below (w.heap.size + 1) (w.alloc (.cells #[.slice none 0 0, .int .i64 0, .slice none 0 0] 28)) w2 from below_gb (by have := B1.out; unfold Boxed at this; simpa using this) hz1 (Nat.le_refl _) hg2)
  have hz2 := hg2.size
  clear hfine hg2 hown B1
  go_wp2_with fail
  refine (reader_one _ q2 w2.heap.size 3 [0, 1, 2, 3, -1] _ (hr2.alloc _) (heap_new w2 _ _) (by have := hr2.lt; omega) (by decide) (by decide) (by omega)).mono ?_
  rintro e w3 ⟨root, hroot, rfl, hr3, hg3⟩
  have hroot' := mem_int (-1) 3 (by decide) hroot
  have O3 := Lib.hid ((O2.out.below (ba (Below.refl _ _) (.cells ([0, 1, 2, 3, -1].map ivN).toArray 3))).gb hg3 (by omega))
  have B3 := Lib.hid (below_gb (B2.out.alloc (by omega) (.cells ([0, 1, 2, 3, -1].map ivN).toArray 3)) (by simp; omega) (Nat.le_refl _) hg3)
  have hz3 : w2.heap.size + 1 ≤ w3.heap.size := by have := hg3.size; simpa using this
  clear B2 O2 hg3 hroot
  go_wp2_with fail
  refine (spec_anyPackage _ (q2 + 1) _ hr3 (by omega)).mono ?_
  rintro e w4 ⟨p, rfl, hp, q4, hq4, hr4, hg4⟩
  have O4 := Lib.hid (O3.out.gb hg4 (by omega))
  have B4 := Lib.hid (below_gb B3.out (by omega) (Nat.le_refl _) hg4)
  clear B3 O3 hg4
  have X4 := Lib.hid (show Boxed w #[.slice none 0 0, .int .i64 0, .slice none 0 0] 28 w4 from by unfold Boxed; simpa using B4.out)
  have x0 : w4.cell? ⟨w.heap.size, 0, none⟩ = some (.slice none 0 0) := X4.out.cell 0
  have x1 : w4.cell? ⟨w.heap.size, 1, none⟩ = some (.int .i64 0) := X4.out.cell 1
  have x2 : w4.cell? ⟨w.heap.size, 2, none⟩ = some (.slice none 0 0) := X4.out.cell 2
  have xf : ∀ j, w4.frozen? ⟨w.heap.size, j, none⟩ = false := fun j => by
    have := X4.out.frozen (p := ⟨w.heap.size, j, none⟩) (by simp)
    rw [this]; simp [go_sem]
  have xf0 := xf 0
  have xf1 := xf 1
  have xf2 := xf 2
  clear xf
  generalize hpn : ps.length = pn at *
  generalize hqn : qs.length = qn at *
  have Hpn := Lib.hid hpn
  have Hqn := Lib.hid hqn
  clear hpn hqn
  go_wp2_with fail
  refine bodyPost_ret (v := .tuple #[.agg #[.slice oa pn oc, .int .i64 cl, .slice ua qn uc], .int .i64 root, .string (mk p)]) (by simp [results, Try.results34, go_sem, *]) rfl ⟨_, ps, _, qs, cl, root, p, rfl, ⟨(O4.out.set3 (fun b hb => by have := (blkK_ge O4.out b hb).1; omega) _ _ _).mono (by omega), Hfine.out, hc1, hc2⟩, hroot'.1, hroot'.2, hp, ?_⟩
  have h3 := X4.out.below
  (repeat (with_reducible first | exact Below.refl _ _ | assumption | refine ba ?_ _ | refine bd ?_ | refine bdN ?_ _ | refine bs ?_ (by first | exact Nat.le_refl _ | (dsimp only; omega) | (simp; done)) _ | refine bt ?_ (by assumption)))

/-! ### The functions that draw a disk with a change of it, for the laws. -/
theorem boxc3 {w : World} {X : Nat} {a b c : Value} (h : BoxC w X #[a, b, c]) : w.cell? ⟨X, 0, none⟩ = some a ∧ w.cell? ⟨X, 1, none⟩ = some b ∧ w.cell? ⟨X, 2, none⟩ = some c := ⟨h.2 0, h.2 1, h.2 2⟩
theorem boxed3 {w w' : World} {T : TypeId} {a b c : Value} (h : Boxed w #[a, b, c] T w') : w'.cell? ⟨w.heap.size, 0, none⟩ = some a ∧ w'.cell? ⟨w.heap.size, 1, none⟩ = some b ∧ w'.cell? ⟨w.heap.size, 2, none⟩ = some c := ⟨h.cell 0, h.cell 1, h.cell 2⟩
set_option maxRecDepth 100000 in
set_option maxHeartbeats 4000000 in
theorem spec_DrawDiskRemove (a : Option Addr) (n cap : Nat) (w : World) (hc : Code w w.heap.size a n cap) :
    Calls Try.prog 10 #[.slice a n cap] w fun e w' => ∃ v ps u qs cl i tk, e = .returned (.tuple #[.agg #[v, .int .i64 cl, u], .int .i64 i, .int .i64 tk]) ∧ DiskO w w' v ps u qs cl ∧ -1 ≤ i ∧ i ≤ 8 ∧ -1 ≤ tk ∧ tk ≤ 2 ∧ Below w.heap.size w w' := by
  go_enter Try.func10, Try.ntmps10
  go_wp2_with fail
  refine (spec_newReader a n cap _ (code_alloc hc _)).mono ?_
  rintro e w1 ⟨rfl, hr, hb⟩
  have hz := hb.size
  have B1 := Lib.hid ((Boxed.start w #[.slice none 0 0, .int .i64 0, .slice none 0 0] 28).step hb)
  have hz1 : w.heap.size + 1 ≤ w1.heap.size := by simp at hz; omega
  simp only [World.size_alloc] at hr hz ⊢
  have hRlt := hr.lt
  clear hb
  go_wp2_with fail
  refine (spec_anyDisk _ 0 _ hr (by omega)).mono ?_
  rintro e w2 ⟨v, ps, u, qs, cl, rfl, hfine, hc1, hc2, hown, q2, hq2, hr2, hg2⟩
  obtain ⟨⟨oa, oc, rfl⟩, ⟨ua, uc, rfl⟩⟩ := hown.len
  have O2 := Lib.hid (hown.mono (B' := w.heap.size + 2) (by omega))
  have Hfine := Lib.hid hfine
  have B2 := Lib.hid (show Below (w.heap.size + 1) (w.alloc (.cells #[.slice none 0 0, .int .i64 0, .slice none 0 0] 28)) w2 from below_gb (by have := B1.out; unfold Boxed at this; simpa using this) hz1 (Nat.le_refl _) hg2)
  have hz2 := hg2.size
  clear hfine hg2 hown B1
  have Hpl := Lib.hid (show ps.length ≤ 8 by have h := Hfine.out.2.1; rwa [List.length_map] at h)
  have hR2 := hr2.lt
  have O2' := Lib.hid (O2.out.below (ba (Below.refl _ _) (.cells #[.slice oa ps.length oc, .int .i64 cl, .slice ua qs.length uc] 28)))
  have X2 := Lib.hid (BoxC.start w2 #[.slice oa ps.length oc, .int .i64 cl, .slice ua qs.length uc] 28)
  have B2' := Lib.hid (B2.out.alloc (by omega) (.cells #[.slice oa ps.length oc, .int .i64 cl, .slice ua qs.length uc] 28))
  have hr2' := hr2.alloc (.cells #[.slice oa ps.length oc, .int .i64 cl, .slice ua qs.length uc] 28)
  obtain ⟨W2, hW2⟩ : ∃ W, W = w2.alloc (.cells #[.slice oa ps.length oc, .int .i64 cl, .slice ua qs.length uc] 28) := ⟨_, rfl⟩
  rw [← hW2] at O2' X2 B2' hr2'
  have hXW : w2.heap.size < W2.heap.size := by rw [hW2]; simp
  have HW2 := Lib.hid hW2
  clear hW2 O2 B2 hr2
  have y0 : W2.cell? ⟨w2.heap.size, 0, none⟩ = some (.slice oa ps.length oc) := X2.out.2 0
  have y1 : W2.cell? ⟨w2.heap.size, 1, none⟩ = some (.int .i64 cl) := X2.out.2 1
  have y2 : W2.cell? ⟨w2.heap.size, 2, none⟩ = some (.slice ua qs.length uc) := X2.out.2 2
  have hRX : w2.heap.size ≠ w.heap.size + 1 := by omega
  have hXw : w2.heap.size ≠ w.heap.size := by omega
  have hwX : w.heap.size ≠ w2.heap.size := by omega
  have hpl := Hpl.out
  have hpi : IntKind.i64.wrap ((ps.length : Int) + 1) = (ps.length : Int) + 1 := by rw [IntKind.wrap_i64]; omega
  have v0 : W2.cell? ⟨w2.heap.size, 0, none⟩ = some (.slice oa ps.length oc) := X2.out.2 0
  have v1 : W2.cell? ⟨w2.heap.size, 1, none⟩ = some (.int .i64 cl) := X2.out.2 1
  have v2 : W2.cell? ⟨w2.heap.size, 2, none⟩ = some (.slice ua qs.length uc) := X2.out.2 2
  have O := Lib.hid O2'.out.drewD
  have X := Lib.hid X2.out.drewD
  have B := Lib.hid (below_drewD B2'.out)
  have HR := Lib.hid hr2'.drewD
  have HR2 := Lib.hid hr2'
  clear y0 y1 y2 hr2'
  obtain ⟨y0, y1, y2⟩ := boxc3 X.out
  have XB := Lib.hid (boxed_belowD B.out)
  obtain ⟨x0, x1, x2⟩ := boxed3 XB.out
  have xf0 := XB.out.freeD 0
  have xf1 := XB.out.freeD 1
  have xf2 := XB.out.freeD 2; have hXc := X.out.1; have hwc := XB.out.lt
  go_wp2_with fail
  rw [← HW2.out]
  go_region_law (first
    | (go_simp; go_at_call 43; (first | ((with_reducible show Calls _ _ _ (World.drew (World.alloc _ _)) _); have L2 := Lib.hid (LitAt.new HR2.out.lt [1, 0, 2, -1]).drew; have O := Lib.hid (O2'.out.below (ba (Below.refl _ _) (.cells ([1, 0, 2, -1].map ivN).toArray 3))).drewD; have X := Lib.hid (X2.out.below (ba (Below.refl _ _) (.cells ([1, 0, 2, -1].map ivN).toArray 3))).drewD; have B := Lib.hid (below_drewD (B2'.out.alloc (by have := B2'.out.size; simpa using this) (.cells ([1, 0, 2, -1].map ivN).toArray 3))); have HR := Lib.hid (HR2.out.alloc (.cells ([1, 0, 2, -1].map ivN).toArray 3)).drewD) | skip); refine (reader_pick _ _ ((ps.length : Int) + 1) _ HR.out (by omega) (by omega)).mono ?_; rintro e w3 ⟨i3, rfl, hi0, hi3, hr3, hg3⟩; have O := Lib.hid (O.out.gb hg3 (by omega)); have X := Lib.hid (X.out.gbD hg3 hRX); have B := Lib.hid (below_gb B.out (by have := B.out.size; simpa using this) (Nat.le_refl _) hg3); (try have L1 := Lib.hid (L1.out.gb hg3)); (try have L2 := Lib.hid (L2.out.gb hg3)); clear y0 y1 y2 x0 x1 x2 xf0 xf1 xf2; obtain ⟨y0, y1, y2⟩ := boxc3 X.out; have XB := Lib.hid (boxed_belowD B.out); obtain ⟨x0, x1, x2⟩ := boxed3 XB.out; have xf0 := XB.out.freeD 0; have xf1 := XB.out.freeD 1; have xf2 := XB.out.freeD 2; have hXc := X.out.1; have hwc := XB.out.lt; have HR := Lib.hid hr3; clear hg3 hr3)
    | (go_simp; go_at_call 42; (with_reducible show Calls _ _ #[_, .slice _ 3 3] _ _); (first | ((with_reducible show Calls _ _ _ (World.alloc (World.alloc _ (.cells #[.int .i64 1, .int .i64 0, .int .i64 2, .int .i64 (-1)] _)) (.cells #[.int .i64 0, .int .i64 i3, .int .i64 (-1)] _)) _); (try have L1 := Lib.hid (L1.out.alloc (.cells ([1, 0, 2, -1].map ivN).toArray 3))); have L2 := Lib.hid (LitAt.new HR.out.lt [1, 0, 2, -1]); have O := Lib.hid (O.out.below (ba (Below.refl _ _) (.cells ([1, 0, 2, -1].map ivN).toArray 3))); have X := Lib.hid (X.out.below (ba (Below.refl _ _) (.cells ([1, 0, 2, -1].map ivN).toArray 3))); have B := Lib.hid (B.out.alloc (by have := B.out.size; simpa using this) (.cells ([1, 0, 2, -1].map ivN).toArray 3)); have HR := Lib.hid (HR.out.alloc (.cells ([1, 0, 2, -1].map ivN).toArray 3)); (try have L2 := Lib.hid (L2.out.alloc (.cells ([0, i3, -1].map ivN).toArray 3))); have L1 := Lib.hid (LitAt.new HR.out.lt [0, i3, -1]); have O := Lib.hid (O.out.below (ba (Below.refl _ _) (.cells ([0, i3, -1].map ivN).toArray 3))); have X := Lib.hid (X.out.below (ba (Below.refl _ _) (.cells ([0, i3, -1].map ivN).toArray 3))); have B := Lib.hid (B.out.alloc (by have := B.out.size; simpa using this) (.cells ([0, i3, -1].map ivN).toArray 3)); have HR := Lib.hid (HR.out.alloc (.cells ([0, i3, -1].map ivN).toArray 3))) | ((with_reducible show Calls _ _ _ (World.alloc (World.alloc _ (.cells #[.int .i64 0, .int .i64 i3, .int .i64 (-1)] _)) (.cells #[.int .i64 1, .int .i64 0, .int .i64 2, .int .i64 (-1)] _)) _); (try have L2 := Lib.hid (L2.out.alloc (.cells ([0, i3, -1].map ivN).toArray 3))); have L1 := Lib.hid (LitAt.new HR.out.lt [0, i3, -1]); have O := Lib.hid (O.out.below (ba (Below.refl _ _) (.cells ([0, i3, -1].map ivN).toArray 3))); have X := Lib.hid (X.out.below (ba (Below.refl _ _) (.cells ([0, i3, -1].map ivN).toArray 3))); have B := Lib.hid (B.out.alloc (by have := B.out.size; simpa using this) (.cells ([0, i3, -1].map ivN).toArray 3)); have HR := Lib.hid (HR.out.alloc (.cells ([0, i3, -1].map ivN).toArray 3)); (try have L1 := Lib.hid (L1.out.alloc (.cells ([1, 0, 2, -1].map ivN).toArray 3))); have L2 := Lib.hid (LitAt.new HR.out.lt [1, 0, 2, -1]); have O := Lib.hid (O.out.below (ba (Below.refl _ _) (.cells ([1, 0, 2, -1].map ivN).toArray 3))); have X := Lib.hid (X.out.below (ba (Below.refl _ _) (.cells ([1, 0, 2, -1].map ivN).toArray 3))); have B := Lib.hid (B.out.alloc (by have := B.out.size; simpa using this) (.cells ([1, 0, 2, -1].map ivN).toArray 3)); have HR := Lib.hid (HR.out.alloc (.cells ([1, 0, 2, -1].map ivN).toArray 3))) | ((with_reducible show Calls _ _ _ (World.alloc _ (.cells #[.int .i64 0, .int .i64 i3, .int .i64 (-1)] _)) _); (try have L2 := Lib.hid (L2.out.alloc (.cells ([0, i3, -1].map ivN).toArray 3))); have L1 := Lib.hid (LitAt.new HR.out.lt [0, i3, -1]); have O := Lib.hid (O.out.below (ba (Below.refl _ _) (.cells ([0, i3, -1].map ivN).toArray 3))); have X := Lib.hid (X.out.below (ba (Below.refl _ _) (.cells ([0, i3, -1].map ivN).toArray 3))); have B := Lib.hid (B.out.alloc (by have := B.out.size; simpa using this) (.cells ([0, i3, -1].map ivN).toArray 3)); have HR := Lib.hid (HR.out.alloc (.cells ([0, i3, -1].map ivN).toArray 3))) | ((with_reducible show Calls _ _ _ (World.alloc _ (.cells #[.int .i64 1, .int .i64 0, .int .i64 2, .int .i64 (-1)] _)) _); (try have L1 := Lib.hid (L1.out.alloc (.cells ([1, 0, 2, -1].map ivN).toArray 3))); have L2 := Lib.hid (LitAt.new HR.out.lt [1, 0, 2, -1]); have O := Lib.hid (O.out.below (ba (Below.refl _ _) (.cells ([1, 0, 2, -1].map ivN).toArray 3))); have X := Lib.hid (X.out.below (ba (Below.refl _ _) (.cells ([1, 0, 2, -1].map ivN).toArray 3))); have B := Lib.hid (B.out.alloc (by have := B.out.size; simpa using this) (.cells ([1, 0, 2, -1].map ivN).toArray 3)); have HR := Lib.hid (HR.out.alloc (.cells ([1, 0, 2, -1].map ivN).toArray 3))) | skip); (try simp only [World.size_alloc] at L1); (try simp only [World.size_alloc] at L2); refine (reader_one _ _ _ 3 [0, i3, -1] _ HR.out L1.out.1 L1.out.2 (by simp) (by simp) (by omega)).mono ?_; rintro e w4 ⟨i4, hi4, rfl, hr4, hg4⟩; have hi8 : -1 ≤ i4 ∧ i4 ≤ 8 := (by simp at hi4; omega); clear hi4 L1; have O := Lib.hid (O.out.gb hg4 (by omega)); have X := Lib.hid (X.out.gbD hg4 hRX); have B := Lib.hid (below_gb B.out (by have := B.out.size; simpa using this) (Nat.le_refl _) hg4); (try have L1 := Lib.hid (L1.out.gb hg4)); (try have L2 := Lib.hid (L2.out.gb hg4)); clear y0 y1 y2 x0 x1 x2 xf0 xf1 xf2; obtain ⟨y0, y1, y2⟩ := boxc3 X.out; have XB := Lib.hid (boxed_belowD B.out); obtain ⟨x0, x1, x2⟩ := boxed3 XB.out; have xf0 := XB.out.freeD 0; have xf1 := XB.out.freeD 1; have xf2 := XB.out.freeD 2; have hXc := X.out.1; have hwc := XB.out.lt; have HR := Lib.hid hr4; clear hg4 hr4)
    | (go_simp; go_at_call 42; (with_reducible show Calls _ _ #[_, .slice _ 4 4] _ _); (first | ((with_reducible show Calls _ _ _ (World.alloc _ (.cells #[.int .i64 1, .int .i64 0, .int .i64 2, .int .i64 (-1)] _)) _); (try have L1 := Lib.hid (L1.out.alloc (.cells ([1, 0, 2, -1].map ivN).toArray 3))); have L2 := Lib.hid (LitAt.new HR.out.lt [1, 0, 2, -1]); have O := Lib.hid (O.out.below (ba (Below.refl _ _) (.cells ([1, 0, 2, -1].map ivN).toArray 3))); have X := Lib.hid (X.out.below (ba (Below.refl _ _) (.cells ([1, 0, 2, -1].map ivN).toArray 3))); have B := Lib.hid (B.out.alloc (by have := B.out.size; simpa using this) (.cells ([1, 0, 2, -1].map ivN).toArray 3)); have HR := Lib.hid (HR.out.alloc (.cells ([1, 0, 2, -1].map ivN).toArray 3))) | skip); (try simp only [World.size_alloc] at L2); refine (reader_one _ _ _ 3 [1, 0, 2, -1] _ HR.out L2.out.1 L2.out.2 (by simp) (by simp) (by omega)).mono ?_; rintro e w5 ⟨tk, htk, rfl, hr5, hg5⟩; have htk' := mem_int (-1) 2 (by decide) htk; have O := Lib.hid (O.out.gb hg5 (by omega)); have X := Lib.hid (X.out.gbD hg5 hRX); have B := Lib.hid (below_gb B.out (by have := B.out.size; simpa using this) (Nat.le_refl _) hg5); (try have L1 := Lib.hid (L1.out.gb hg5)); (try have L2 := Lib.hid (L2.out.gb hg5)); clear y0 y1 y2 x0 x1 x2 xf0 xf1 xf2; obtain ⟨y0, y1, y2⟩ := boxc3 X.out; have XB := Lib.hid (boxed_belowD B.out); obtain ⟨x0, x1, x2⟩ := boxed3 XB.out; have xf0 := XB.out.freeD 0; have xf1 := XB.out.freeD 1; have xf2 := XB.out.freeD 2; have hXc := X.out.1; have hwc := XB.out.lt; clear hg5 hr5 htk))
  all_goals
    generalize hpn : ps.length = pn at *
    generalize hqn : qs.length = qn at *
    have Hpn := Lib.hid hpn
    have Hqn := Lib.hid hqn
    clear hpn hqn
    go_wp2_with fail
    refine bodyPost_ret (v := .tuple #[.agg #[.slice oa pn oc, .int .i64 cl, .slice ua qn uc], .int .i64 i4, .int .i64 tk]) (by simp [results, Try.results10, go_sem, x0, x1, x2, xf0, xf1, xf2]) rfl ⟨_, ps, _, qs, cl, i4, tk, rfl, ⟨(O.out.set3 (fun b hb => by have := (blkK_ge O.out b hb).1; omega) _ _ _).mono (by omega), Hfine.out, hc1, hc2⟩, hi8.1, hi8.2, htk'.1, htk'.2, ?_⟩
    have h3 := XB.out.below
    (repeat (with_reducible first | exact Below.refl _ _ | assumption | refine ba ?_ _ | refine bd ?_ | refine bdN ?_ _ | refine bs ?_ (by first | exact Nat.le_refl _ | (dsimp only; omega) | (simp; done)) _ | refine bt ?_ (by assumption)))
end Go.Proofs.Ytgecemngfpgcoaa
