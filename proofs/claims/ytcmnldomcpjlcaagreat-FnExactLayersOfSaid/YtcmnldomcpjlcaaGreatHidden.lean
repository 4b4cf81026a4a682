/- Contracts of the functions that tell which files are hidden, and why. -/
import Derived.Test.YtcmnldomcpjlcaaGreatSLooks
import Derived.Test.YtcmnldomcpjlcaaGreatHasF
set_option linter.unusedVariables false
set_option linter.unusedSimpArgs false
namespace Go.Proofs.YtcmnldomcpjlcaaGreat
open Go.RowKit Go.Proofs.YtcmnldomcpjlcaaGreat.Nm

theorem ret_num {a b : Int} (h : a = b) : Ending.returned (.int .i64 a) = .returned (.int .i64 b) := by rw [h]
theorem ret_pair {a b c d : Int} (h1 : a = c) (h2 : b = d) : Ending.returned (.tuple #[.int .i64 a, .int .i64 b]) = .returned (.tuple #[.int .i64 c, .int .i64 d]) := by rw [h1, h2]
theorem newInts_no {T : TypeId} {xs : List Int} {w w' : World} (h : xs = []) (hb : Below w.heap.size w w') : NewInts T xs w (.returned (.slice none 0 0)) w' := by
  subst h; exact ⟨_, rfl, World.ownsRow_nil _ _ _ _, hb⟩
theorem hidden_no {t : List Fil} {path : List Int} (h : okLook t path = false) : hidden t path = [] := by rw [hidden, h]; rfl
theorem found_lt (fs : List Fil) (path : List Int) (f : Fil) : -1 ≤ foundFor fs path f ∧ foundFor fs path f < fs.length := (byParts_ok fs path _).file
set_option maxRecDepth 100000 in
set_option maxHeartbeats 2000000 in
theorem impl_foundFor (v : Value) (fs : List Fil) (D : Nat → Prop) (pv : Value) (path : List Int) (k : Nat) (w : World) (hr : FilsIn w D v fs) (hz : ShortT 2000000 fs) (ht : okTree fs = true) (hp : IntsIn w pv path) (hpl : path.length ≤ 100) (hk : k < fs.length) :
    Calls Tryz.prog 134 #[.agg #[v], pv, .int .i64 k] w fun e w' => e = .returned (.int .i64 (foundFor fs path fs[k])) ∧ Below w.heap.size w w' := by
  have Hr := Lib.hid hr
  have Hz := Lib.hid hz
  have Ht := Lib.hid ht
  have Hp := Lib.hid hp
  have hf1 := fld1
  obtain ⟨b, off, cap, bv, e, hD, hb, hbody, c0, c1, c2, c3, c4, c5⟩ := hr.at_ hk
  subst e
  obtain ⟨ba', bc', rfl, hbl, hbm⟩ := hbody.len
  obtain ⟨z1, z2, z3⟩ := hz _ (List.getElem_mem hk)
  have hmod := okFil_mod (okTree_file ht (List.getElem_mem hk))
  obtain ⟨pa, pc, rfl, hl1, hm1⟩ := hp.len
  obtain ⟨_, _, e2, hl, hm⟩ := hr.len
  have hk1 : (k : Int) < (fs.length : Int) := by omega
  have hk0 : (0 : Int) ≤ (k : Int) := by omega
  have hfl : fs.length ≤ 12 := (okTree_all ht).2.2
  obtain ⟨f, hf⟩ : ∃ f, f = fs[k] := ⟨_, rfl⟩
  rw [← hf] at c0 c1 c2 c3 c4 c5 z1 z2 hmod ⊢
  clear hf hbody hbl hbm z3 hr hz ht hp e2 hl hm hl1 hm1
  obtain ⟨fr, fp, fn, fi, fst, fb⟩ := f
  dsimp only at c0 c1 c2 c3 c4 c5 z1 z2
  have Hmod := Lib.hid hmod.1
  have hvl := vn_len hmod.2
  obtain ⟨nm, hnm⟩ : ∃ nm, nm = modName ⟨fr, fp, fn, fi, fst, fb⟩ := ⟨_, rfl⟩
  rw [← hnm] at Hmod hvl
  have Hff := Lib.hid (show foundFor fs path ⟨fr, fp, fn, fi, fst, fb⟩ = (byParts fs path nm).file by rw [hnm]; rfl)
  obtain ⟨sp, hsp⟩ : ∃ sp, sp = byParts fs path nm := ⟨_, rfl⟩
  rw [← hsp] at Hff
  have Hsp := Lib.hid hsp
  clear hmod hnm hsp
  have hb0 := Boxed.start w #[.slice (some ⟨b, off, none⟩) fs.length cap] 31
  obtain ⟨W, hW⟩ : ∃ W, W = w.alloc (.cells #[.slice (some ⟨b, off, none⟩) fs.length cap] 31) := ⟨_, rfl⟩
  rw [← hW] at hb0
  have HW := Lib.hid hW
  have hbw := hb0.below
  have a0 : W.cell? ⟨w.heap.size, 0, none⟩ = some (.slice (some ⟨b, off, none⟩) fs.length cap) := hb0.cell 0
  have hlt := hb0.lt
  have hbW : b < W.heap.size := Nat.lt_of_lt_of_le hb hbw.size
  have Hk := Lib.hid (fun (w' : World) (hC : Below W.heap.size W w') => (by
    have hc := fun o => (hC.cell (p := ⟨b, o, none⟩) hbW).trans (hbw.cell (p := ⟨b, o, none⟩) hb)
    exact ⟨(hC.cell (p := ⟨w.heap.size, 0, none⟩) hlt).trans a0, (hc _).trans c0, (hc _).trans c1, (hc _).trans c2, (hc _).trans c3, (hc _).trans c4, (hc _).trans c5, hC⟩ :
    w'.cell? ⟨w.heap.size, 0, none⟩ = some (.slice (some ⟨b, off, none⟩) fs.length cap) ∧ w'.cell? ⟨b, off + k * 6, none⟩ = some (.int .i64 fr) ∧ w'.cell? ⟨b, off + k * 6 + 1, none⟩ = some (.string (mk fp)) ∧ w'.cell? ⟨b, off + k * 6 + 2, none⟩ = some (.string (mk fn)) ∧ w'.cell? ⟨b, off + k * 6 + 3, none⟩ = some (.bool fi) ∧ w'.cell? ⟨b, off + k * 6 + 4, none⟩ = some (.int .i64 fst) ∧ w'.cell? ⟨b, off + k * 6 + 5, none⟩ = some (.slice ba' fb.length bc') ∧ Below W.heap.size W w'))
  have Hbw := Lib.hid hbw
  clear hW hb0 hbw c0 c1 c2 c3 c4 c5 a0
  go_enter Tryz.func134, Tryz.ntmps134
  go_wp2_with fail
  rw [← HW.out]
  go_region_held3 (fun w' => w'.cell? ⟨w.heap.size, 0, none⟩ = some (.slice (some ⟨b, off, none⟩) fs.length cap) ∧ w'.cell? ⟨b, off + k * 6, none⟩ = some (.int .i64 fr) ∧ w'.cell? ⟨b, off + k * 6 + 1, none⟩ = some (.string (mk fp)) ∧ w'.cell? ⟨b, off + k * 6 + 2, none⟩ = some (.string (mk fn)) ∧ w'.cell? ⟨b, off + k * 6 + 3, none⟩ = some (.bool fi) ∧ w'.cell? ⟨b, off + k * 6 + 4, none⟩ = some (.int .i64 fst) ∧ w'.cell? ⟨b, off + k * 6 + 5, none⟩ = some (.slice ba' fb.length bc') ∧ Below W.heap.size W w')
    (exact Hk.out _ (by (repeat (with_reducible first | exact Below.refl _ _ | assumption | refine ba ?_ _ | refine bd ?_ | refine bdN ?_ _ | refine bs ?_ (by first | exact Nat.le_refl _ | (dsimp only; omega) | (simp; done)) _ | refine bt ?_ (by assumption)))))
    (first
      | (go_at_call 135; refine (impl_moduleAt _ _ _ _ _ _ fb _ (by omega) (by omega)).mono ?_; rintro _ w5 ⟨rfl, hb5⟩; rw [Hmod.out])
      | (go_at_call 105; refine (impl_findByParts _ fs D _ path nm _ (Hr.out.below (bt Hbw.out (by (repeat (with_reducible first | exact Below.refl _ _ | assumption | refine ba ?_ _ | refine bd ?_ | refine bdN ?_ _ | refine bs ?_ (by first | exact Nat.le_refl _ | (dsimp only; omega) | (simp; done)) _ | refine bt ?_ (by assumption)))))) Hz.out Ht.out (Hp.out.below (bt Hbw.out (by (repeat (with_reducible first | exact Below.refl _ _ | assumption | refine ba ?_ _ | refine bd ?_ | refine bdN ?_ _ | refine bs ?_ (by first | exact Nat.le_refl _ | (dsimp only; omega) | (simp; done)) _ | refine bt ?_ (by assumption)))))) hpl (by omega)).mono ?_; rintro _ w6 ⟨v6, rfl, hown6, hb6⟩; rw [← Hsp.out]; rw [← Hsp.out] at hown6; obtain ⟨a6, c6, hv6⟩ := owns_shape hown6; subst hv6; clear hown6))
  go_wp2_with fail
  go_ret
  exact ⟨ret_num Hff.out.symm, bt Hbw.out (by (repeat (with_reducible first | exact Below.refl _ _ | assumption | refine ba ?_ _ | refine bd ?_ | refine bdN ?_ _ | refine bs ?_ (by first | exact Nat.le_refl _ | (dsimp only; omega) | (simp; done)) _ | refine bt ?_ (by assumption))))⟩


end Go.Proofs.YtcmnldomcpjlcaaGreat
