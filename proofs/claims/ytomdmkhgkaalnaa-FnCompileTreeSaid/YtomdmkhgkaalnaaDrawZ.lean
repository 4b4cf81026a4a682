/- The functions that draw a tree, and what else a law takes. Written by mkdraws.py. -/
import Derived.Test.YtomdmkhgkaalnaaDrawY
import Derived.Test.YtomdmkhgkaalnaaDrawF
import Derived.Test.YtomdmkhgkaalnaaDrawP
import Derived.Deep.RegionLaw
set_option linter.unusedVariables false
set_option linter.unusedSimpArgs false
namespace Go.Proofs.Ytomdmkhgkaalnaa
open Go.RowKit Go.Proofs.Ytomdmkhgkaalnaa.Nm

theorem PathIn.gbR {w w' : World} {v : Value} {R q : Nat} {xs : List Int} (h : PathIn w v xs) (hr : Rd w R q) (hg : w.grownBy w' (some R)) : PathIn w' v xs := by
  obtain ⟨g, cap, h1, h2, h3, h4, h5⟩ := h
  refine ⟨g, cap, h1, h2, h3, Nat.lt_of_lt_of_le h4 hg.size, fun j u hu => ?_⟩
  have hj := (List.getElem?_eq_some_iff.1 hu).1
  rw [List.length_map] at hj
  have hne : g ≠ R := by
    rintro rfl
    obtain ⟨a, n, c, hRR, _⟩ := hr
    have := h5 0 (iv xs[0]) (by rw [List.getElem?_map, List.getElem?_eq_getElem (by omega)]; rfl)
    rw [add0P] at this
    simp only [World.cell?, hRR] at this
    simp [iv] at this
  rw [add0P, World.cell?_of_block (w := w) (hg.block g h4 (fun e => hne (Option.some.inj e))), ← add0P]
  exact h5 j u hu
theorem PathIn.len {w : World} {v : Value} {xs : List Int} (h : PathIn w v xs) : ∃ a c, v = .slice a xs.length c := by
  obtain ⟨g, cap, h1, _⟩ := h
  exact ⟨_, _, h1⟩
/-- A drawn tree. -/
def TreeD (w w' : World) (v : Value) (ps : List (Fil × Value)) : Prop :=
  RowsB w' w.heap.size v ps ∧ ShortT 8 (ps.map (·.1)) ∧ ps.length ≤ 11 ∧ (∀ p ∈ ps, p.1.body.length ≤ 5) ∧ Below w.heap.size w w'
theorem below_keep {w W w' : World} {c : Nat} (h : Below c W w') (hw : w.heap.size ≤ W.heap.size) (hc : w.heap.size ≤ c) (hb : Below w.heap.size w W) : Below w.heap.size w w' := hb.trans (h.mono hc)
/-- A path stays where a cell with a slice is written. -/
theorem PathIn.set_box {w : World} {v : Value} {xs : List Int} {X : Nat} {a : Option Addr} {n c : Nat} (h : PathIn w v xs) (hx : w.cell? ⟨X, 0, none⟩ = some (.slice a n c)) (u : Value) : PathIn (w.setCell ⟨X, 0, none⟩ u) v xs := by
  obtain ⟨g, cap, h1, h2, h3, h4, h5⟩ := h
  refine ⟨g, cap, h1, h2, h3, by simpa using h4, fun j x hj => ?_⟩
  have h6 := h5 j x hj
  rw [add0P] at h6 ⊢
  have hne : (⟨g, j, none⟩ : Addr) ≠ ⟨X, 0, none⟩ := by
    intro e
    rw [e, hx] at h6
    have h7 := Option.some.inj h6
    rw [List.getElem?_map] at hj
    cases hk : xs[j]? with
    | none => rw [hk] at hj; cases hj
    | some y => rw [hk] at hj; rw [← h7] at hj; simp [iv] at hj
  rw [World.cell?_setCell_other _ _ _ _ (Ne.symm hne)]
  exact h6

/-! ### The function that draws a tree and a mode for a law. -/
set_option maxRecDepth 100000 in
set_option maxHeartbeats 800000 in
theorem spec_DrawCompileTree (a : Option Addr) (n cap : Nat) (w : World) (hc : Code w w.heap.size a n cap) :
    Calls Try.prog 44 #[.slice a n cap] w fun e w' => ∃ v ps m, e = .returned (.tuple #[.agg #[v], .int .i64 m]) ∧ TreeD w w' v ps := by
  go_enter Try.func44, Try.ntmps44
  go_wp2_with fail
  refine (spec_newReader a n cap _ (code_alloc hc _)).mono ?_
  rintro e w1 ⟨rfl, hr, hb⟩
  have hz := hb.size
  have B1 := Lib.hid ((Boxed.start w #[.slice none 0 0] 33).step hb)
  have hz1 : w.heap.size + 1 ≤ w1.heap.size := by simp at hz; omega
  simp only [World.size_alloc] at hr hz ⊢
  have hRlt := hr.lt
  clear hb
  go_wp2_with fail
  refine (spec_anyTree _ 0 _ hr (by omega)).mono ?_
  rintro e w2 ⟨v, ps, rfl, hrows, hsh, hl, hb5, q2, hq2, hr2, hg2⟩
  obtain ⟨va, vc, rfl⟩ := hrows.len
  have HR2 := Lib.hid hrows
  have Hsh := Lib.hid hsh
  have Hb5 := Lib.hid hb5
  have B2 := Lib.hid (show Below (w.heap.size + 1) (w.alloc (.cells #[.slice none 0 0] 33)) w2 from below_gb (by have := B1.out; unfold Boxed at this; simpa using this) hz1 (Nat.le_refl _) hg2)
  have hz2 := hg2.size
  clear hrows hsh hb5 hg2 B1
  generalize hpn : ps.length = pn at *
  have Hpn := Lib.hid hpn
  clear hpn
  go_wp2_with fail
  refine (reader_one _ q2 w2.heap.size 3 [0, 1, 2, 3, -1] _ (hr2.alloc _) (heap_new w2 _ _) (by have := hr2.lt; omega) (by decide) (by decide) (by omega)).mono ?_
  rintro e w3 ⟨m, hm, rfl, hr3, hg3⟩
  have B3 := Lib.hid (below_gb (B2.out.alloc (by omega) (.cells ([0, 1, 2, 3, -1].map ivN).toArray 3)) (by simp; omega) (Nat.le_refl _) hg3)
  have HR3 := Lib.hid ((HR2.out.below (ba (Below.refl _ _) (.cells ([0, 1, 2, 3, -1].map ivN).toArray 3))).gb hg3 (by omega))
  clear hg3 hm
  have X3 := Lib.hid (show Boxed w #[.slice none 0 0] 33 w3 from by unfold Boxed; simpa using B3.out)
  have x0 : w3.cell? ⟨w.heap.size, 0, none⟩ = some (.slice none 0 0) := X3.out.cell 0
  have xf : w3.frozen? ⟨w.heap.size, 0, none⟩ = false := by
    have := X3.out.frozen (p := ⟨w.heap.size, 0, none⟩) (by simp)
    rw [this]; simp [go_sem]
  go_wp2_with fail
  refine bodyPost_ret (v := .tuple #[.agg #[.slice va pn vc], .int .i64 m]) (by simp [results, Try.results44, go_sem, *]) rfl ⟨_, ps, m, rfl, ((HR3.out.mono (by omega)).set_low (p := ⟨w.heap.size, 0, none⟩) (B := w.heap.size + 1) (by dsimp only; omega) _).mono (by omega), Hsh.out, by have := Hpn.out; omega, Hb5.out, ?_⟩
  have h3 := X3.out.below
  (repeat (with_reducible first | exact Below.refl _ _ | assumption | refine ba ?_ _ | refine bd ?_ | refine bdN ?_ _ | refine bs ?_ (by first | exact Nat.le_refl _ | (dsimp only; omega) | (simp; done)) _ | refine bt ?_ (by assumption)))
end Go.Proofs.Ytomdmkhgkaalnaa
