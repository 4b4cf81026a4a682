/- The functions that draw a tree, and what else a law takes. Written by mkdraws.py. -/
import Derived.Test.YtfelbhpgifgkcaaDrawY
import Derived.Test.YtfelbhpgifgkcaaDrawG
import Derived.Test.YtfelbhpgifgkcaaDrawP
import Derived.Deep.RegionLaw
set_option linter.unusedVariables false
set_option linter.unusedSimpArgs false
namespace Go.Proofs.Ytfelbhpgifgkcaa
open Go.RowKit Go.Proofs.Ytfelbhpgifgkcaa.Nm

theorem PathIn.gbR {w w' : World} {v : Value} {R q : Nat} {xs : List Int} (h : PathIn w v xs) (hr : Rd w R q) (hg : w.grownBy w' (some R)) : PathIn w' v xs := by
  obtain ⟨g, cap, h1, h2, h3, h4, h5⟩ := h
  refine ⟨g, cap, h1, h2, h3, Nat.lt_of_lt_of_le h4 hg.size, fun j u hu => ?_⟩
  have hj := (List.getElem?_eq_some_iff.1 hu).1
  rw [List.length_map] at hj
  have hne : g ≠ R := by
    rintro rfl
    obtain ⟨a, n, c, hRR, _⟩ := hr
    have := h5 0 (iv xs[0]) (by rw [List.getElem?_map, List.getElem?_eq_getElem (by omega)]; rfl)
    rw [add0P] at this
    simp only [World.cell?, hRR] at this
    simp [iv] at this
  rw [add0P, World.cell?_of_block (w := w) (hg.block g h4 (fun e => hne (Option.some.inj e))), ← add0P]
  exact h5 j u hu
theorem PathIn.len {w : World} {v : Value} {xs : List Int} (h : PathIn w v xs) : ∃ a c, v = .slice a xs.length c := by
  obtain ⟨g, cap, h1, _⟩ := h
  exact ⟨_, _, h1⟩
/-- A drawn tree. -/
def TreeD (w w' : World) (v : Value) (ps : List (Fil × Value)) : Prop :=
  RowsB w' w.heap.size v ps ∧ ShortT 8 (ps.map (·.1)) ∧ ps.length ≤ 11 ∧ (∀ p ∈ ps, p.1.body.length ≤ 5) ∧ Below w.heap.size w w'
theorem below_keep {w W w' : World} {c : Nat} (h : Below c W w') (hw : w.heap.size ≤ W.heap.size) (hc : w.heap.size ≤ c) (hb : Below w.heap.size w W) : Below w.heap.size w w' := hb.trans (h.mono hc)
/-- A path stays where a cell with a slice is written. -/
theorem PathIn.set_box {w : World} {v : Value} {xs : List Int} {X : Nat} {a : Option Addr} {n c : Nat} (h : PathIn w v xs) (hx : w.cell? ⟨X, 0, none⟩ = some (.slice a n c)) (u : Value) : PathIn (w.setCell ⟨X, 0, none⟩ u) v xs := by
  obtain ⟨g, cap, h1, h2, h3, h4, h5⟩ := h
  refine ⟨g, cap, h1, h2, h3, by simpa using h4, fun j x hj => ?_⟩
  have h6 := h5 j x hj
  rw [add0P] at h6 ⊢
  have hne : (⟨g, j, none⟩ : Addr) ≠ ⟨X, 0, none⟩ := by
    intro e
    rw [e, hx] at h6
    have h7 := Option.some.inj h6
    rw [List.getElem?_map] at hj
    cases hk : xs[j]? with
    | none => rw [hk] at hj; cases hj
    | some y => rw [hk] at hj; rw [← h7] at hj; simp [iv] at hj
  rw [World.cell?_setCell_other _ _ _ _ (Ne.symm hne)]
  exact h6
set_option maxRecDepth 100000 in
set_option maxHeartbeats 800000 in
theorem spec_DrawFindIn (a : Option Addr) (n cap : Nat) (w : World) (hc : Code w w.heap.size a n cap) :
    Calls Try.prog 24 #[.slice a n cap] w fun e w' => ∃ v ps pv xs p s, e = .returned (.tuple #[.agg #[v], pv, .string (mk p), .string (mk s)]) ∧ TreeD w w' v ps ∧ PathIn w' pv xs ∧ xs.length ≤ 3 ∧ p.length ≤ 7 ∧ s.length ≤ 4 := by
  go_enter Try.func24, Try.ntmps24
  go_wp2_with fail
  refine (spec_newReader a n cap _ (code_alloc hc _)).mono ?_
  rintro e w1 ⟨rfl, hr, hb⟩
  have hz := hb.size
  have B1 := Lib.hid ((Boxed.start w #[.slice none 0 0] 25).step hb)
  have hz1 : w.heap.size + 1 ≤ w1.heap.size := by simp at hz; omega
  simp only [World.size_alloc] at hr hz ⊢
  have hRlt := hr.lt
  clear hb
  go_wp2_with fail
  refine (spec_anyTree _ 0 _ hr (by omega)).mono ?_
  rintro e w2 ⟨v, ps, rfl, hrows, hsh, hl, hb5, q2, hq2, hr2, hg2⟩
  obtain ⟨va, vc, rfl⟩ := hrows.len
  have HR2 := Lib.hid hrows
  have Hsh := Lib.hid hsh
  have Hb5 := Lib.hid hb5
  have B2 := Lib.hid (show Below (w.heap.size + 1) (w.alloc (.cells #[.slice none 0 0] 25)) w2 from below_gb (by have := B1.out; unfold Boxed at this; simpa using this) hz1 (Nat.le_refl _) hg2)
  have hz2 := hg2.size
  clear hrows hsh hb5 hg2 B1
  go_wp2_with fail
  refine (spec_anyPath _ q2 _ hr2 (by omega)).mono ?_
  rintro e w3 ⟨pv, xs, rfl, hp, hx3, q3, hq3, hr3, hg3⟩
  obtain ⟨pa, pc, rfl⟩ := hp.len
  have HP3 := Lib.hid hp
  have HR3 := Lib.hid (HR2.out.gb hg3 (by omega))
  have B3 := Lib.hid (below_gb B2.out (by omega) (Nat.le_refl _) hg3)
  have hz3 := hg3.size
  clear hg3 HR2 B2 hp
  go_wp2_with fail
  refine (spec_anyPackage _ q3 _ hr3 (by omega)).mono ?_
  rintro e w4 ⟨s4, rfl, hs4, q4, hq4, hr4, hg4⟩
  have HR4 := Lib.hid (HR3.out.gb hg4 (by omega))
  have B4 := Lib.hid (below_gb B3.out (by omega) (Nat.le_refl _) hg4)
  have hz4 := hg4.size
  have HP4 := Lib.hid (HP3.out.gbR hr3 hg4)
  clear hg4 HR3 B3 HP3
  go_wp2_with fail
  refine (spec_anyPart _ q4 _ hr4 (by omega)).mono ?_
  rintro e w5 ⟨s5, rfl, hs5, q5, hq5, hr5, hg5⟩
  have HR5 := Lib.hid (HR4.out.gb hg5 (by omega))
  have B5 := Lib.hid (below_gb B4.out (by omega) (Nat.le_refl _) hg5)
  have hz5 := hg5.size
  have HP5 := Lib.hid (HP4.out.gbR hr4 hg5)
  clear hg5 HR4 B4 HP4
  have X5 := Lib.hid (show Boxed w #[.slice none 0 0] 25 w5 from by unfold Boxed; simpa using B5.out)
  have x0 : w5.cell? ⟨w.heap.size, 0, none⟩ = some (.slice none 0 0) := X5.out.cell 0
  have xf : w5.frozen? ⟨w.heap.size, 0, none⟩ = false := by
    have := X5.out.frozen (p := ⟨w.heap.size, 0, none⟩) (by simp)
    rw [this]; simp [go_sem]
  have HPF := Lib.hid (PathIn.set_box HP5.out x0 (.slice va ps.length vc))
  generalize hpn : ps.length = pn at *
  generalize hxn : xs.length = xn at *
  go_wp2_with fail
  refine bodyPost_ret (v := .tuple #[.agg #[.slice va pn vc], .slice pa xn pc, .string (mk s4), .string (mk s5)]) (by simp [results, Try.results24, go_sem, *]) rfl ⟨_, ps, _, xs, s4, s5, rfl, ⟨((HR5.out.mono (by omega)).set_low (p := ⟨w.heap.size, 0, none⟩) (B := w.heap.size + 1) (by dsimp only; omega) _).mono (by omega), Hsh.out, by omega, Hb5.out, ?_⟩, HPF.out, by omega, hs4, hs5⟩
  have h3 := X5.out.below
  (repeat (with_reducible first | exact Below.refl _ _ | assumption | refine ba ?_ _ | refine bd ?_ | refine bdN ?_ _ | refine bs ?_ (by first | exact Nat.le_refl _ | (dsimp only; omega) | (simp; done)) _ | refine bt ?_ (by assumption)))
end Go.Proofs.Ytfelbhpgifgkcaa
