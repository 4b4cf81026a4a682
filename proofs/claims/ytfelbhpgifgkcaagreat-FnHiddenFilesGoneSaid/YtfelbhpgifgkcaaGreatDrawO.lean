/- The functions that draw a tree, a path and a name; and more for a law. Written by mkdraws.py. -/
import Derived.Test.YtfelbhpgifgkcaaGreatDrawZ
import Derived.Test.YtfelbhpgifgkcaaGreatDrawG
import Derived.Test.YtfelbhpgifgkcaaGreatDrawP
import Derived.Deep.RegionLaw
set_option linter.unusedVariables false
set_option linter.unusedSimpArgs false
namespace Go.Proofs.YtfelbhpgifgkcaaGreat
open Go.RowKit Go.Proofs.YtfelbhpgifgkcaaGreat.Nm


/-- What nameOf comes to: a tree, a path and a text. -/
def DrawName (R q c : Nat) (w : World) (e : Ending) (w' : World) : Prop :=
  ∃ v ps pv xs s, e = .returned (.tuple #[.agg #[v], pv, .string (mk s)]) ∧ RowsB w' w.heap.size v ps ∧ ShortT 8 (ps.map (·.1)) ∧ ps.length ≤ 11 ∧ (∀ p ∈ ps, p.1.body.length ≤ 5) ∧ PathIn w' pv xs ∧ xs.length ≤ 3 ∧ s.length ≤ 17 ∧ ∃ q', q' ≤ q + c ∧ Rd w' R q' ∧ w.grownBy w' (some R)
theorem PathIn.drew {w : World} {v : Value} {xs : List Int} (h : PathIn w v xs) : PathIn w.drew v xs := h.below ⟨rfl, rfl, rfl, Nat.le_refl _, fun _ _ => rfl⟩
theorem RowsB.drew {w : World} {B : Nat} {v : Value} {ps : List (Fil × Value)} (h : RowsB w B v ps) : RowsB w.drew B v ps := h.below ⟨rfl, rfl, rfl, Nat.le_refl _, fun _ _ => rfl⟩

/-- A tree, a path and a text, drawn for a law. -/
def NameD (w : World) (e : Ending) (w' : World) : Prop := ∃ v ps pv xs s, e = .returned (.tuple #[.agg #[v], pv, .string (mk s)]) ∧ TreeD w w' v ps ∧ PathIn w' pv xs ∧ xs.length ≤ 3 ∧ s.length ≤ 17
set_option maxRecDepth 100000 in
set_option maxHeartbeats 800000 in
theorem spec_DrawFoundNames (a : Option Addr) (n cap : Nat) (w : World) (hc : Code w w.heap.size a n cap) :
    Calls Tryz.prog 57 #[.slice a n cap] w fun e w' => ∃ v ps pv xs, e = .returned (.tuple #[.agg #[v], pv]) ∧ TreeD w w' v ps ∧ PathIn w' pv xs ∧ xs.length ≤ 3 := by
  go_enter Tryz.func57, Tryz.ntmps57
  go_wp2_with fail
  refine (spec_newReader a n cap _ (code_alloc hc _)).mono ?_
  rintro e w1 ⟨rfl, hr, hb⟩
  have hz := hb.size
  have B1 := Lib.hid ((Boxed.start w #[.slice none 0 0] 25).step hb)
  have hz1 : w.heap.size + 1 ≤ w1.heap.size := by simp at hz; omega
  simp only [World.size_alloc] at hr hz ⊢
  have hRlt := hr.lt
  clear hb
  go_wp2_with fail
  refine (spec_anyTree _ 0 _ hr (by omega)).mono ?_
  rintro e w2 ⟨v, ps, rfl, hrows, hsh, hl, hb5, q2, hq2, hr2, hg2⟩
  obtain ⟨va, vc, rfl⟩ := hrows.len
  have HR2 := Lib.hid hrows
  have Hsh := Lib.hid hsh
  have Hb5 := Lib.hid hb5
  have B2 := Lib.hid (show Below (w.heap.size + 1) (w.alloc (.cells #[.slice none 0 0] 25)) w2 from below_gb (by have := B1.out; unfold Boxed at this; simpa using this) hz1 (Nat.le_refl _) hg2)
  have hz2 := hg2.size
  clear hrows hsh hb5 hg2 B1
  go_wp2_with fail
  refine (spec_anyPath _ q2 _ hr2 (by omega)).mono ?_
  rintro e w3 ⟨pv, xs, rfl, hp, hx3, q3, hq3, hr3, hg3⟩
  obtain ⟨pa, pc, rfl⟩ := hp.len
  have HP3 := Lib.hid hp
  have HR3 := Lib.hid (HR2.out.gb hg3 (by omega))
  have B3 := Lib.hid (below_gb B2.out (by omega) (Nat.le_refl _) hg3)
  have hz3 := hg3.size
  clear hg3 HR2 B2 hp
  have X3 := Lib.hid (show Boxed w #[.slice none 0 0] 25 w3 from by unfold Boxed; simpa using B3.out)
  have x0 : w3.cell? ⟨w.heap.size, 0, none⟩ = some (.slice none 0 0) := X3.out.cell 0
  have xf : w3.frozen? ⟨w.heap.size, 0, none⟩ = false := by
    have := X3.out.frozen (p := ⟨w.heap.size, 0, none⟩) (by simp)
    rw [this]; simp [go_sem]
  have HPF := Lib.hid (PathIn.set_box HP3.out x0 (.slice va ps.length vc))
  generalize hpn : ps.length = pn at *
  generalize hxn : xs.length = xn at *
  go_wp2_with fail
  refine bodyPost_ret (v := .tuple #[.agg #[.slice va pn vc], .slice pa xn pc]) (by simp [results, Tryz.results57, go_sem, *]) rfl ⟨_, ps, _, xs, rfl, ⟨((HR3.out.mono (by omega)).set_low (p := ⟨w.heap.size, 0, none⟩) (B := w.heap.size + 1) (by dsimp only; omega) _).mono (by omega), Hsh.out, by omega, Hb5.out, ?_⟩, HPF.out, by omega⟩
  have h3 := X3.out.below
  (repeat (with_reducible first | exact Below.refl _ _ | assumption | refine ba ?_ _ | refine bd ?_ | refine bdN ?_ _ | refine bs ?_ (by first | exact Nat.le_refl _ | (dsimp only; omega) | (simp; done)) _ | refine bt ?_ (by assumption)))
set_option maxRecDepth 100000 in
set_option maxHeartbeats 400000 in
theorem spec_DrawHiddenFiles (a : Option Addr) (n cap : Nat) (w : World) (hc : Code w w.heap.size a n cap) :
    Calls Tryz.prog 13 #[.slice a n cap] w fun e w' => ∃ v ps pv xs, e = .returned (.tuple #[.agg #[v], pv]) ∧ TreeD w w' v ps ∧ PathIn w' pv xs ∧ xs.length ≤ 3 := by
  go_enter Tryz.func13, Tryz.ntmps13
  go_wp2_with fail
  refine (spec_DrawFoundNames a n cap _ (code_alloc hc _)).mono ?_
  rintro e w1 ⟨v, ps, pv, xs, rfl, ⟨hrows, hsh, hl, hb5, hb⟩, hp, hx3⟩
  obtain ⟨va, vc, rfl⟩ := hrows.len
  obtain ⟨pa, pc, rfl⟩ := hp.len
  have HR := Lib.hid hrows
  have Hsh := Lib.hid hsh
  have Hb5 := Lib.hid hb5
  have X1 := Lib.hid ((Boxed.start w #[.slice none 0 0] 25).step hb)
  have x0 : w1.cell? ⟨w.heap.size, 0, none⟩ = some (.slice none 0 0) := X1.out.cell 0
  have xf : w1.frozen? ⟨w.heap.size, 0, none⟩ = false := by
    have := X1.out.frozen (p := ⟨w.heap.size, 0, none⟩) (by simp)
    rw [this]; simp [go_sem]
  have HPF := Lib.hid (PathIn.set_box hp x0 (.slice va ps.length vc))
  clear hrows hsh hb5 hb hp
  generalize hpn : ps.length = pn at *
  generalize hxn : xs.length = xn at *
  go_wp2_with fail
  refine bodyPost_ret (v := .tuple #[.agg #[.slice va pn vc], .slice pa xn pc]) (by simp [results, Tryz.results13, go_sem, *]) rfl ⟨_, ps, _, xs, rfl, ⟨((HR.out.mono (by simp)).set_low (p := ⟨w.heap.size, 0, none⟩) (B := w.heap.size + 1) (by dsimp only; omega) _).mono (by omega), Hsh.out, by omega, Hb5.out, ?_⟩, HPF.out, by omega⟩
  have h3 := X1.out.below
  (repeat (with_reducible first | exact Below.refl _ _ | assumption | refine ba ?_ _ | refine bd ?_ | refine bdN ?_ _ | refine bs ?_ (by first | exact Nat.le_refl _ | (dsimp only; omega) | (simp; done)) _ | refine bt ?_ (by assumption)))
end Go.Proofs.YtfelbhpgifgkcaaGreat
