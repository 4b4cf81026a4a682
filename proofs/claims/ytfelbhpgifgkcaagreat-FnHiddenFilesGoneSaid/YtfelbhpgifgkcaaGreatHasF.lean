/- Contract of the program's function that says whether a valid tree has a file with an index. -/
import Derived.Test.YtfelbhpgifgkcaaGreatTrees
set_option linter.unusedVariables false
set_option linter.unusedSimpArgs false
namespace Go.Proofs.YtfelbhpgifgkcaaGreat
open Go.RowKit Go.Proofs.YtfelbhpgifgkcaaGreat.Nm

set_option maxRecDepth 100000 in
set_option maxHeartbeats 400000 in
theorem impl_hasFile (v : Value) (fs : List Fil) (D : Nat → Prop) (i : Int) (w : World) (hr : FilsIn w D v fs) (hz : ShortT 8000000 fs) (hn : fs.length ≤ 9000000000) :
    Calls Tryz.prog 45 #[.agg #[v], .int .i64 i] w fun e w' => e = .returned (.bool (okTree fs && inr i 0 ((fs.length : Int) - 1))) ∧ Below w.heap.size w w' := by
  have Hr := Lib.hid hr
  have Hz := Lib.hid hz
  obtain ⟨aa, ca, rfl, hl, hm⟩ := hr.len
  clear hr hz hl hm
  cases h1 : okTree fs
  · have H1 := Lib.hid h1
    clear h1
    go_enter Tryz.func45, Tryz.ntmps45
    go_wp2_with (go_at_call 96; refine (impl_ValidTree _ fs D _ (Hr.out.below (by (repeat (with_reducible first | exact Below.refl _ _ | assumption | refine ba ?_ _ | refine bd ?_ | refine bdN ?_ _ | refine bs ?_ (by first | exact Nat.le_refl _ | (dsimp only; omega) | (simp; done)) _ | refine bt ?_ (by assumption))))) Hz.out).mono ?_; (rintro _ _ ⟨rfl, hb⟩; obtain ⟨hc, hf, hs⟩ := bcell hb); rw [H1.out])
    go_ret
    exact ⟨rfl, by (repeat (with_reducible first | exact Below.refl _ _ | assumption | refine ba ?_ _ | refine bd ?_ | refine bdN ?_ _ | refine bs ?_ (by first | exact Nat.le_refl _ | (dsimp only; omega) | (simp; done)) _ | refine bt ?_ (by assumption)))⟩
  · have H1 := Lib.hid h1
    clear h1
    go_enter Tryz.func45, Tryz.ntmps45
    go_wp2_with (first
      | (go_at_call 96; refine (impl_ValidTree _ fs D _ (Hr.out.below (by (repeat (with_reducible first | exact Below.refl _ _ | assumption | refine ba ?_ _ | refine bd ?_ | refine bdN ?_ _ | refine bs ?_ (by first | exact Nat.le_refl _ | (dsimp only; omega) | (simp; done)) _ | refine bt ?_ (by assumption))))) Hz.out).mono ?_; (rintro _ _ ⟨rfl, hb⟩; obtain ⟨hc, hf, hs⟩ := bcell hb); rw [H1.out])
      | (go_at_call 97; refine (impl_inRange _ _ _).mono ?_; rintro _ _ ⟨rfl, rfl⟩))
    go_ret
    exact ⟨rfl, by (repeat (with_reducible first | exact Below.refl _ _ | assumption | refine ba ?_ _ | refine bd ?_ | refine bdN ?_ _ | refine bs ?_ (by first | exact Nat.le_refl _ | (dsimp only; omega) | (simp; done)) _ | refine bt ?_ (by assumption)))⟩
end Go.Proofs.YtfelbhpgifgkcaaGreat
