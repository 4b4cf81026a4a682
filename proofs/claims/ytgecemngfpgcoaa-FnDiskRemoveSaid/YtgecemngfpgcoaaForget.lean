/- Contracts of ForgetAll, and words for finders without directories. -/
import Derived.Test.YtgecemngfpgcoaaDisks
import Derived.Test.YtgecemngfpgcoaaMarkD
set_option linter.unusedVariables false
set_option linter.unusedSimpArgs false
namespace Go.Proofs.Ytgecemngfpgcoaa
open Go.RowKit Go.Proofs.Ytgecemngfpgcoaa.Nm

theorem dirs_nil (w : World) : DirsIn w (fun _ => True) (.slice none 0 0) [] := ⟨none, 0, rfl, by simp, by unfold maxLen; omega, fun hx => absurd hx (by simp)⟩
theorem ownDirs_nil (w : World) (B : Nat) : OwnDirs w B (.slice none 0 0) [] := ⟨World.ownsRow_nil _ _ _ _, OwnNames.nil _ _⟩
theorem ownDirs_re {w : World} {B : Nat} (h : OwnDirs w B (.slice none 0 0) []) (B' : Nat) : OwnDirs w B' (.slice none 0 0) [] := ownDirs_nil w B'
theorem dirs_turned {w w' : World} {B : Nat} {v : Value} {ps : List (Dr × Value)} {S : Nat → Prop} (h : OwnDirs w B v ps) (ht : Turned S w w') (hs : ∀ b, BlkD v ps b → ¬ S b) : OwnDirs w' B v ps :=
  ⟨owns_turned h.1 ht (fun b hb => hs b (.inl hb)), names_turned h.2 ht (fun p hp b hb => hs b (.inr ⟨p, hp, hb⟩))⟩
theorem blkD_ge {w : World} {B : Nat} {v : Value} {ps : List (Dr × Value)} (h : OwnDirs w B v ps) : ∀ b, BlkD v ps b → B ≤ b ∧ b < w.heap.size := by
  rintro b (hb | ⟨p, hp, hb⟩)
  · exact h.1.lt b hb
  · exact (h.2.1 p hp).lt b hb
set_option maxRecDepth 100000 in
set_option maxHeartbeats 1000000 in
theorem impl_ForgetAll (u : Value) (ds : List Dr) (f h : Int) (D : Nat → Prop) (w : World) (hr : DirsIn w D u ds) (hz : ShortD 2000000 ds) :
    Calls Try.prog 30 #[.agg #[u, .int .i64 f, .int .i64 h]] w fun e w' => e = .returned (.agg #[.slice none 0 0, .int .i64 (forget ⟨ds, f, h⟩).fills, .int .i64 (forget ⟨ds, f, h⟩).hits]) ∧ Below w.heap.size w w' := by
  have Hr := Lib.hid hr
  obtain ⟨ab, cb, rfl, hl', hm'⟩ := hr.len
  have Hz := Lib.hid hz
  clear hr hz hm'
  cases hok : okFnd ⟨ds, f, h⟩
  · have Hok := Lib.hid hok
    have Hv := Lib.hid (show forget ⟨ds, f, h⟩ = ⟨[], 0, 0⟩ by unfold forget; rw [hok]; rfl)
    clear hok
    go_enter Try.func30, Try.ntmps30
    go_wp2_with (go_at_call 33; refine (impl_ValidFinder _ ds f h D _ (Hr.out.below (by (repeat (with_reducible first | exact Below.refl _ _ | assumption | refine ba ?_ _ | refine bd ?_ | refine bdN ?_ _ | refine bs ?_ (by first | exact Nat.le_refl _ | (dsimp only; omega) | (simp; done)) _ | refine bt ?_ (by assumption))))) Hz.out).mono ?_; (rintro _ _ ⟨rfl, hb⟩; obtain ⟨hc, hf, hs⟩ := bcell hb); rw [Hok.out])
    refine bodyPost_ret (v := .agg #[.slice none 0 0, .int .i64 0, .int .i64 0]) (by simp [results, Try.results30, go_sem, *]) rfl ⟨by rw [Hv.out], by (repeat (with_reducible first | exact Below.refl _ _ | assumption | refine ba ?_ _ | refine bd ?_ | refine bdN ?_ _ | refine bs ?_ (by first | exact Nat.le_refl _ | (dsimp only; omega) | (simp; done)) _ | refine bt ?_ (by assumption)))⟩
  · have Hok := Lib.hid hok
    have Hv := Lib.hid (show forget ⟨ds, f, h⟩ = ⟨[], f, h⟩ by unfold forget; rw [hok]; rfl)
    clear hok
    go_enter Try.func30, Try.ntmps30
    go_wp2_with (go_at_call 33; refine (impl_ValidFinder _ ds f h D _ (Hr.out.below (by (repeat (with_reducible first | exact Below.refl _ _ | assumption | refine ba ?_ _ | refine bd ?_ | refine bdN ?_ _ | refine bs ?_ (by first | exact Nat.le_refl _ | (dsimp only; omega) | (simp; done)) _ | refine bt ?_ (by assumption))))) Hz.out).mono ?_; (rintro _ _ ⟨rfl, hb⟩; obtain ⟨hc, hf, hs⟩ := bcell hb); rw [Hok.out])
    refine bodyPost_ret (v := .agg #[.slice none 0 0, .int .i64 f, .int .i64 h]) (by simp [results, Try.results30, go_sem, *]) rfl ⟨by rw [Hv.out], by (repeat (with_reducible first | exact Below.refl _ _ | assumption | refine ba ?_ _ | refine bd ?_ | refine bdN ?_ _ | refine bs ?_ (by first | exact Nat.le_refl _ | (dsimp only; omega) | (simp; done)) _ | refine bt ?_ (by assumption)))⟩
set_option maxRecDepth 100000 in
set_option maxHeartbeats 1000000 in
theorem spec_ForgetAll (u : Value) (ds : List Dr) (f h : Int) (D : Nat → Prop) (w : World) (hr : DirsIn w D u ds) (hz : ShortD 2000000 ds) :
    Calls Try.prog 32 #[.agg #[u, .int .i64 f, .int .i64 h]] w fun e w' => e = .returned (.agg #[.slice none 0 0, .int .i64 (forget ⟨ds, f, h⟩).fills, .int .i64 (forget ⟨ds, f, h⟩).hits]) ∧ Below w.heap.size w w' := by
  have Hr := Lib.hid hr
  obtain ⟨ab, cb, rfl, hl', hm'⟩ := hr.len
  have Hz := Lib.hid hz
  clear hr hz hm'
  cases hok : okFnd ⟨ds, f, h⟩
  · have Hok := Lib.hid hok
    have Hv := Lib.hid (show forget ⟨ds, f, h⟩ = ⟨[], 0, 0⟩ by unfold forget; rw [hok]; rfl)
    clear hok
    go_enter Try.func32, Try.ntmps32
    go_wp2_with (go_at_call 76; refine (spec_validFinder _ ds f h D _ (Hr.out.below (by (repeat (with_reducible first | exact Below.refl _ _ | assumption | refine ba ?_ _ | refine bd ?_ | refine bdN ?_ _ | refine bs ?_ (by first | exact Nat.le_refl _ | (dsimp only; omega) | (simp; done)) _ | refine bt ?_ (by assumption))))) Hz.out).mono ?_; (rintro _ _ ⟨rfl, hb⟩; obtain ⟨hc, hf, hs⟩ := bcell hb); rw [Hok.out])
    refine bodyPost_ret (v := .agg #[.slice none 0 0, .int .i64 0, .int .i64 0]) (by simp [results, Try.results32, go_sem, *]) rfl ⟨by rw [Hv.out], by (repeat (with_reducible first | exact Below.refl _ _ | assumption | refine ba ?_ _ | refine bd ?_ | refine bdN ?_ _ | refine bs ?_ (by first | exact Nat.le_refl _ | (dsimp only; omega) | (simp; done)) _ | refine bt ?_ (by assumption)))⟩
  · have Hok := Lib.hid hok
    have Hv := Lib.hid (show forget ⟨ds, f, h⟩ = ⟨[], f, h⟩ by unfold forget; rw [hok]; rfl)
    clear hok
    go_enter Try.func32, Try.ntmps32
    go_wp2_with (go_at_call 76; refine (spec_validFinder _ ds f h D _ (Hr.out.below (by (repeat (with_reducible first | exact Below.refl _ _ | assumption | refine ba ?_ _ | refine bd ?_ | refine bdN ?_ _ | refine bs ?_ (by first | exact Nat.le_refl _ | (dsimp only; omega) | (simp; done)) _ | refine bt ?_ (by assumption))))) Hz.out).mono ?_; (rintro _ _ ⟨rfl, hb⟩; obtain ⟨hc, hf, hs⟩ := bcell hb); rw [Hok.out])
    refine bodyPost_ret (v := .agg #[.slice none 0 0, .int .i64 f, .int .i64 h]) (by simp [results, Try.results32, go_sem, *]) rfl ⟨by rw [Hv.out], by (repeat (with_reducible first | exact Below.refl _ _ | assumption | refine ba ?_ _ | refine bd ?_ | refine bdN ?_ _ | refine bs ?_ (by first | exact Nat.le_refl _ | (dsimp only; omega) | (simp; done)) _ | refine bt ?_ (by assumption)))⟩
end Go.Proofs.Ytgecemngfpgcoaa
