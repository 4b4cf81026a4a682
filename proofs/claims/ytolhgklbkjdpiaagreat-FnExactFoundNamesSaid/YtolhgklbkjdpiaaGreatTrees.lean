/- Contracts of the functions that say whether a tree is valid. -/
import Derived.Test.YtolhgklbkjdpiaaGreatPlaces
import Derived.Deep.RegionHeld3
import Derived.Deep.RegionLaw
set_option linter.unusedVariables false
set_option linter.unusedSimpArgs false
namespace Go.Proofs.YtolhgklbkjdpiaaGreat
open Go.RowKit Go.Proofs.YtolhgklbkjdpiaaGreat.Nm

theorem okTree_no (fs : List Fil) (k : Nat) (h : k < fs.length) (hv : okFil fs[k] = false) : okTree fs = false := by
  have : fs.all okFil = false := by rw [List.all_eq_false]; exact ⟨_, List.getElem_mem h, by simp [hv]⟩
  simp [okTree, this]
theorem all_okFil (fs : List Fil) (ha : ∀ i (h : i < fs.length), okFil fs[i] = true) : fs.all okFil = true := by
  rw [List.all_eq_true]; intro s hs
  obtain ⟨i, hi, rfl⟩ := List.getElem_of_mem hs
  exact ha i hi
theorem okTree_long (fs : List Fil) (h : 12 < fs.length) : okTree fs = false := by
  simp [okTree]; omega

theorem okFil_pl {f : Fil} (h : okFil f = true) : okPl (place f) := by
  unfold okFil at h
  simp only [Bool.and_eq_true, inr, decide_eq_true_eq] at h
  obtain ⟨⟨⟨⟨h1, _⟩, h2⟩, _⟩, h3⟩ := h
  refine ⟨h1, ?_, ?_⟩
  · have := vpk_len h2; show f.pack.length ≤ _; omega
  · show f.name.length ≤ _
    split at h3
    · simp only [Bool.and_eq_true] at h3
      have : f.name = [] := by simpa using h3.2
      rw [this]; simp
    · simp only [Bool.and_eq_true] at h3
      have := (vp_len h3.1).2; omega
theorem okPls_of {fs : List Fil} (h : fs.all okFil = true) : OkPls fs := fun f hf => okFil_pl (List.all_eq_true.1 h f hf)
theorem okTree_dedup {fs : List Fil} (h : fs.all okFil = true) (hl : fs.length ≤ 12) : ((((dedup (fs.map place)).length : Nat) : Int) == ((fs.length : Nat) : Int)) = okTree fs := by
  have e := dedup_len (fs.map place)
  rw [List.length_map] at e
  have : okTree fs = decide (fs.map place).Nodup := by simp [okTree, h, hl]
  rw [this, Bool.eq_iff_iff]
  simp only [beq_iff_eq, decide_eq_true_eq, ← e]
  omega

set_option maxRecDepth 100000 in
set_option maxHeartbeats 1000000 in
theorem impl_ValidTree (v : Value) (fs : List Fil) (D : Nat → Prop) (w : World) (hr : FilsIn w D v fs) (hz : ShortT 8000000 fs) :
    Calls Tryz.prog 60 #[.agg #[v]] w fun e w' => e = .returned (.bool (okTree fs)) ∧ Below w.heap.size w w' := by
  have Hr := Lib.hid hr
  obtain ⟨aa, ca, rfl, hl, hm⟩ := hr.len
  unfold maxLen at hm
  have Hz := Lib.hid hz
  clear hr hz
  by_cases h12 : (12 : Int) < (fs.length : Int)
  · have Hv := Lib.hid (okTree_long fs (by omega))
    go_enter Tryz.func60, Tryz.ntmps60
    go_wp2_with fail
    go_ret
    rw [Hv.out]
    exact ⟨rfl, by (repeat (with_reducible first | exact Below.refl _ _ | assumption | refine ba ?_ _ | refine bd ?_ | refine bdN ?_ _ | refine bs ?_ (by first | exact Nat.le_refl _ | (dsimp only; omega) | (simp; done)) _ | refine bt ?_ (by assumption)))⟩
  · go_enter Tryz.func60, Tryz.ntmps60
    go_wp2_with fail
    go_loopw [12] (fun iv wr => ∃ k : Nat, k ≤ fs.length ∧ iv = .int .i64 k ∧ Boxed w #[.slice aa fs.length ca] 31 wr ∧ ∀ i (h : i < fs.length), i < k → okFil fs[i] = true) (fun iv _ => fs.length - (intOf iv).toNat)
    case atStart => exact ⟨0, by omega, rfl, Boxed.start _ _ _, fun i _ h => absurd h (by omega)⟩
    case round =>
      obtain ⟨k, hk, rfl, hbx, ha⟩ := hrel
      have hbel := hbx.below
      have Hbx := Lib.hid hbx
      clear hbx
      have Ha := Lib.hid ha
      clear ha
      by_cases hlt : k < fs.length
      · obtain ⟨b, off, cap, bv, e, hD, hb, hbody, c0, c1, c2, c3, c4, c5⟩ := (Hr.out.below hbel).at_ hlt
        simp only [Value.slice.injEq] at e
        obtain ⟨rfl, _, rfl⟩ := e
        obtain ⟨ba', bc', rfl, hbl, hbm⟩ := hbody.len
        obtain ⟨z1, z2, z3⟩ := Hz.out _ (List.getElem_mem hlt)
        have Hz3 := Lib.hid z3
        have Hbody := Lib.hid hbody
        have Hn := Lib.hid (okTree_no fs k hlt)
        obtain ⟨f, hf⟩ : ∃ f, f = fs[k] := ⟨_, rfl⟩
        rw [← hf] at c0 c1 c2 c3 c4 c5 z1 z2 Hz3 Hn Hbody
        have Hy := Lib.hid (fun (h : okFil f = true) => (show okFil fs[k] = true by rw [← hf]; exact h))
        clear hf hbody hbm hbl z3
        obtain ⟨fr, fp, fn, fi, fst, fb⟩ := f
        dsimp only at c0 c1 c2 c3 c4 c5 z1 z2
        go_wp2_with (go_at_call 86; refine (impl_validFile _ _ _ _ _ _ fb D _ z1 z2 (Hbody.out.below (by (repeat (with_reducible first | exact Below.refl _ _ | assumption | refine ba ?_ _ | refine bd ?_ | refine bdN ?_ _ | refine bs ?_ (by first | exact Nat.le_refl _ | (dsimp only; omega) | (simp; done)) _ | refine bt ?_ (by assumption))))) Hz3.out).mono ?_; (rintro _ _ ⟨rfl, hb⟩; obtain ⟨hc, hf, hs⟩ := bcell hb))
        · have h : (!okFil ⟨fr, fp, fn, fi, fst, fb⟩) = true := by assumption
          go_ret
          rw [Hn.out (by simpa using h)]
          exact ⟨rfl, by (repeat (with_reducible first | exact Below.refl _ _ | assumption | refine ba ?_ _ | refine bd ?_ | refine bdN ?_ _ | refine bs ?_ (by first | exact Nat.le_refl _ | (dsimp only; omega) | (simp; done)) _ | refine bt ?_ (by assumption)))⟩
        · have h : (!okFil ⟨fr, fp, fn, fi, fst, fb⟩) = false := by assumption
          go_roundw
          case rel =>
            refine ⟨k + 1, by omega, by go_num, Hbx.out.step (by (repeat (with_reducible first | exact Below.refl _ _ | assumption | refine ba ?_ _ | refine bd ?_ | refine bdN ?_ _ | refine bs ?_ (by first | exact Nat.le_refl _ | (dsimp only; omega) | (simp; done)) _ | refine bt ?_ (by assumption)))), fun i h1 hi => ?_⟩
            by_cases e : i = k
            · subst e; exact Hy.out (by simpa using h)
            · exact Ha.out i h1 (by omega)
          case measure => simp [intOf]; omega
      · have hall := all_okFil fs (fun i h => Ha.out i h (by omega))
        have Ho := Lib.hid (okPls_of hall)
        have Hv := Lib.hid (okTree_dedup hall (by omega))
        have hbox : wr.cell? ⟨w.heap.size, 0, none⟩ = some (.slice aa fs.length ca) := Hbx.out.cell 0
        have hsz := Hbx.out.lt
        have hbe := Lib.hid hbel
        clear hall
        go_wp2_with fail
        go_region_law (first
          | (refine step_plLen _ rfl _ rfl _ _ _ rfl hpl ?_)
          | (go_simp; go_at_call 87; refine (impl_placesOf _ fs D _ (Hr.out.below (by have h := hbe.out; (repeat (with_reducible first | exact Below.refl _ _ | assumption | refine ba ?_ _ | refine bd ?_ | refine bdN ?_ _ | refine bs ?_ (by first | exact Nat.le_refl _ | (dsimp only; omega) | (simp; done)) _ | refine bt ?_ (by assumption))))) Ho.out (by omega)).mono ?_; rintro e w' ⟨mb, rfl, hmb, hpl, hbm⟩; have hbox2 := (hbm.cell (p := ⟨w.heap.size, 0, none⟩) hsz).trans hbox))
        all_goals
          go_wp2_with fail
          go_ret
          refine ⟨ret_bool ?_, by have h := hbe.out; (repeat (with_reducible first | exact Below.refl _ _ | assumption | refine ba ?_ _ | refine bd ?_ | refine bdN ?_ _ | refine bs ?_ (by first | exact Nat.le_refl _ | (dsimp only; omega) | (simp; done)) _ | refine bt ?_ (by assumption)))⟩
          exact Hv.out
end Go.Proofs.YtolhgklbkjdpiaaGreat
