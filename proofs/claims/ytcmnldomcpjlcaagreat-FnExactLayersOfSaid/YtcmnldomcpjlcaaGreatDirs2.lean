/- Contracts of the functions that say whether a directory is there. -/
import Derived.Test.YtcmnldomcpjlcaaGreatDirs
set_option linter.unusedVariables false
set_option linter.unusedSimpArgs false
namespace Go.Proofs.YtcmnldomcpjlcaaGreat
open Go.RowKit Go.Proofs.YtcmnldomcpjlcaaGreat.Nm

theorem short2 {fs : List Fil} {A B : Nat} (h : A ≤ B) (hs : ShortT A fs) : ShortT B fs := fun f hf =>
  ⟨Nat.le_trans (hs f hf).1 h, Nat.le_trans (hs f hf).2.1 h, fun s hs' => ⟨Nat.le_trans ((hs f hf).2.2 s hs').1 h, Nat.le_trans ((hs f hf).2.2 s hs').2 h⟩⟩


set_option maxRecDepth 100000 in
set_option maxHeartbeats 1000000 in
theorem impl_dirIsThere (v : Value) (fs : List Fil) (D : Nat → Prop) (root : Int) (p : Bs) (w : World) (hr : FilsIn w D v fs) (hz : ShortT 2000000 fs) (hp : p.length ≤ 2000000) (hn : fs.length ≤ 1000000) :
    Calls Tryz.prog 228 #[.agg #[v], .int .i64 root, .string (mk p)] w fun e w' => e = .returned (.bool (p.isEmpty || decide (0 < (belowFils fs root p).length))) ∧ Below w.heap.size w w' := by
  have Hr := Lib.hid hr
  obtain ⟨aa, ca, rfl, hl, hm⟩ := hr.len
  have Hz := Lib.hid hz
  clear hr hz hm
  by_cases h0 : p = []
  · subst h0
    go_enter Tryz.func228, Tryz.ntmps228
    go_wp2_with fail
    go_ret
    exact ⟨rfl, by (repeat (with_reducible first | exact Below.refl _ _ | assumption | refine ba ?_ _ | refine bd ?_ | refine bdN ?_ _ | refine bs ?_ (by first | exact Nat.le_refl _ | (dsimp only; omega) | (simp; done)) _ | refine bt ?_ (by assumption)))⟩
  · have hd : p.isEmpty = false := by simpa using h0
    have Hd := Lib.hid hd
    have hle : (belowFils fs root p).length ≤ 1000000 := Nat.le_trans (List.length_filter_le _ _) hn
    obtain ⟨m, hm'⟩ : ∃ m, m = (belowFils fs root p).length := ⟨_, rfl⟩
    rw [← hm'] at hle
    have HM := Lib.hid hm'
    clear hm'
    go_enter Tryz.func228, Tryz.ntmps228
    go_wp2_with (go_at_call 232; refine (impl_filesBelow _ fs D root p _ (Hr.out.below (by (repeat (with_reducible first | exact Below.refl _ _ | assumption | refine ba ?_ _ | refine bd ?_ | refine bdN ?_ _ | refine bs ?_ (by first | exact Nat.le_refl _ | (dsimp only; omega) | (simp; done)) _ | refine bt ?_ (by assumption))))) Hz.out hp hn).mono ?_; rintro _ w2 ⟨v2, ps, rfl, hps, ho, hbs, hb⟩; have hpl : ps.length = (belowFils fs root p).length := (by rw [← hps, List.length_map]); obtain ⟨a2, c2, hv2⟩ := owns_shape ho; clear ho hbs hps; subst hv2; rw [hpl, ← HM.out]; clear hpl)
    go_ret
    refine ⟨ret_bool ?_, by (repeat (with_reducible first | exact Below.refl _ _ | assumption | refine ba ?_ _ | refine bd ?_ | refine bdN ?_ _ | refine bs ?_ (by first | exact Nat.le_refl _ | (dsimp only; omega) | (simp; done)) _ | refine bt ?_ (by assumption)))⟩
    rw [Hd.out, ← HM.out]
    simp


/-- A file of a root in a package that is under another one. -/
def inDir (root : Int) (p : Bs) (f : Fil) : Bool := decide (f.root = root) && !f.pack.isEmpty && under f.pack p
set_option maxRecDepth 100000 in
set_option maxHeartbeats 1000000 in
theorem spec_hasDir (v : Value) (fs : List Fil) (D : Nat → Prop) (root : Int) (p : Bs) (w : World) (hr : FilsIn w D v fs) (hz : ShortT 2000000 fs) (hp : p.length ≤ 2000000) :
    Calls Tryz.prog 155 #[.agg #[v], .int .i64 root, .string (mk p)] w fun e w' => e = .returned (.bool (dirIn fs root p)) ∧ Below w.heap.size w w' := by
  have Hr := Lib.hid hr
  obtain ⟨aa, ca, rfl, hl, hm⟩ := hr.len
  unfold maxLen at hm
  have Hz := Lib.hid hz
  have Hv := Lib.hid (show dirIn fs root p = (fs.any (inDir root p) || p.isEmpty) from rfl)
  clear hr hz
  go_enter Tryz.func155, Tryz.ntmps155
  go_wp2_with fail
  go_loopw [7] (fun iv wr => ∃ k : Nat, k ≤ fs.length ∧ iv = .int .i64 k ∧ wr = w.alloc (.cells #[.slice aa fs.length ca] 31) ∧ ∀ i (h : i < fs.length), i < k → inDir root p fs[i] = false) (fun iv _ => fs.length - (intOf iv).toNat)
  case atStart => exact ⟨0, by omega, rfl, rfl, fun i _ h => absurd h (by omega)⟩
  case round =>
    obtain ⟨k, hk, rfl, rfl, ha⟩ := hrel
    have Ha := Lib.hid ha
    clear ha
    by_cases hlt : k < fs.length
    · obtain ⟨b, off, cap, bv, e, hD, hb, hbody, c0, c1, c2, c3, c4, c5⟩ := Hr.out.at_ hlt
      simp only [Value.slice.injEq] at e
      obtain ⟨rfl, _, rfl⟩ := e
      obtain ⟨z1, z2, z3⟩ := Hz.out _ (List.getElem_mem hlt)
      have Hy := Lib.hid (fun (h : inDir root p fs[k] = true) => (show fs.any (inDir root p) = true from List.any_eq_true.2 ⟨_, List.getElem_mem hlt, h⟩))
      have Hn := Lib.hid (fun (h : inDir root p fs[k] = false) => h)
      obtain ⟨f, hf⟩ : ∃ f, f = fs[k] := ⟨_, rfl⟩
      rw [← hf] at c0 c1 c2 c3 c4 z1 z2 Hy
      have Hn := Lib.hid (fun (h : inDir root p f = false) => (show inDir root p fs[k] = false by rw [← hf]; exact h))
      clear hf hbody z3
      obtain ⟨fr, fp, fn, fi, fst, fb⟩ := f
      dsimp only at c0 c1 c2 c3 c4 z1 z2
      have Hb := Lib.hid (show inDir root p ⟨fr, fp, fn, fi, fst, fb⟩ = (decide (fr = root) && !fp.isEmpty && under fp p) from rfl)
      go_wp2_with (go_at_call 175; refine (spec_under _ _ _ (by omega) (by omega)).mono ?_; rintro _ _ ⟨rfl, rfl⟩)
      · go_roundw
        case rel =>
          refine ⟨k + 1, by omega, by go_num, trivial, fun i h1 hi => ?_⟩
          by_cases e : i = k
          · subst e; exact Hn.out (by rw [Hb.out]; simp_all)
          · exact Ha.out i h1 (by omega)
        case measure => simp [intOf]; omega
      · have h := Hy.out (by rw [Hb.out]; simp_all)
        go_ret
        refine ⟨ret_bool ?_, by (repeat (with_reducible first | exact Below.refl _ _ | assumption | refine ba ?_ _ | refine bd ?_ | refine bdN ?_ _ | refine bs ?_ (by first | exact Nat.le_refl _ | (dsimp only; omega) | (simp; done)) _ | refine bt ?_ (by assumption)))⟩
        rw [Hv.out, h]
        simp
      · go_roundw
        case rel =>
          refine ⟨k + 1, by omega, by go_num, trivial, fun i h1 hi => ?_⟩
          by_cases e : i = k
          · subst e; exact Hn.out (by rw [Hb.out]; simp_all)
          · exact Ha.out i h1 (by omega)
        case measure => simp [intOf]; omega
      · go_roundw
        case rel =>
          refine ⟨k + 1, by omega, by go_num, trivial, fun i h1 hi => ?_⟩
          by_cases e : i = k
          · subst e; exact Hn.out (by rw [Hb.out]; simp_all)
          · exact Ha.out i h1 (by omega)
        case measure => simp [intOf]; omega
    · have hv := Lib.hid (show fs.any (inDir root p) = false by
        rw [List.any_eq_false]; intro f hf
        obtain ⟨i, hi, rfl⟩ := List.getElem_of_mem hf
        simp [Ha.out i hi (by omega)])
      go_wp2_with fail
      go_ret
      refine ⟨ret_bool ?_, by (repeat (with_reducible first | exact Below.refl _ _ | assumption | refine ba ?_ _ | refine bd ?_ | refine bdN ?_ _ | refine bs ?_ (by first | exact Nat.le_refl _ | (dsimp only; omega) | (simp; done)) _ | refine bt ?_ (by assumption)))⟩
      rw [Hv.out, hv.out]
      simp
end Go.Proofs.YtcmnldomcpjlcaaGreat
