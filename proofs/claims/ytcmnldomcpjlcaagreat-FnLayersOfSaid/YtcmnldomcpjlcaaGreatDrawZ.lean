/- The functions that draw a tree, and what else a law takes. Written by mkdraws.py. -/
import Derived.Test.YtcmnldomcpjlcaaGreatDrawY
import Derived.Test.YtcmnldomcpjlcaaGreatDrawF
import Derived.Test.YtcmnldomcpjlcaaGreatDrawP
import Derived.Deep.RegionLaw
import Derived.Test.YtcmnldomcpjlcaaGreatKin
import Derived.Deep.DeepCutAuto
import Derived.Deep.CutBlock
set_option linter.unusedVariables false
set_option linter.unusedSimpArgs false
namespace Go.Proofs.YtcmnldomcpjlcaaGreat
open Go.RowKit Go.Proofs.YtcmnldomcpjlcaaGreat.Nm

theorem PathIn.gbR {w w' : World} {v : Value} {R q : Nat} {xs : List Int} (h : PathIn w v xs) (hr : Rd w R q) (hg : w.grownBy w' (some R)) : PathIn w' v xs := by
  obtain ⟨g, cap, h1, h2, h3, h4, h5⟩ := h
  refine ⟨g, cap, h1, h2, h3, Nat.lt_of_lt_of_le h4 hg.size, fun j u hu => ?_⟩
  have hj := (List.getElem?_eq_some_iff.1 hu).1
  rw [List.length_map] at hj
  have hne : g ≠ R := by
    rintro rfl
    obtain ⟨a, n, c, hRR, _⟩ := hr
    have := h5 0 (iv xs[0]) (by rw [List.getElem?_map, List.getElem?_eq_getElem (by omega)]; rfl)
    rw [add0P] at this
    simp only [World.cell?, hRR] at this
    simp [iv] at this
  rw [add0P, World.cell?_of_block (w := w) (hg.block g h4 (fun e => hne (Option.some.inj e))), ← add0P]
  exact h5 j u hu
theorem PathIn.len {w : World} {v : Value} {xs : List Int} (h : PathIn w v xs) : ∃ a c, v = .slice a xs.length c := by
  obtain ⟨g, cap, h1, _⟩ := h
  exact ⟨_, _, h1⟩
/-- A drawn tree. -/
def TreeD (w w' : World) (v : Value) (ps : List (Fil × Value)) : Prop :=
  RowsB w' w.heap.size v ps ∧ ShortT 8 (ps.map (·.1)) ∧ ps.length ≤ 11 ∧ (∀ p ∈ ps, p.1.body.length ≤ 5) ∧ Below w.heap.size w w'
theorem below_keep {w W w' : World} {c : Nat} (h : Below c W w') (hw : w.heap.size ≤ W.heap.size) (hc : w.heap.size ≤ c) (hb : Below w.heap.size w W) : Below w.heap.size w w' := hb.trans (h.mono hc)
/-- A path stays where a cell with a slice is written. -/
theorem PathIn.set_box {w : World} {v : Value} {xs : List Int} {X : Nat} {a : Option Addr} {n c : Nat} (h : PathIn w v xs) (hx : w.cell? ⟨X, 0, none⟩ = some (.slice a n c)) (u : Value) : PathIn (w.setCell ⟨X, 0, none⟩ u) v xs := by
  obtain ⟨g, cap, h1, h2, h3, h4, h5⟩ := h
  refine ⟨g, cap, h1, h2, h3, by simpa using h4, fun j x hj => ?_⟩
  have h6 := h5 j x hj
  rw [add0P] at h6 ⊢
  have hne : (⟨g, j, none⟩ : Addr) ≠ ⟨X, 0, none⟩ := by
    intro e
    rw [e, hx] at h6
    have h7 := Option.some.inj h6
    rw [List.getElem?_map] at hj
    cases hk : xs[j]? with
    | none => rw [hk] at hj; cases hj
    | some y => rw [hk] at hj; rw [← h7] at hj; simp [iv] at hj
  rw [World.cell?_setCell_other _ _ _ _ (Ne.symm hne)]
  exact h6

/-! ### The function that draws a tree and a mode for a law. -/

/-! ### The functions that draw a tree, a path and a name; and more for a law. Written by mkdraws.py. -/
/-- What nameOf comes to: a tree, a path and a text. -/
def DrawName (R q c : Nat) (w : World) (e : Ending) (w' : World) : Prop :=
  ∃ v ps pv xs s, e = .returned (.tuple #[.agg #[v], pv, .string (mk s)]) ∧ RowsB w' w.heap.size v ps ∧ ShortT 8 (ps.map (·.1)) ∧ ps.length ≤ 11 ∧ (∀ p ∈ ps, p.1.body.length ≤ 5) ∧ PathIn w' pv xs ∧ xs.length ≤ 3 ∧ s.length ≤ 17 ∧ ∃ q', q' ≤ q + c ∧ Rd w' R q' ∧ w.grownBy w' (some R)
theorem PathIn.drew {w : World} {v : Value} {xs : List Int} (h : PathIn w v xs) : PathIn w.drew v xs := h.below ⟨rfl, rfl, rfl, Nat.le_refl _, fun _ _ => rfl⟩
theorem RowsB.drew {w : World} {B : Nat} {v : Value} {ps : List (Fil × Value)} (h : RowsB w B v ps) : RowsB w.drew B v ps := h.below ⟨rfl, rfl, rfl, Nat.le_refl _, fun _ _ => rfl⟩
set_option maxRecDepth 100000 in
set_option maxHeartbeats 4000000 in
theorem spec_nameOf (R q : Nat) (w : World) (hr : Rd w R q) (hq : q ≤ 100000) :
    Calls Tryz.prog 83 #[.pointer (some ⟨R, 0, none⟩)] w (DrawName R q 622 w) := by
  have hR := hr.lt
  go_enter Tryz.func83, Tryz.ntmps83
  go_wp2_with fail
  have d0 := Dst.start hR #[.slice none 0 0] 31
  refine (spec_anyTree R q _ (hr.alloc _) (by omega)).mono ?_
  rintro e w1 ⟨v, ps, rfl, hrows, hsh, hl, hb5, q1, hq1, hr1, hg1⟩
  obtain ⟨va, vc, rfl⟩ := hrows.len
  have Hsh := Lib.hid hsh
  have Hb5 := Lib.hid hb5
  have D1 := Lib.hid (d0.step hg1)
  have hR1 := hr1.lt
  have hz1 : w.heap.size + 1 ≤ w1.heap.size := by have := hg1.size; simpa using this
  have HR1 := Lib.hid (hrows.mono (B' := w.heap.size + 1) (by simp))
  clear hrows hsh hb5 hg1 d0
  have E1 : Dst w R w1.heap.size #[.slice va ps.length vc] (w1.alloc (.cells #[.slice va ps.length vc] 31)) := by
    obtain ⟨h1, h2, h3, h4, h5⟩ := Dst.start (w := w1) hR1 #[.slice va ps.length vc] 31
    exact ⟨h1, h2, gb_trans D1.out.2.2.1 h3, h4, by omega⟩
  have HR2 := Lib.hid (HR1.out.below (ba (Below.refl _ _) (.cells #[.slice va ps.length vc] 31)))
  have D2 := Lib.hid (D1.out.alloc (.cells #[.slice va ps.length vc] 31))
  have hr2 := hr1.alloc (.cells #[.slice va ps.length vc] 31)
  go_wp2_with fail
  refine (spec_anyPath R q1 _ hr2 (by omega)).mono ?_
  rintro e w3 ⟨pv, xs, rfl, hp, hx3, q3, hq3, hr3, hg3⟩
  obtain ⟨pa, pc, rfl⟩ := hp.len
  have HP3 := Lib.hid hp
  have HR3 := Lib.hid (HR2.out.gb hg3 (by omega))
  have D3 := Lib.hid (D2.out.step hg3)
  have E3 := Lib.hid (E1.step hg3)
  have hz3 : w1.heap.size + 1 ≤ w3.heap.size := by have := hg3.size; simpa using this
  have hR3 := hr3.lt
  clear hp hg3 HR2 D2 E1 hr2 HR1 D1
  obtain ⟨X, hX⟩ : ∃ X, X = w1.heap.size := ⟨_, rfl⟩
  rw [← hX] at E3 hz3 ⊢
  have hXw : w.heap.size ≠ X := by omega
  have hXw' : X ≠ w.heap.size := by omega
  clear hX hz1 hR1 hr1 hr
  have y0 : w3.cell? ⟨X, 0, none⟩ = some (.slice va ps.length vc) := E3.out.1.2 0
  have x0 : w3.cell? ⟨w.heap.size, 0, none⟩ = some (.slice none 0 0) := D3.out.1.2 0
  have xf : w3.frozen? ⟨w.heap.size, 0, none⟩ = false := D3.out.2.1 0
  have fin : ∀ (W : World) (q' : Nat) (s : Bs), RowsB W (w.heap.size + 1) (.slice va ps.length vc) ps → PathIn W (.slice pa xs.length pc) xs → Dst w R w.heap.size #[.slice none 0 0] W → Rd W R q' → q' ≤ q + 622 → s.length ≤ 17 →
      DrawName R q 622 w (.returned (.tuple #[.agg #[.slice va ps.length vc], .slice pa xs.length pc, .string (mk s)])) (W.setCell ⟨w.heap.size, 0, none⟩ (.slice va ps.length vc)) := fun W q' s h1 h2 h3 h4 h5 h6 =>
    ⟨_, ps, _, xs, s, rfl, (h1.set_low (by dsimp only; omega) _).mono (by omega), Hsh.out, by omega, Hb5.out, PathIn.set_box h2 (h3.1.2 0) _, hx3, h6, q', h5, h4.set (by dsimp only; omega) _, gb_set h3.2.2.1 (by dsimp only; omega) _⟩
  have Fin := Lib.hid fin
  clear fin
  by_cases hp0 : 0 < ps.length
  · have hp0i : (0 : Int) < (ps.length : Int) := by omega
    go_wp2_with fail
    refine (reader_pick R q3 _ _ hr3 (by omega) (by omega)).mono ?_
    rintro e w4 ⟨j, rfl, hj0, hj, hr4, hg4⟩
    have HP4 := Lib.hid (HP3.out.gbR hr3 hg4)
    have HR4 := Lib.hid (HR3.out.gb hg4 (by omega))
    have D4 := Lib.hid (D3.out.step hg4)
    have E4 := Lib.hid (E3.out.step hg4)
    have hz4 := hg4.size
    have y4 : w4.cell? ⟨X, 0, none⟩ = some (.slice va ps.length vc) := E4.out.1.2 0
    have x4 : w4.cell? ⟨w.heap.size, 0, none⟩ = some (.slice none 0 0) := D4.out.1.2 0
    have xf4 : w4.frozen? ⟨w.heap.size, 0, none⟩ = false := D4.out.2.1 0
    clear hg4 HP3 HR3 D3 E3 y0 x0 xf hr3 hj
    by_cases hj1 : 0 < j
    · go_wp2_with fail
      go_region_law (first
        | (go_simp; go_at_call 130; refine (reader_pick R (q3 + 1) (ps.length : Int) _ (hr4.drew) (by omega) (by omega)).mono ?_; rintro e w5 ⟨i, rfl, hi0, hi, hr5, hg5⟩; obtain ⟨k, rfl⟩ := Int.eq_ofNat_of_zero_le hi0; have hk : k < ps.length := (by rcases hi with h | h <;> omega); have HP5 := Lib.hid (HP4.out.drew.gbR hr4.drew hg5); have HR5 := Lib.hid (HR4.out.drew.gb hg5 (by omega)); have D5 := Lib.hid (D4.out.drew.step hg5); have E5 := Lib.hid (E4.out.drew.step hg5); have Hr5 := Lib.hid hr5; have y5 : w5.cell? ⟨X, 0, none⟩ = some (.slice va ps.length vc) := E5.out.1.2 0; have z5 : w5.cell? ⟨w.heap.size, 0, none⟩ = some (.slice none 0 0) := D5.out.1.2 0; have zf5 : w5.frozen? ⟨w.heap.size, 0, none⟩ = false := D5.out.2.1 0; obtain ⟨g, cap, e1, hg, _⟩ := HR5.out.1.form (by omega); simp only [Value.slice.injEq] at e1; obtain ⟨rfl, _, rfl⟩ := e1; obtain ⟨⟨c0, c1, c2, c3, c4, c5⟩, _⟩ := own6 HR5.out.1 k hk; have Hz := Lib.hid (show ShortF 8 ps[k].1 from Hsh.out _ (List.mem_map.2 ⟨ps[k], List.getElem_mem hk, rfl⟩)); obtain ⟨f, hf⟩ : ∃ f, f = ps[k] := ⟨_, rfl⟩; rw [← hf] at c0 c1 c2 c3 c4 c5 Hz; obtain ⟨⟨fr, fp, fn, fi, fst, fb⟩, bv⟩ := f; dsimp only at c0 c1 c2 c3 c4 c5; clear hg5 hr5 hf)
        | (go_simp; go_at_call 131; refine (spec_moduleName _ _ _ _ _ _ fb _ (by have := Hz.out.1; dsimp only at this; omega) (by have := Hz.out.2.1; dsimp only at this; omega)).mono ?_; rintro e w6 ⟨rfl, hb6⟩; have HX6 := Lib.hid hb6; have D6 := Lib.hid (D5.out.step (gb_below hb6 _)); have z6 : w6.cell? ⟨w.heap.size, 0, none⟩ = some (.slice none 0 0) := D6.out.1.2 0; have zf6 : w6.frozen? ⟨w.heap.size, 0, none⟩ = false := D6.out.2.1 0; have E6 := Lib.hid (E5.out.step (gb_below hb6 _)); have y6 : w6.cell? ⟨X, 0, none⟩ = some (.slice (some ⟨g, 0, none⟩) ps.length vc) := E6.out.1.2 0; clear hb6))
      all_goals
        have HB6 := Lib.hid HX6.out
        have HP6 := Lib.hid (HP5.out.below HB6.out)
        have HR6 := Lib.hid (HR5.out.below HB6.out)
        have Hr6 := Lib.hid (Hr5.out.below HB6.out (Hr5.out.lt))
        have hml := modName_len ⟨fr, fp, fn, fi, fst, fb⟩
        have hz1 := Hz.out.1
        have hz2 := Hz.out.2.1
        dsimp only at hml hz1 hz2
        have Hml := Lib.hid (show (modName ⟨fr, fp, fn, fi, fst, fb⟩).length ≤ 17 by omega)
        generalize modName ⟨fr, fp, fn, fi, fst, fb⟩ = s at *
        go_wp2_with fail
        exact bodyPost_ret (v := .tuple #[.agg #[.slice (some ⟨g, 0, none⟩) ps.length vc], .slice pa xs.length pc, .string (mk s)]) (by simp [results, Tryz.results83, go_sem, z6]) rfl (Fin.out w6 _ s HR6.out HP6.out D6.out Hr6.out (by omega) Hml.out)
    · have hj1b : decide (0 < j) = false := decide_eq_false hj1
      go_wp2_with fail
      go_region_law (first
        | (go_simp; go_at_call 132; refine (spec_anyName R (q3 + 1) _ (hr4.drew) (by omega)).mono ?_; rintro e w5 ⟨s, rfl, hs5, q5, hq5, hr5, hg5⟩; have HP5 := Lib.hid (HP4.out.drew.gbR hr4.drew hg5); have HR5 := Lib.hid (HR4.out.drew.gb hg5 (by omega)); have D5 := Lib.hid (D4.out.drew.step hg5); have E5 := Lib.hid (E4.out.drew.step hg5); have Hr5 := Lib.hid hr5; have y5 : w5.cell? ⟨X, 0, none⟩ = some (.slice va ps.length vc) := E5.out.1.2 0; have z5 : w5.cell? ⟨w.heap.size, 0, none⟩ = some (.slice none 0 0) := D5.out.1.2 0; have zf5 : w5.frozen? ⟨w.heap.size, 0, none⟩ = false := D5.out.2.1 0; clear hg5 hr5))
      all_goals
        go_wp2_with fail
        exact bodyPost_ret (v := .tuple #[.agg #[.slice va ps.length vc], .slice pa xs.length pc, .string (mk s)]) (by simp [results, Tryz.results83, go_sem, z5]) rfl (Fin.out w5 _ s HR5.out HP5.out D5.out Hr5.out (by omega) (by omega))
  · have hp0i : ¬ (0 : Int) < (ps.length : Int) := by omega
    have hp0b : decide ((0 : Int) < (ps.length : Int)) = false := decide_eq_false hp0i
    go_wp2_with fail
    go_region_law (first
      | (go_simp; go_at_call 132; refine (spec_anyName R q3 _ (hr3.drew) (by omega)).mono ?_; rintro e w5 ⟨s, rfl, hs5, q5, hq5, hr5, hg5⟩; have HP5 := Lib.hid (HP3.out.drew.gbR hr3.drew hg5); have HR5 := Lib.hid (HR3.out.drew.gb hg5 (by omega)); have D5 := Lib.hid (D3.out.drew.step hg5); have E5 := Lib.hid (E3.out.drew.step hg5); have Hr5 := Lib.hid hr5; have y5 : w5.cell? ⟨X, 0, none⟩ = some (.slice va ps.length vc) := E5.out.1.2 0; have z5 : w5.cell? ⟨w.heap.size, 0, none⟩ = some (.slice none 0 0) := D5.out.1.2 0; have zf5 : w5.frozen? ⟨w.heap.size, 0, none⟩ = false := D5.out.2.1 0; clear hg5 hr5))
    all_goals
      go_wp2_with fail
      exact bodyPost_ret (v := .tuple #[.agg #[.slice va ps.length vc], .slice pa xs.length pc, .string (mk s)]) (by simp [results, Tryz.results83, go_sem, z5]) rfl (Fin.out w5 _ s HR5.out HP5.out D5.out Hr5.out (by omega) (by omega))

/-- A tree, a path and a text, drawn for a law. -/
def NameD (w : World) (e : Ending) (w' : World) : Prop := ∃ v ps pv xs s, e = .returned (.tuple #[.agg #[v], pv, .string (mk s)]) ∧ TreeD w w' v ps ∧ PathIn w' pv xs ∧ xs.length ≤ 3 ∧ s.length ≤ 17

/-! ### Draws of a tree, a path and a name for the laws of chapter 7. Written by mkdrawq.py after DrawO. -/
set_option maxRecDepth 100000 in
set_option maxHeartbeats 800000 in
theorem spec_DrawReachOf (a : Option Addr) (n cap : Nat) (w : World) (hc : Code w w.heap.size a n cap) :
    Calls Tryz.prog 37 #[.slice a n cap] w (NameD w) := by
  go_enter Tryz.func37, Tryz.ntmps37
  go_wp2_with fail
  refine (spec_newReader a n cap _ (code_alloc hc _)).mono ?_
  rintro e w1 ⟨rfl, hr, hb⟩
  have hz := hb.size
  have B1 := Lib.hid ((Boxed.start w #[.slice none 0 0] 31).step hb)
  have hz1 : w.heap.size + 1 ≤ w1.heap.size := by simp at hz; omega
  simp only [World.size_alloc] at hr hz ⊢
  have hRlt := hr.lt
  clear hb
  go_wp2_with fail
  refine (spec_nameOf _ 0 _ hr (by omega)).mono ?_
  rintro e w2 ⟨v, ps, pv, xs, s, rfl, hrows, hsh, hl, hb5, hp, hx3, hs, q2, hq2, hr2, hg2⟩
  obtain ⟨va, vc, rfl⟩ := hrows.len
  obtain ⟨pa, pc, rfl⟩ := hp.len
  have HP2 := Lib.hid hp
  have HR2 := Lib.hid hrows
  have Hsh := Lib.hid hsh
  have Hb5 := Lib.hid hb5
  have B2 := Lib.hid (show Below (w.heap.size + 1) (w.alloc (.cells #[.slice none 0 0] 31)) w2 from below_gb (by have := B1.out; unfold Boxed at this; simpa using this) hz1 (Nat.le_refl _) hg2)
  have hz2 := hg2.size
  clear hrows hsh hb5 hg2 B1 hp
  have X2 := Lib.hid (show Boxed w #[.slice none 0 0] 31 w2 from by unfold Boxed; simpa using B2.out)
  have x0 : w2.cell? ⟨w.heap.size, 0, none⟩ = some (.slice none 0 0) := X2.out.cell 0
  have xf : w2.frozen? ⟨w.heap.size, 0, none⟩ = false := by
    have := X2.out.frozen (p := ⟨w.heap.size, 0, none⟩) (by simp)
    rw [this]; simp [go_sem]
  have HPF := Lib.hid (PathIn.set_box HP2.out x0 (.slice va ps.length vc))
  generalize hpn : ps.length = pn at *
  generalize hxn : xs.length = xn at *
  go_wp2_with fail
  refine bodyPost_ret (v := .tuple #[.agg #[.slice va pn vc], .slice pa xn pc, .string (mk s)]) (by simp [results, Tryz.results37, go_sem, *]) rfl ⟨_, ps, _, xs, s, rfl, ⟨((HR2.out.mono (by omega)).set_low (p := ⟨w.heap.size, 0, none⟩) (B := w.heap.size + 1) (by dsimp only; omega) _).mono (by omega), Hsh.out, by omega, Hb5.out, ?_⟩, HPF.out, by omega, hs⟩
  have h3 := X2.out.below
  (repeat (with_reducible first | exact Below.refl _ _ | assumption | refine ba ?_ _ | refine bd ?_ | refine bdN ?_ _ | refine bs ?_ (by first | exact Nat.le_refl _ | (dsimp only; omega) | (simp; done)) _ | refine bt ?_ (by assumption)))
set_option maxRecDepth 100000 in
set_option maxHeartbeats 800000 in
theorem spec_DrawUsersOf (a : Option Addr) (n cap : Nat) (w : World) (hc : Code w w.heap.size a n cap) :
    Calls Tryz.prog 54 #[.slice a n cap] w (NameD w) := by
  go_enter Tryz.func54, Tryz.ntmps54
  go_wp2_with fail
  refine (spec_newReader a n cap _ (code_alloc hc _)).mono ?_
  rintro e w1 ⟨rfl, hr, hb⟩
  have hz := hb.size
  have B1 := Lib.hid ((Boxed.start w #[.slice none 0 0] 31).step hb)
  have hz1 : w.heap.size + 1 ≤ w1.heap.size := by simp at hz; omega
  simp only [World.size_alloc] at hr hz ⊢
  have hRlt := hr.lt
  clear hb
  go_wp2_with fail
  refine (spec_nameOf _ 0 _ hr (by omega)).mono ?_
  rintro e w2 ⟨v, ps, pv, xs, s, rfl, hrows, hsh, hl, hb5, hp, hx3, hs, q2, hq2, hr2, hg2⟩
  obtain ⟨va, vc, rfl⟩ := hrows.len
  obtain ⟨pa, pc, rfl⟩ := hp.len
  have HP2 := Lib.hid hp
  have HR2 := Lib.hid hrows
  have Hsh := Lib.hid hsh
  have Hb5 := Lib.hid hb5
  have B2 := Lib.hid (show Below (w.heap.size + 1) (w.alloc (.cells #[.slice none 0 0] 31)) w2 from below_gb (by have := B1.out; unfold Boxed at this; simpa using this) hz1 (Nat.le_refl _) hg2)
  have hz2 := hg2.size
  clear hrows hsh hb5 hg2 B1 hp
  have X2 := Lib.hid (show Boxed w #[.slice none 0 0] 31 w2 from by unfold Boxed; simpa using B2.out)
  have x0 : w2.cell? ⟨w.heap.size, 0, none⟩ = some (.slice none 0 0) := X2.out.cell 0
  have xf : w2.frozen? ⟨w.heap.size, 0, none⟩ = false := by
    have := X2.out.frozen (p := ⟨w.heap.size, 0, none⟩) (by simp)
    rw [this]; simp [go_sem]
  have HPF := Lib.hid (PathIn.set_box HP2.out x0 (.slice va ps.length vc))
  generalize hpn : ps.length = pn at *
  generalize hxn : xs.length = xn at *
  go_wp2_with fail
  refine bodyPost_ret (v := .tuple #[.agg #[.slice va pn vc], .slice pa xn pc, .string (mk s)]) (by simp [results, Tryz.results54, go_sem, *]) rfl ⟨_, ps, _, xs, s, rfl, ⟨((HR2.out.mono (by omega)).set_low (p := ⟨w.heap.size, 0, none⟩) (B := w.heap.size + 1) (by dsimp only; omega) _).mono (by omega), Hsh.out, by omega, Hb5.out, ?_⟩, HPF.out, by omega, hs⟩
  have h3 := X2.out.below
  (repeat (with_reducible first | exact Below.refl _ _ | assumption | refine ba ?_ _ | refine bd ?_ | refine bdN ?_ _ | refine bs ?_ (by first | exact Nat.le_refl _ | (dsimp only; omega) | (simp; done)) _ | refine bt ?_ (by assumption)))

/-! ### Draws of a tree with plain bodies most often, a path and a name. -/
theorem put5 (L : List (Fil × Value)) (i : Nat) (hi : i < L.length) (b : List Stm) (bv : Value) :
    (L.flatMap filCells).set (i * 6 + 5) bv = (L.set i ({ L[i].1 with body := b }, bv)).flatMap filCells := by
  have hA := fm_take_len filCells 6 L i hi filCells_len
  have ha : filCells L[i] = [.int .i64 L[i].1.root, .string (mk L[i].1.pack), .string (mk L[i].1.name), .bool L[i].1.init, .int .i64 L[i].1.stamp, L[i].2] := rfl
  rw [fm_split filCells L i hi, ha, fm_put filCells L i _ hi]
  rw [set_mid _ _ _ (i * 6) 5 _ hA (by simp)]
  rfl
/-- One file has another body, a row of the call's own. -/
theorem rows_bodyAt {w : World} {B g c k : Nat} {ps : List (Fil × Value)} (hk : k < ps.length) (h : RowsB w B (.slice (some ⟨g, 0, none⟩) ps.length c) ps) {b : List Stm} {v9 : Value}
    (h7 : w.ownsRow B 118 5 v9 b.length (b.flatMap stmCells)) : RowsB (w.setCell ⟨g, k * 6 + 5, none⟩ v9) B (.slice (some ⟨g, 0, none⟩) ps.length c) (ps.set k ({ ps[k].1 with body := b }, v9)) := by
  obtain ⟨cur, r, hg⟩ := row_block h.1
  refine ⟨?_, fun p hp => ?_⟩
  · have h1 := (h.1.stored (k * 6 + 5) v9).1
    rw [put5 ps k hk b v9] at h1
    rw [List.length_set]; exact h1
  · rcases List.mem_or_eq_of_mem_set hp with hp | rfl
    · exact owns_set_otherD (h.2 p hp) (box_ne (by decide) (h.2 p hp) hg) v9
    · exact owns_set_otherD h7 (box_ne (by decide) h7 hg) v9
theorem PathIn.set_at {w : World} {v : Value} {xs : List Int} {p : Addr} {a : Option Addr} {n c : Nat} (h : PathIn w v xs) (hx : w.cell? p = some (.slice a n c)) (u : Value) : PathIn (w.setCell p u) v xs := by
  obtain ⟨g, cap, h1, h2, h3, h4, h5⟩ := h
  refine ⟨g, cap, h1, h2, h3, by simpa using h4, fun j x hj => ?_⟩
  have h6 := h5 j x hj
  rw [add0P] at h6 ⊢
  have hne : (⟨g, j, none⟩ : Addr) ≠ p := by
    intro e
    rw [e, hx] at h6
    have h7 := Option.some.inj h6
    rw [List.getElem?_map] at hj
    cases hq : xs[j]? with
    | none => rw [hq] at hj; cases hj
    | some y => rw [hq] at hj; cases hj; cases h7
  rw [World.cell?_setCell_other _ _ _ _ (fun e => hne e.symm)]
  exact h6
theorem shortT_set {B k : Nat} {ps : List (Fil × Value)} (h : ShortT B (ps.map (·.1))) (hk : k < ps.length) {b : List Stm} (hb : Short B b) (v : Value) : ShortT B ((ps.set k ({ ps[k].1 with body := b }, v)).map (·.1)) := fun f hf => by
  obtain ⟨p, hp, rfl⟩ := List.mem_map.1 hf
  rcases List.mem_or_eq_of_mem_set hp with hp | rfl
  · exact h _ (List.mem_map.2 ⟨p, hp, rfl⟩)
  · have := h _ (List.mem_map.2 ⟨ps[k], List.getElem_mem hk, rfl⟩)
    exact ⟨this.1, this.2.1, hb⟩
theorem body_set {k : Nat} {ps : List (Fil × Value)} (h : ∀ p ∈ ps, p.1.body.length ≤ 5) (hk : k < ps.length) {b : List Stm} (hb : b.length ≤ 5) (v : Value) : ∀ p ∈ ps.set k ({ ps[k].1 with body := b }, v), p.1.body.length ≤ 5 := fun p hp => by
  rcases List.mem_or_eq_of_mem_set hp with hp | rfl
  · exact h p hp
  · exact hb
theorem short_snocP {B : Nat} {ss : List Stm} {s : Stm} (h : Short B ss) (h1 : s.module.length ≤ B) (h2 : s.name.length ≤ B) : Short B (ss ++ [s]) := fun x hx => by
  rcases List.mem_append.1 hx with hx | hx
  · exact h x hx
  · simp at hx; subst hx; exact ⟨h1, h2⟩
/-- What plainOf comes to: a tree, a path and a text. -/
def DrawPlain (R q c : Nat) (w : World) (e : Ending) (w' : World) : Prop :=
  ∃ v ps pv xs s, e = .returned (.tuple #[.agg #[v], pv, .string (mk s)]) ∧ RowsB w' w.heap.size v ps ∧ ShortT 20 (ps.map (·.1)) ∧ ps.length ≤ 11 ∧ (∀ p ∈ ps, p.1.body.length ≤ 5) ∧ PathIn w' pv xs ∧ xs.length ≤ 3 ∧ s.length ≤ 17 ∧ ∃ q', q' ≤ q + c ∧ Rd w' R q' ∧ w.grownBy w' (some R)
set_option maxRecDepth 100000 in
set_option maxHeartbeats 8000000 in
theorem spec_plainOf (R q : Nat) (w : World) (hr : Rd w R q) (hq : q ≤ 90000) :
    Calls Tryz.prog 90 #[.pointer (some ⟨R, 0, none⟩)] w (DrawPlain R q 800 w) := by
  obtain ⟨i1, hi1, hy0, hy1, hy2⟩ := info_parts infoStm
  have Hi1 := Lib.hid hi1
  have Hy0 := Lib.hid hy0
  have Hy1 := Lib.hid hy1
  have Hy2 := Lib.hid hy2
  clear hi1 hy0 hy1 hy2
  have hR := hr.lt
  go_enter Tryz.func90, Tryz.ntmps90
  go_wp2_with fail
  have d0 := Dst.start hR #[.slice none 0 0] 31
  refine (spec_nameOf R q _ (hr.alloc _) (by omega)).mono ?_
  rintro e w1 ⟨v, ps, pv, xs, s0, rfl, hrows, hsh, hl, hb5, hp, hx3, hs17, q1, hq1, hr1, hg1⟩
  obtain ⟨va, vc, rfl⟩ := hrows.len
  obtain ⟨pa, pc, rfl⟩ := hp.len
  have D1 := Lib.hid (d0.step hg1)
  have hR1 := hr1.lt
  have hz1 : w.heap.size + 1 ≤ w1.heap.size := by have := hg1.size; simpa using this
  have hrows1 := hrows.mono (B' := w.heap.size + 1) (by simp)
  obtain ⟨X, hX⟩ : ∃ X, X = w1.heap.size := ⟨_, rfl⟩
  have Hva := Lib.hid (show ∀ b, (Value.slice va ps.length vc).ownBlock = some b → w.heap.size + 1 ≤ b ∧ b < X from fun b hb => by rw [hX]; exact owns_block hrows1.1 hb)
  have E1 : Dst w R X #[.slice va ps.length vc] (w1.alloc (.cells #[.slice va ps.length vc] 31)) := by
    obtain ⟨h1, h2, h3, h4, h5⟩ := Dst.start (w := w1) hR1 #[.slice va ps.length vc] 31
    rw [hX]
    exact ⟨h1, h2, gb_trans D1.out.2.2.1 h3, h4, by omega⟩
  have HR2 := Lib.hid (hrows1.below (ba (Below.refl _ _) (.cells #[.slice va ps.length vc] 31)))
  have HP2 := Lib.hid (hp.below (ba (Below.refl _ _) (.cells #[.slice va ps.length vc] 31)))
  have D2 := Lib.hid (D1.out.alloc (.cells #[.slice va ps.length vc] 31))
  have E2 := Lib.hid E1
  have Hr2 := Lib.hid (hr1.alloc (.cells #[.slice va ps.length vc] 31))
  have Hsh := Lib.hid (show ShortT 20 (ps.map (·.1)) from shortT_mono (by omega) hsh)
  have Hb5 := Lib.hid hb5
  clear hrows hrows1 hsh hb5 hg1 d0 hp E1 D1 hr1 hr
  obtain ⟨W, hW⟩ : ∃ W, W = w1.alloc (.cells #[.slice va ps.length vc] 31) := ⟨_, rfl⟩
  have hWs : W.heap.size = X + 1 := by rw [hW, hX]; simp
  rw [← hW] at HR2 HP2 D2 E2 Hr2
  have HW := Lib.hid hW
  have HX := Lib.hid hX
  rw [← hX] at hz1 hR1
  clear hW hX
  have hXw : w.heap.size ≠ X := by omega
  have hXw' : X ≠ w.heap.size := by omega
  obtain ⟨pn, hpn⟩ : ∃ n, n = ps.length := ⟨_, rfl⟩
  have Hpn := Lib.hid hpn
  rw [← hpn] at Hva HR2 E2 hl HW ⊢
  clear hpn
  -- the end
  have Fin := Lib.hid (show ∀ (W : World) (q' : Nat) (ps : List (Fil × Value)), ps.length = pn → RowsB W (w.heap.size + 1) (.slice va pn vc) ps → ShortT 20 (ps.map (·.1)) → (∀ p ∈ ps, p.1.body.length ≤ 5) → PathIn W (.slice pa xs.length pc) xs → Dst w R w.heap.size #[.slice none 0 0] W → Rd W R q' → q' ≤ q + 800 →
      DrawPlain R q 800 w (.returned (.tuple #[.agg #[.slice va pn vc], .slice pa xs.length pc, .string (mk s0)])) (W.setCell ⟨w.heap.size, 0, none⟩ (.slice va pn vc)) from fun W q' ps h0 h1 h1a h1b h2 h3 h4 h5 =>
    ⟨_, ps, _, xs, s0, rfl, (h1.set_low (by dsimp only; omega) _).mono (by omega), h1a, by omega, h1b, PathIn.set_box h2 (h3.1.2 0) _, hx3, hs17, q', h5, h4.set (by dsimp only; omega) _, gb_set h3.2.2.1 (by dsimp only; omega) _⟩)
  go_wp2_with fail
  rw [← HW.out, ← HX.out]
  have hr2 := Hr2.out
  refine (reader_pick R q1 _ _ hr2 (by omega) (by omega)).mono ?_
  rintro e w3 ⟨j3, rfl, hj0, hj, hr3, hg3⟩
  have HR3 := Lib.hid (HR2.out.gb hg3 (by omega))
  have HP3 := Lib.hid (HP2.out.gbR hr2 hg3)
  have D3 := Lib.hid (D2.out.step hg3)
  have E3 := Lib.hid (E2.out.step hg3)
  have Hr3 := Lib.hid hr3
  have z : w3.cell? ⟨w.heap.size, 0, none⟩ = some (.slice none 0 0) := D3.out.1.2 0
  have zf : w3.frozen? ⟨w.heap.size, 0, none⟩ = false := D3.out.2.1 0
  have y : w3.cell? ⟨X, 0, none⟩ = some (.slice va pn vc) := E3.out.1.2 0
  clear hg3 hr3 hr2 hj HR2 HP2 D2 E2 Hr2 hWs HW
  by_cases h0 : j3 = 0
  · subst h0
    go_wp2_with fail
    exact bodyPost_ret (v := .tuple #[.agg #[.slice va pn vc], .slice pa xs.length pc, .string (mk s0)]) (by simp [results, Tryz.results90, go_sem, z]) rfl (Fin.out w3 _ ps Hpn.out.symm HR3.out Hsh.out Hb5.out HP3.out D3.out Hr3.out (by omega))
  have h0b : (j3 == 0) = false := by simpa using h0
  clear h0 z zf y
  go_wp2_with fail
  go_loopw [8] (fun iv wr => ∃ (ps : List (Fil × Value)) (i q2 : Nat), iv = .int .i64 i ∧ i ≤ pn ∧ ps.length = pn ∧ RowsB wr (w.heap.size + 1) (.slice va pn vc) ps ∧ ShortT 20 (ps.map (·.1)) ∧ (∀ p ∈ ps, p.1.body.length ≤ 5) ∧ PathIn wr (.slice pa xs.length pc) xs ∧ Dst w R w.heap.size #[.slice none 0 0] wr ∧ Dst w R X #[.slice va pn vc] wr ∧ Rd wr R q2 ∧ q2 ≤ q + 623 + 8 * i) (fun iv _ => pn - (intOf iv).toNat)
  case atStart => exact ⟨ps, 0, q1 + 1, rfl, by omega, Hpn.out.symm, HR3.out, Hsh.out, Hb5.out, HP3.out, D3.out, E3.out, Hr3.out, by omega⟩
  case round =>
    clear HR3 Hsh Hb5 HP3 D3 E3 Hr3 Hpn
    clear ps
    obtain ⟨ps, i, q2, rfl, hi, hpl, hrow, hsh, hb5, hpath, hD, hE, hrd, hq2⟩ := hrel
    have HRr := Lib.hid hrow
    have Hsh := Lib.hid hsh
    have Hb5 := Lib.hid hb5
    have HPr := Lib.hid hpath
    have Dr := Lib.hid hD
    have Er := Lib.hid hE
    have Hrd := Lib.hid hrd
    have hRr := hrd.lt
    have hzr := hE.1.1
    have y : wr.cell? ⟨X, 0, none⟩ = some (.slice va pn vc) := hE.1.2 0
    clear hrow hsh hb5 hpath hD hE
    by_cases hlt : i < pn
    · have hlti : (i : Int) < (pn : Int) := by omega
      have hips : i < ps.length := by rw [hpl]; exact hlt
      obtain ⟨Wo, hWo⟩ : ∃ Wo, Wo = wr := ⟨_, rfl⟩
      subst hWo
      go_upto_region 8 with fail
      obtain ⟨W4, hW4⟩ : ∃ W, W = Wo.alloc (.cells #[.int .i64 3, .string ⟨#[]⟩, .int .i64 0, .string ⟨#[120]⟩, .int .i64 (i : Int)] 118) := ⟨_, rfl⟩
      have Hown4 := Lib.hid (show W4.ownsRow Wo.heap.size 118 5 (.slice (some ⟨Wo.heap.size, 0, none⟩) 1 1) 1 (([⟨3, [], 0, [120], (i : Int)⟩] : List Stm).flatMap stmCells) by
        rw [hW4]
        have h := World.ownsRow_lit (e := 118) (size := 5) (base := Wo.heap.size) Wo (stmCells ⟨3, [], 0, [120], (i : Int)⟩).toArray 1 (Nat.le_refl _) (by unfold maxLen; omega) rfl
        exact (show (Wo.alloc (.cells (stmCells ⟨3, [], 0, [120], (i : Int)⟩).toArray 118)).ownsRow Wo.heap.size 118 5 (.slice (some ⟨Wo.heap.size, 0, none⟩) 1 1) 1 (([⟨3, [], 0, [120], (i : Int)⟩] : List Stm).flatMap stmCells) by simpa using h))
      have G4 := Lib.hid (show Wo.grownBy W4 (some R) by rw [hW4]; exact World.grownBy_alloc Wo _ _)
      have Hr4 := Lib.hid (show Rd W4 R q2 by rw [hW4]; exact Hrd.out.alloc _)
      rw [← hW4]
      clear hW4
      have hr4 := Hr4.out
      go_wp2_with fail
      refine (reader_pick R q2 _ _ hr4 (by omega) (by omega)).mono ?_
      rintro e w5 ⟨m5, rfl, hm0, hm1, hr5, hg5⟩
      have G5 := Lib.hid (gb_trans G4.out hg5)
      have Hown5 := Lib.hid (Hown4.out.kept hg5 (.inr (by simp [Value.ownBlock]; omega)))
      have Hr5 := Lib.hid hr5
      clear hg5 hr5 hr4 G4 Hown4 Hr4
      go_wp2_with fail
      go_loopw [9, 10] (fun ov nv wr => ∃ (b : List Stm) (m : Int) (q3 : Nat), nv = .int .i64 m ∧ 0 ≤ m ∧ (b.length : Int) + m ≤ 3 ∧ Short 20 b ∧ wr.ownsRow Wo.heap.size 118 5 ov b.length (b.flatMap stmCells) ∧ Rd wr R q3 ∧ (q3 : Int) + 3 * m ≤ q2 + 7 ∧ Wo.grownBy wr (some R)) (fun _ nv _ => (intOf nv).toNat)
      case atStart => exact ⟨[⟨3, [], 0, [120], (i : Int)⟩], m5, q2 + 1, rfl, hm0, by simp; omega, (fun s hs => by simp at hs; subst hs; exact ⟨by simp, by simp⟩), Hown5.out, Hr5.out, by omega, G5.out⟩
      case round =>
        clear G5 Hown5 Hr5 y
        clear hm0 hm1
        obtain ⟨b, m, q3, rfl, hm0, hbm, hbs, hown, hrd3, hq3, hgr⟩ := hrel
        obtain ⟨oa, oc, rfl⟩ := owns_shape hown
        have Hbs := Lib.hid hbs
        have Hown := Lib.hid hown
        have Hrd3 := Lib.hid hrd3
        have Hgr := Lib.hid hgr
        have hge := Lib.hid (fun x hx => (Hown.out.lt x hx).1)
        have hzr3 := hgr.size
        have hRr3 := hrd3.lt
        clear hbs hown hrd3 hgr
        by_cases hm1 : 0 < m
        · by_cases hi1 : 0 < i
          · have hi1i : (0 : Int) < (i : Int) := by omega
            have y3 : wr.cell? ⟨X, 0, none⟩ = some (.slice va pn vc) := (Er.out.step Hgr.out).1.2 0
            go_wp2_with fail
            go_region_law (first
              | (go_simp; go_at_call 130; refine (reader_pick R q3 (i : Int) _ (Hrd3.out.drew) (by omega) (by omega)).mono ?_; rintro e w8 ⟨j8, rfl, hj0, hj, hr8, hg8⟩; obtain ⟨m8, rfl⟩ := Int.eq_ofNat_of_zero_le hj0; have hm8 : m8 < ps.length := Nat.lt_trans (show m8 < i by rcases hj with h | h <;> omega) hips; have hm8i : (m8 : Int) < (pn : Int) := (by omega); have G8 := Lib.hid (gb_trans (show Wo.grownBy wr.drew (some R) from gb_trans Hgr.out ⟨rfl, rfl, rfl, Nat.le_refl _, fun _ _ _ => rfl⟩) hg8); have HR8 := Lib.hid (HRr.out.gb G8.out (by omega)); have Hr8 := Lib.hid hr8; have Hown8 := Lib.hid ((owns_below Hown.out (show Below wr.heap.size wr wr.drew from ⟨rfl, rfl, rfl, Nat.le_refl _, fun _ _ => rfl⟩)).kept hg8 (.inr (fun e => by have := hge.out _ e; omega))); have y8 : w8.cell? ⟨X, 0, none⟩ = some (.slice va pn vc) := (Er.out.step G8.out).1.2 0; obtain ⟨g, cap, e1, hg, _⟩ := HR8.out.1.form (by omega); simp only [Value.slice.injEq] at e1; obtain ⟨rfl, hnn, rfl⟩ := e1; clear hnn; have hr6 := HR8.out.1; rw [hpl] at hr6; obtain ⟨⟨c0, c1, c2, c3, c4, c5⟩, _⟩ := own6 hr6 m8 hm8; clear hr6; have Hz := Lib.hid (show ShortF 20 ps[m8].1 from Hsh.out _ (List.mem_map.2 ⟨ps[m8], List.getElem_mem hm8, rfl⟩)); obtain ⟨f, hf⟩ : ∃ f, f = ps[m8] := ⟨_, rfl⟩; rw [← hf] at c0 c1 c2 c3 c4 c5 Hz; obtain ⟨⟨fr, fp, fn, fi, fst, fb⟩, bv⟩ := f; dsimp only at c0 c1 c2 c3 c4 c5; clear hg8 hr8 hf)
              | (go_simp; go_at_call 131; refine (spec_moduleName _ _ _ _ _ _ fb _ (by have := Hz.out.1; dsimp only at this; omega) (by have := Hz.out.2.1; dsimp only at this; omega)).mono ?_; rintro e w9 ⟨rfl, hb9⟩; have G9 := Lib.hid (gb_trans G8.out (gb_below hb9 (some R))); have Hown9 := Lib.hid (owns_below Hown8.out hb9); have Hr9 := Lib.hid (Hr8.out.below hb9 Hr8.out.lt); clear hb9))
            all_goals
              have hml := modName_len ⟨fr, fp, fn, fi, fst, fb⟩
              have hz1 := Hz.out.1
              have hz2 := Hz.out.2.1
              dsimp only at hml hz1 hz2
              have hml41 : (modName ⟨fr, fp, fn, fi, fst, fb⟩).length ≤ 41 := by omega
              generalize modName ⟨fr, fp, fn, fi, fst, fb⟩ = t at *
              clear y3 y8 c0 c1 c2 c3 c4 c5
              rcases (show vn t = true ∨ vn t = false by cases vn t <;> simp) with hv | hv
              · have Hv := Lib.hid hv
                have Ht := Lib.hid (show t.length ≤ 20 from Nat.le_trans (vn_len hv) (by omega))
                clear hv
                obtain ⟨pt, hpt⟩ : ∃ p, p = parent t := ⟨_, rfl⟩
                have Hp := Lib.hid hpt.symm
                clear hpt
                by_cases hp0 : pt = []
                · subst hp0
                  go_upto_region 13 with (first
                    | (go_at_call 63; refine (spec_validName t _ (by omega)).mono ?_; rintro _ wA ⟨rfl, hbA⟩; rw [Hv.out]; have GA := Lib.hid (gb_trans G9.out (gb_below hbA (some R))); have OwnA := Lib.hid (owns_below Hown9.out hbA); have HrA := Lib.hid (Hr9.out.below hbA Hr9.out.lt); clear hbA)
                    | (go_at_call 121; refine (spec_parent t _ (by omega)).mono ?_; rintro _ wB ⟨rfl, hbB⟩; rw [Hp.out]; have GB := Lib.hid (gb_trans GA.out (gb_below hbB (some R))); have OwnB := Lib.hid (owns_below OwnA.out hbB); have HrB := Lib.hid (HrA.out.below hbB HrA.out.lt); clear hbB))
                  have hRz := HrB.out.lt
                  have hzW := GB.out.size
                  go_wp2_with fail
                  refine (reader_one R (q3 + 1) wB.heap.size 3 [0, 0, 2] _ (HrB.out.alloc _) (heap_new wB _ _) (by omega) (by decide) (by decide) (by omega)).mono ?_
                  rintro e wE ⟨kd, hkd, rfl, hrE, hgE⟩
                  have GE := Lib.hid (gb_trans GB.out (gb_trans (World.grownBy_alloc wB _ _) hgE))
                  have OwnE := Lib.hid ((OwnB.out.alloc (.cells #[.int .i64 0, .int .i64 0, .int .i64 2] 3)).kept hgE (.inr (fun e => by have := hge.out _ e; omega)))
                  have HrE := Lib.hid hrE
                  have hzE := GE.out.size
                  clear hgE hrE hkd
                  go_wp2_with (at_builtin; refine wpList_append_own _ rfl _ _ 77 rfl Wo.heap.size 118 i1 _ 5 56 Tryz.underlying77 Hi1.out Hy0.out Hy1.out Hy2.out rfl (by decide) _ b.length _ rfl (OwnE.out.alloc _) ⟨_, 0, none⟩ 1 1 (stmCells ⟨kd, t, 0, [], 0⟩) rfl rfl ?_ (fun x hx => by simp [stmCells] at hx; rcases hx with rfl | rfl | rfl | rfl | rfl <;> rfl) (by unfold maxLen; omega) (by omega) (by simp; omega) ?_; (exact new_cellsD _ (stmCells ⟨kd, t, 0, [], 0⟩).toArray _ _ (by first | with_reducible rfl | (simp; done))); intro vF wF hownF hgrowF hnilF)
                  have HownF := Lib.hid (show wF.ownsRow Wo.heap.size 118 5 vF (b ++ ([⟨kd, t, 0, [], 0⟩] : List Stm)).length ((b ++ ([⟨kd, t, 0, [], 0⟩] : List Stm)).flatMap stmCells) by simpa using hownF)
                  have hgeE : ∀ x, (Value.slice oa b.length oc).ownBlock = some x → Wo.heap.size ≤ x := fun x hx => hge.out x hx
                  have GF := Lib.hid (gb_own (gb_trans GE.out (World.grownBy_alloc wE _ _)) hgrowF (fun x hx => hgeE x hx))
                  have HrF := Lib.hid (show Rd wF R (q3 + 1 + 1) from (HrE.out.alloc _).keep (fun j hj => hgrowF.block j (by have := HrE.out.lt; simp; omega) (fun e => by have := hgeE j e.symm; omega)))
                  clear hownF hgrowF hnilF
                  go_roundw
                  case rel => exact ⟨b ++ ([⟨kd, t, 0, [], 0⟩] : List Stm), m - 1, q3 + 1 + 1, by go_num, by omega, by simp; omega, short_snocP Hbs.out Ht.out (by simp), HownF.out, HrF.out, by omega, GF.out⟩
                  case measure => simp [intOf]; omega
                · have hie : List.isEmpty pt = false := by simp [List.isEmpty_iff, hp0]
                  go_wp2_with (first
                    | (go_at_call 63; refine (spec_validName t _ (by omega)).mono ?_; rintro _ wA ⟨rfl, hbA⟩; rw [Hv.out]; have GA := Lib.hid (gb_trans G9.out (gb_below hbA (some R))); have OwnA := Lib.hid (owns_below Hown9.out hbA); have HrA := Lib.hid (Hr9.out.below hbA Hr9.out.lt); clear hbA)
                    | (go_at_call 121; refine (spec_parent t _ (by omega)).mono ?_; rintro _ wB ⟨rfl, hbB⟩; rw [Hp.out]; have GB := Lib.hid (gb_trans GA.out (gb_below hbB (some R))); have OwnB := Lib.hid (owns_below OwnA.out hbB); have HrB := Lib.hid (HrA.out.below hbB HrA.out.lt); clear hbB))
                  have hrB := HrB.out
                  refine (reader_pick R (q3 + 1) _ _ hrB (by omega) (by omega)).mono ?_
                  rintro e wC ⟨jC, rfl, hjC0, hjC1, hrC, hgC⟩
                  have GC := Lib.hid (gb_trans GB.out hgC)
                  have OwnC := Lib.hid (OwnB.out.kept hgC (.inr (fun e => by have := hge.out _ e; omega)))
                  have HrC := Lib.hid hrC
                  clear hgC hrC hrB hjC1
                  by_cases hj0 : jC = 0
                  · subst hj0
                    go_wp2_with fail
                    go_roundw
                    case rel => exact ⟨b, m - 1, q3 + 1 + 1, by go_num, by omega, by omega, Hbs.out, OwnC.out, HrC.out, by omega, GC.out⟩
                    case measure => simp [intOf]; omega
                  · have hj0b : (jC == 0) = false := by simpa using hj0
                    clear hj0
                    go_upto_region 13 with fail
                    have hRz := HrC.out.lt
                    have hzW := GC.out.size
                    go_wp2_with fail
                    refine (reader_one R (q3 + 1 + 1) wC.heap.size 3 [0, 0, 2] _ (HrC.out.alloc _) (heap_new wC _ _) (by omega) (by decide) (by decide) (by omega)).mono ?_
                    rintro e wE ⟨kd, hkd, rfl, hrE, hgE⟩
                    have GE := Lib.hid (gb_trans GC.out (gb_trans (World.grownBy_alloc wC _ _) hgE))
                    have OwnE := Lib.hid ((OwnC.out.alloc (.cells #[.int .i64 0, .int .i64 0, .int .i64 2] 3)).kept hgE (.inr (fun e => by have := hge.out _ e; omega)))
                    have HrE := Lib.hid hrE
                    have hzE := GE.out.size
                    clear hgE hrE hkd
                    go_wp2_with (at_builtin; refine wpList_append_own _ rfl _ _ 77 rfl Wo.heap.size 118 i1 _ 5 56 Tryz.underlying77 Hi1.out Hy0.out Hy1.out Hy2.out rfl (by decide) _ b.length _ rfl (OwnE.out.alloc _) ⟨_, 0, none⟩ 1 1 (stmCells ⟨kd, t, 0, [], 0⟩) rfl rfl ?_ (fun x hx => by simp [stmCells] at hx; rcases hx with rfl | rfl | rfl | rfl | rfl <;> rfl) (by unfold maxLen; omega) (by omega) (by simp; omega) ?_; (exact new_cellsD _ (stmCells ⟨kd, t, 0, [], 0⟩).toArray _ _ (by first | with_reducible rfl | (simp; done))); intro vF wF hownF hgrowF hnilF)
                    have HownF := Lib.hid (show wF.ownsRow Wo.heap.size 118 5 vF (b ++ ([⟨kd, t, 0, [], 0⟩] : List Stm)).length ((b ++ ([⟨kd, t, 0, [], 0⟩] : List Stm)).flatMap stmCells) by simpa using hownF)
                    have hgeE : ∀ x, (Value.slice oa b.length oc).ownBlock = some x → Wo.heap.size ≤ x := fun x hx => hge.out x hx
                    have GF := Lib.hid (gb_own (gb_trans GE.out (World.grownBy_alloc wE _ _)) hgrowF (fun x hx => hgeE x hx))
                    have HrF := Lib.hid (show Rd wF R (q3 + 1 + 1 + 1) from (HrE.out.alloc _).keep (fun j hj => hgrowF.block j (by have := HrE.out.lt; simp; omega) (fun e => by have := hgeE j e.symm; omega)))
                    clear hownF hgrowF hnilF
                    go_roundw
                    case rel => exact ⟨b ++ ([⟨kd, t, 0, [], 0⟩] : List Stm), m - 1, q3 + 1 + 1 + 1, by go_num, by omega, by simp; omega, short_snocP Hbs.out Ht.out (by simp), HownF.out, HrF.out, by omega, GF.out⟩
                    case measure => simp [intOf]; omega
              · have Hv := Lib.hid hv
                clear hv
                go_wp2_with (go_at_call 63; refine (spec_validName t _ (by omega)).mono ?_; rintro _ wA ⟨rfl, hbA⟩; rw [Hv.out]; have GA := Lib.hid (gb_trans G9.out (gb_below hbA (some R))); have OwnA := Lib.hid (owns_below Hown9.out hbA); have HrA := Lib.hid (Hr9.out.below hbA Hr9.out.lt); clear hbA)
                go_roundw
                case rel => exact ⟨b, m - 1, q3 + 1, by go_num, by omega, by omega, Hbs.out, OwnA.out, HrA.out, by omega, GA.out⟩
                case measure => simp [intOf]; omega
          · have hi1i : ¬ (0 : Int) < (i : Int) := by omega
            have hi1b : decide ((0 : Int) < (i : Int)) = false := decide_eq_false hi1i
            have HR8 := Lib.hid (HRr.out.gb Hgr.out (by omega))
            have yq : wr.cell? ⟨X, 0, none⟩ = some (.slice va pn vc) := (Er.out.step Hgr.out).1.2 0
            obtain ⟨g, cap, e1, hg, _⟩ := HR8.out.1.form (by omega)
            simp only [Value.slice.injEq] at e1
            obtain ⟨rfl, hnn, rfl⟩ := e1
            clear hnn
            have hr6 := HR8.out.1
            rw [hpl] at hr6
            obtain ⟨⟨_, _, _, _, _, c5⟩, ⟨_, _, _, _, _, f5⟩⟩ := own6 hr6 i hips
            clear hr6
            obtain ⟨qa, qn, qc, hqv⟩ : ∃ a n c, ps[i].2 = .slice a n c := by
              obtain ⟨a, c, h⟩ := owns_shape (HR8.out.2 ps[i] (List.getElem_mem hips))
              exact ⟨a, _, c, h⟩
            rw [hqv] at c5
            have hgb := Hva.out g rfl
            have hgX : g ≠ X := by omega
            have hgX' : X ≠ g := by omega
            have hi0 : (0 : Int) ≤ (i : Int) := by omega
            have HP8 := Lib.hid (PathIn.set_at (HPr.out.gbR Hrd.out Hgr.out) c5 (.slice oa b.length oc))
            have D8 := Lib.hid ((Dr.out.step Hgr.out).other (Y := g) (by omega) (by omega) (i * 6 + 5) (.slice oa b.length oc))
            have E8 := Lib.hid ((Er.out.step Hgr.out).other (Y := g) hgX (by omega) (i * 6 + 5) (.slice oa b.length oc))
            have Hr8 := Lib.hid (Hrd3.out.set (p := ⟨g, i * 6 + 5, none⟩) (by dsimp only; omega) (.slice oa b.length oc))
            have hR9 : RowsB wr (w.heap.size + 1) (.slice (some ⟨g, 0, none⟩) ps.length vc) ps := by rw [hpl]; exact HR8.out
            have HR9 := Lib.hid (rows_bodyAt hips hR9 (owns_mono Hown.out (by omega)))
            rw [hpl] at HR9
            clear hR9
            go_wp2_with fail
            refine ⟨⟨_, i + 1, q3, by go_num, by omega, by simp [hpl], HR9.out, shortT_set Hsh.out hips Hbs.out _, body_set Hb5.out hips (by omega) _, HP8.out, D8.out, E8.out, Hr8.out, by omega⟩, ?_⟩
            simp [intOf]; omega
        · have hm1b : decide (0 < m) = false := decide_eq_false hm1
          have HR8 := Lib.hid (HRr.out.gb Hgr.out (by omega))
          have yq : wr.cell? ⟨X, 0, none⟩ = some (.slice va pn vc) := (Er.out.step Hgr.out).1.2 0
          obtain ⟨g, cap, e1, hg, _⟩ := HR8.out.1.form (by omega)
          simp only [Value.slice.injEq] at e1
          obtain ⟨rfl, hnn, rfl⟩ := e1
          clear hnn
          have hr6 := HR8.out.1
          rw [hpl] at hr6
          obtain ⟨⟨_, _, _, _, _, c5⟩, ⟨_, _, _, _, _, f5⟩⟩ := own6 hr6 i hips
          clear hr6
          obtain ⟨qa, qn, qc, hqv⟩ : ∃ a n c, ps[i].2 = .slice a n c := by
            obtain ⟨a, c, h⟩ := owns_shape (HR8.out.2 ps[i] (List.getElem_mem hips))
            exact ⟨a, _, c, h⟩
          rw [hqv] at c5
          have hgb := Hva.out g rfl
          have hgX : g ≠ X := by omega
          have hgX' : X ≠ g := by omega
          have hi0 : (0 : Int) ≤ (i : Int) := by omega
          have HP8 := Lib.hid (PathIn.set_at (HPr.out.gbR Hrd.out Hgr.out) c5 (.slice oa b.length oc))
          have D8 := Lib.hid ((Dr.out.step Hgr.out).other (Y := g) (by omega) (by omega) (i * 6 + 5) (.slice oa b.length oc))
          have E8 := Lib.hid ((Er.out.step Hgr.out).other (Y := g) hgX (by omega) (i * 6 + 5) (.slice oa b.length oc))
          have Hr8 := Lib.hid (Hrd3.out.set (p := ⟨g, i * 6 + 5, none⟩) (by dsimp only; omega) (.slice oa b.length oc))
          have hR9 : RowsB wr (w.heap.size + 1) (.slice (some ⟨g, 0, none⟩) ps.length vc) ps := by rw [hpl]; exact HR8.out
          have HR9 := Lib.hid (rows_bodyAt hips hR9 (owns_mono Hown.out (by omega)))
          rw [hpl] at HR9
          clear hR9
          go_wp2_with fail
          refine ⟨⟨_, i + 1, q3, by go_num, by omega, by simp [hpl], HR9.out, shortT_set Hsh.out hips Hbs.out _, body_set Hb5.out hips (by omega) _, HP8.out, D8.out, E8.out, Hr8.out, by omega⟩, ?_⟩
          simp [intOf]; omega
    · have z : wr.cell? ⟨w.heap.size, 0, none⟩ = some (.slice none 0 0) := Dr.out.1.2 0
      have zf : wr.frozen? ⟨w.heap.size, 0, none⟩ = false := Dr.out.2.1 0
      have hlti : ¬ (i : Int) < (pn : Int) := by omega
      go_wp2_with fail
      exact bodyPost_ret (v := .tuple #[.agg #[.slice va pn vc], .slice pa xs.length pc, .string (mk s0)]) (by simp [results, Tryz.results90, go_sem, z]) rfl (Fin.out wr _ ps hpl HRr.out Hsh.out Hb5.out HPr.out Dr.out Hrd.out (by omega))
/-! ### The draws by plainOf (written by mkdrawp.py). -/
def TreeP (w w' : World) (v : Value) (ps : List (Fil × Value)) : Prop :=
  RowsB w' w.heap.size v ps ∧ ShortT 20 (ps.map (·.1)) ∧ ps.length ≤ 11 ∧ (∀ p ∈ ps, p.1.body.length ≤ 5) ∧ Below w.heap.size w w'
def PlainD (w : World) (e : Ending) (w' : World) : Prop := ∃ v ps pv xs s, e = .returned (.tuple #[.agg #[v], pv, .string (mk s)]) ∧ TreeP w w' v ps ∧ PathIn w' pv xs ∧ xs.length ≤ 3 ∧ s.length ≤ 17
set_option maxRecDepth 100000 in
set_option maxHeartbeats 800000 in
theorem spec_DrawMissingOf (a : Option Addr) (n cap : Nat) (w : World) (hc : Code w w.heap.size a n cap) :
    Calls Tryz.prog 46 #[.slice a n cap] w (PlainD w) := by
  go_enter Tryz.func46, Tryz.ntmps46
  go_wp2_with fail
  refine (spec_newReader a n cap _ (code_alloc hc _)).mono ?_
  rintro e w1 ⟨rfl, hr, hb⟩
  have hz := hb.size
  have B1 := Lib.hid ((Boxed.start w #[.slice none 0 0] 31).step hb)
  have hz1 : w.heap.size + 1 ≤ w1.heap.size := by simp at hz; omega
  simp only [World.size_alloc] at hr hz ⊢
  have hRlt := hr.lt
  clear hb
  go_wp2_with fail
  refine (spec_plainOf _ 0 _ hr (by omega)).mono ?_
  rintro e w2 ⟨v, ps, pv, xs, s, rfl, hrows, hsh, hl, hb5, hp, hx3, hs, q2, hq2, hr2, hg2⟩
  obtain ⟨va, vc, rfl⟩ := hrows.len
  obtain ⟨pa, pc, rfl⟩ := hp.len
  have HP2 := Lib.hid hp
  have HR2 := Lib.hid hrows
  have Hsh := Lib.hid hsh
  have Hb5 := Lib.hid hb5
  have B2 := Lib.hid (show Below (w.heap.size + 1) (w.alloc (.cells #[.slice none 0 0] 31)) w2 from below_gb (by have := B1.out; unfold Boxed at this; simpa using this) hz1 (Nat.le_refl _) hg2)
  have hz2 := hg2.size
  clear hrows hsh hb5 hg2 B1 hp
  have X2 := Lib.hid (show Boxed w #[.slice none 0 0] 31 w2 from by unfold Boxed; simpa using B2.out)
  have x0 : w2.cell? ⟨w.heap.size, 0, none⟩ = some (.slice none 0 0) := X2.out.cell 0
  have xf : w2.frozen? ⟨w.heap.size, 0, none⟩ = false := by
    have := X2.out.frozen (p := ⟨w.heap.size, 0, none⟩) (by simp)
    rw [this]; simp [go_sem]
  have HPF := Lib.hid (PathIn.set_box HP2.out x0 (.slice va ps.length vc))
  generalize hpn : ps.length = pn at *
  generalize hxn : xs.length = xn at *
  go_wp2_with fail
  refine bodyPost_ret (v := .tuple #[.agg #[.slice va pn vc], .slice pa xn pc, .string (mk s)]) (by simp [results, Tryz.results46, go_sem, *]) rfl ⟨_, ps, _, xs, s, rfl, ⟨((HR2.out.mono (by omega)).set_low (p := ⟨w.heap.size, 0, none⟩) (B := w.heap.size + 1) (by dsimp only; omega) _).mono (by omega), Hsh.out, by omega, Hb5.out, ?_⟩, HPF.out, by omega, hs⟩
  have h3 := X2.out.below
  (repeat (with_reducible first | exact Below.refl _ _ | assumption | refine ba ?_ _ | refine bd ?_ | refine bdN ?_ _ | refine bs ?_ (by first | exact Nat.le_refl _ | (dsimp only; omega) | (simp; done)) _ | refine bt ?_ (by assumption)))
set_option maxRecDepth 100000 in
set_option maxHeartbeats 800000 in
theorem spec_DrawRingsOf (a : Option Addr) (n cap : Nat) (w : World) (hc : Code w w.heap.size a n cap) :
    Calls Tryz.prog 51 #[.slice a n cap] w (PlainD w) := by
  go_enter Tryz.func51, Tryz.ntmps51
  go_wp2_with fail
  refine (spec_newReader a n cap _ (code_alloc hc _)).mono ?_
  rintro e w1 ⟨rfl, hr, hb⟩
  have hz := hb.size
  have B1 := Lib.hid ((Boxed.start w #[.slice none 0 0] 31).step hb)
  have hz1 : w.heap.size + 1 ≤ w1.heap.size := by simp at hz; omega
  simp only [World.size_alloc] at hr hz ⊢
  have hRlt := hr.lt
  clear hb
  go_wp2_with fail
  refine (spec_plainOf _ 0 _ hr (by omega)).mono ?_
  rintro e w2 ⟨v, ps, pv, xs, s, rfl, hrows, hsh, hl, hb5, hp, hx3, hs, q2, hq2, hr2, hg2⟩
  obtain ⟨va, vc, rfl⟩ := hrows.len
  obtain ⟨pa, pc, rfl⟩ := hp.len
  have HP2 := Lib.hid hp
  have HR2 := Lib.hid hrows
  have Hsh := Lib.hid hsh
  have Hb5 := Lib.hid hb5
  have B2 := Lib.hid (show Below (w.heap.size + 1) (w.alloc (.cells #[.slice none 0 0] 31)) w2 from below_gb (by have := B1.out; unfold Boxed at this; simpa using this) hz1 (Nat.le_refl _) hg2)
  have hz2 := hg2.size
  clear hrows hsh hb5 hg2 B1 hp
  have X2 := Lib.hid (show Boxed w #[.slice none 0 0] 31 w2 from by unfold Boxed; simpa using B2.out)
  have x0 : w2.cell? ⟨w.heap.size, 0, none⟩ = some (.slice none 0 0) := X2.out.cell 0
  have xf : w2.frozen? ⟨w.heap.size, 0, none⟩ = false := by
    have := X2.out.frozen (p := ⟨w.heap.size, 0, none⟩) (by simp)
    rw [this]; simp [go_sem]
  have HPF := Lib.hid (PathIn.set_box HP2.out x0 (.slice va ps.length vc))
  generalize hpn : ps.length = pn at *
  generalize hxn : xs.length = xn at *
  go_wp2_with fail
  refine bodyPost_ret (v := .tuple #[.agg #[.slice va pn vc], .slice pa xn pc, .string (mk s)]) (by simp [results, Tryz.results51, go_sem, *]) rfl ⟨_, ps, _, xs, s, rfl, ⟨((HR2.out.mono (by omega)).set_low (p := ⟨w.heap.size, 0, none⟩) (B := w.heap.size + 1) (by dsimp only; omega) _).mono (by omega), Hsh.out, by omega, Hb5.out, ?_⟩, HPF.out, by omega, hs⟩
  have h3 := X2.out.below
  (repeat (with_reducible first | exact Below.refl _ _ | assumption | refine ba ?_ _ | refine bd ?_ | refine bdN ?_ _ | refine bs ?_ (by first | exact Nat.le_refl _ | (dsimp only; omega) | (simp; done)) _ | refine bt ?_ (by assumption)))
set_option maxRecDepth 100000 in
set_option maxHeartbeats 800000 in
theorem spec_DrawPlainOrder (a : Option Addr) (n cap : Nat) (w : World) (hc : Code w w.heap.size a n cap) :
    Calls Tryz.prog 52 #[.slice a n cap] w (PlainD w) := by
  go_enter Tryz.func52, Tryz.ntmps52
  go_wp2_with fail
  refine (spec_newReader a n cap _ (code_alloc hc _)).mono ?_
  rintro e w1 ⟨rfl, hr, hb⟩
  have hz := hb.size
  have B1 := Lib.hid ((Boxed.start w #[.slice none 0 0] 31).step hb)
  have hz1 : w.heap.size + 1 ≤ w1.heap.size := by simp at hz; omega
  simp only [World.size_alloc] at hr hz ⊢
  have hRlt := hr.lt
  clear hb
  go_wp2_with fail
  refine (spec_plainOf _ 0 _ hr (by omega)).mono ?_
  rintro e w2 ⟨v, ps, pv, xs, s, rfl, hrows, hsh, hl, hb5, hp, hx3, hs, q2, hq2, hr2, hg2⟩
  obtain ⟨va, vc, rfl⟩ := hrows.len
  obtain ⟨pa, pc, rfl⟩ := hp.len
  have HP2 := Lib.hid hp
  have HR2 := Lib.hid hrows
  have Hsh := Lib.hid hsh
  have Hb5 := Lib.hid hb5
  have B2 := Lib.hid (show Below (w.heap.size + 1) (w.alloc (.cells #[.slice none 0 0] 31)) w2 from below_gb (by have := B1.out; unfold Boxed at this; simpa using this) hz1 (Nat.le_refl _) hg2)
  have hz2 := hg2.size
  clear hrows hsh hb5 hg2 B1 hp
  have X2 := Lib.hid (show Boxed w #[.slice none 0 0] 31 w2 from by unfold Boxed; simpa using B2.out)
  have x0 : w2.cell? ⟨w.heap.size, 0, none⟩ = some (.slice none 0 0) := X2.out.cell 0
  have xf : w2.frozen? ⟨w.heap.size, 0, none⟩ = false := by
    have := X2.out.frozen (p := ⟨w.heap.size, 0, none⟩) (by simp)
    rw [this]; simp [go_sem]
  have HPF := Lib.hid (PathIn.set_box HP2.out x0 (.slice va ps.length vc))
  generalize hpn : ps.length = pn at *
  generalize hxn : xs.length = xn at *
  go_wp2_with fail
  refine bodyPost_ret (v := .tuple #[.agg #[.slice va pn vc], .slice pa xn pc, .string (mk s)]) (by simp [results, Tryz.results52, go_sem, *]) rfl ⟨_, ps, _, xs, s, rfl, ⟨((HR2.out.mono (by omega)).set_low (p := ⟨w.heap.size, 0, none⟩) (B := w.heap.size + 1) (by dsimp only; omega) _).mono (by omega), Hsh.out, by omega, Hb5.out, ?_⟩, HPF.out, by omega, hs⟩
  have h3 := X2.out.below
  (repeat (with_reducible first | exact Below.refl _ _ | assumption | refine ba ?_ _ | refine bd ?_ | refine bdN ?_ _ | refine bs ?_ (by first | exact Nat.le_refl _ | (dsimp only; omega) | (simp; done)) _ | refine bt ?_ (by assumption)))
set_option maxRecDepth 100000 in
set_option maxHeartbeats 800000 in
theorem spec_DrawLayersOf (a : Option Addr) (n cap : Nat) (w : World) (hc : Code w w.heap.size a n cap) :
    Calls Tryz.prog 58 #[.slice a n cap] w (PlainD w) := by
  go_enter Tryz.func58, Tryz.ntmps58
  go_wp2_with fail
  refine (spec_newReader a n cap _ (code_alloc hc _)).mono ?_
  rintro e w1 ⟨rfl, hr, hb⟩
  have hz := hb.size
  have B1 := Lib.hid ((Boxed.start w #[.slice none 0 0] 31).step hb)
  have hz1 : w.heap.size + 1 ≤ w1.heap.size := by simp at hz; omega
  simp only [World.size_alloc] at hr hz ⊢
  have hRlt := hr.lt
  clear hb
  go_wp2_with fail
  refine (spec_plainOf _ 0 _ hr (by omega)).mono ?_
  rintro e w2 ⟨v, ps, pv, xs, s, rfl, hrows, hsh, hl, hb5, hp, hx3, hs, q2, hq2, hr2, hg2⟩
  obtain ⟨va, vc, rfl⟩ := hrows.len
  obtain ⟨pa, pc, rfl⟩ := hp.len
  have HP2 := Lib.hid hp
  have HR2 := Lib.hid hrows
  have Hsh := Lib.hid hsh
  have Hb5 := Lib.hid hb5
  have B2 := Lib.hid (show Below (w.heap.size + 1) (w.alloc (.cells #[.slice none 0 0] 31)) w2 from below_gb (by have := B1.out; unfold Boxed at this; simpa using this) hz1 (Nat.le_refl _) hg2)
  have hz2 := hg2.size
  clear hrows hsh hb5 hg2 B1 hp
  have X2 := Lib.hid (show Boxed w #[.slice none 0 0] 31 w2 from by unfold Boxed; simpa using B2.out)
  have x0 : w2.cell? ⟨w.heap.size, 0, none⟩ = some (.slice none 0 0) := X2.out.cell 0
  have xf : w2.frozen? ⟨w.heap.size, 0, none⟩ = false := by
    have := X2.out.frozen (p := ⟨w.heap.size, 0, none⟩) (by simp)
    rw [this]; simp [go_sem]
  have HPF := Lib.hid (PathIn.set_box HP2.out x0 (.slice va ps.length vc))
  generalize hpn : ps.length = pn at *
  generalize hxn : xs.length = xn at *
  go_wp2_with fail
  refine bodyPost_ret (v := .tuple #[.agg #[.slice va pn vc], .slice pa xn pc, .string (mk s)]) (by simp [results, Tryz.results58, go_sem, *]) rfl ⟨_, ps, _, xs, s, rfl, ⟨((HR2.out.mono (by omega)).set_low (p := ⟨w.heap.size, 0, none⟩) (B := w.heap.size + 1) (by dsimp only; omega) _).mono (by omega), Hsh.out, by omega, Hb5.out, ?_⟩, HPF.out, by omega, hs⟩
  have h3 := X2.out.below
  (repeat (with_reducible first | exact Below.refl _ _ | assumption | refine ba ?_ _ | refine bd ?_ | refine bdN ?_ _ | refine bs ?_ (by first | exact Nat.le_refl _ | (dsimp only; omega) | (simp; done)) _ | refine bt ?_ (by assumption)))
end Go.Proofs.YtcmnldomcpjlcaaGreat
