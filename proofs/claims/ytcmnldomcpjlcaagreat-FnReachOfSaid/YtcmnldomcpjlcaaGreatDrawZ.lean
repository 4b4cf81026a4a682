/- The functions that draw a tree, and what else a law takes. Written by mkdraws.py. -/
import Derived.Test.YtcmnldomcpjlcaaGreatDrawY
import Derived.Test.YtcmnldomcpjlcaaGreatDrawF
import Derived.Test.YtcmnldomcpjlcaaGreatDrawP
import Derived.Deep.RegionLaw
set_option linter.unusedVariables false
set_option linter.unusedSimpArgs false
namespace Go.Proofs.YtcmnldomcpjlcaaGreat
open Go.RowKit Go.Proofs.YtcmnldomcpjlcaaGreat.Nm

theorem PathIn.gbR {w w' : World} {v : Value} {R q : Nat} {xs : List Int} (h : PathIn w v xs) (hr : Rd w R q) (hg : w.grownBy w' (some R)) : PathIn w' v xs := by
  obtain ⟨g, cap, h1, h2, h3, h4, h5⟩ := h
  refine ⟨g, cap, h1, h2, h3, Nat.lt_of_lt_of_le h4 hg.size, fun j u hu => ?_⟩
  have hj := (List.getElem?_eq_some_iff.1 hu).1
  rw [List.length_map] at hj
  have hne : g ≠ R := by
    rintro rfl
    obtain ⟨a, n, c, hRR, _⟩ := hr
    have := h5 0 (iv xs[0]) (by rw [List.getElem?_map, List.getElem?_eq_getElem (by omega)]; rfl)
    rw [add0P] at this
    simp only [World.cell?, hRR] at this
    simp [iv] at this
  rw [add0P, World.cell?_of_block (w := w) (hg.block g h4 (fun e => hne (Option.some.inj e))), ← add0P]
  exact h5 j u hu
theorem PathIn.len {w : World} {v : Value} {xs : List Int} (h : PathIn w v xs) : ∃ a c, v = .slice a xs.length c := by
  obtain ⟨g, cap, h1, _⟩ := h
  exact ⟨_, _, h1⟩
/-- A drawn tree. -/
def TreeD (w w' : World) (v : Value) (ps : List (Fil × Value)) : Prop :=
  RowsB w' w.heap.size v ps ∧ ShortT 8 (ps.map (·.1)) ∧ ps.length ≤ 11 ∧ (∀ p ∈ ps, p.1.body.length ≤ 5) ∧ Below w.heap.size w w'
theorem below_keep {w W w' : World} {c : Nat} (h : Below c W w') (hw : w.heap.size ≤ W.heap.size) (hc : w.heap.size ≤ c) (hb : Below w.heap.size w W) : Below w.heap.size w w' := hb.trans (h.mono hc)
/-- A path stays where a cell with a slice is written. -/
theorem PathIn.set_box {w : World} {v : Value} {xs : List Int} {X : Nat} {a : Option Addr} {n c : Nat} (h : PathIn w v xs) (hx : w.cell? ⟨X, 0, none⟩ = some (.slice a n c)) (u : Value) : PathIn (w.setCell ⟨X, 0, none⟩ u) v xs := by
  obtain ⟨g, cap, h1, h2, h3, h4, h5⟩ := h
  refine ⟨g, cap, h1, h2, h3, by simpa using h4, fun j x hj => ?_⟩
  have h6 := h5 j x hj
  rw [add0P] at h6 ⊢
  have hne : (⟨g, j, none⟩ : Addr) ≠ ⟨X, 0, none⟩ := by
    intro e
    rw [e, hx] at h6
    have h7 := Option.some.inj h6
    rw [List.getElem?_map] at hj
    cases hk : xs[j]? with
    | none => rw [hk] at hj; cases hj
    | some y => rw [hk] at hj; rw [← h7] at hj; simp [iv] at hj
  rw [World.cell?_setCell_other _ _ _ _ (Ne.symm hne)]
  exact h6

/-! ### The function that draws a tree and a mode for a law. -/

/-! ### The functions that draw a tree, a path and a name; and more for a law. Written by mkdraws.py. -/
/-- What nameOf comes to: a tree, a path and a text. -/
def DrawName (R q c : Nat) (w : World) (e : Ending) (w' : World) : Prop :=
  ∃ v ps pv xs s, e = .returned (.tuple #[.agg #[v], pv, .string (mk s)]) ∧ RowsB w' w.heap.size v ps ∧ ShortT 8 (ps.map (·.1)) ∧ ps.length ≤ 11 ∧ (∀ p ∈ ps, p.1.body.length ≤ 5) ∧ PathIn w' pv xs ∧ xs.length ≤ 3 ∧ s.length ≤ 17 ∧ ∃ q', q' ≤ q + c ∧ Rd w' R q' ∧ w.grownBy w' (some R)
theorem PathIn.drew {w : World} {v : Value} {xs : List Int} (h : PathIn w v xs) : PathIn w.drew v xs := h.below ⟨rfl, rfl, rfl, Nat.le_refl _, fun _ _ => rfl⟩
theorem RowsB.drew {w : World} {B : Nat} {v : Value} {ps : List (Fil × Value)} (h : RowsB w B v ps) : RowsB w.drew B v ps := h.below ⟨rfl, rfl, rfl, Nat.le_refl _, fun _ _ => rfl⟩
set_option maxRecDepth 100000 in
set_option maxHeartbeats 4000000 in
theorem spec_nameOf (R q : Nat) (w : World) (hr : Rd w R q) (hq : q ≤ 100000) :
    Calls Tryz.prog 83 #[.pointer (some ⟨R, 0, none⟩)] w (DrawName R q 622 w) := by
  have hR := hr.lt
  go_enter Tryz.func83, Tryz.ntmps83
  go_wp2_with fail
  have d0 := Dst.start hR #[.slice none 0 0] 31
  refine (spec_anyTree R q _ (hr.alloc _) (by omega)).mono ?_
  rintro e w1 ⟨v, ps, rfl, hrows, hsh, hl, hb5, q1, hq1, hr1, hg1⟩
  obtain ⟨va, vc, rfl⟩ := hrows.len
  have Hsh := Lib.hid hsh
  have Hb5 := Lib.hid hb5
  have D1 := Lib.hid (d0.step hg1)
  have hR1 := hr1.lt
  have hz1 : w.heap.size + 1 ≤ w1.heap.size := by have := hg1.size; simpa using this
  have HR1 := Lib.hid (hrows.mono (B' := w.heap.size + 1) (by simp))
  clear hrows hsh hb5 hg1 d0
  have E1 : Dst w R w1.heap.size #[.slice va ps.length vc] (w1.alloc (.cells #[.slice va ps.length vc] 31)) := by
    obtain ⟨h1, h2, h3, h4, h5⟩ := Dst.start (w := w1) hR1 #[.slice va ps.length vc] 31
    exact ⟨h1, h2, gb_trans D1.out.2.2.1 h3, h4, by omega⟩
  have HR2 := Lib.hid (HR1.out.below (ba (Below.refl _ _) (.cells #[.slice va ps.length vc] 31)))
  have D2 := Lib.hid (D1.out.alloc (.cells #[.slice va ps.length vc] 31))
  have hr2 := hr1.alloc (.cells #[.slice va ps.length vc] 31)
  go_wp2_with fail
  refine (spec_anyPath R q1 _ hr2 (by omega)).mono ?_
  rintro e w3 ⟨pv, xs, rfl, hp, hx3, q3, hq3, hr3, hg3⟩
  obtain ⟨pa, pc, rfl⟩ := hp.len
  have HP3 := Lib.hid hp
  have HR3 := Lib.hid (HR2.out.gb hg3 (by omega))
  have D3 := Lib.hid (D2.out.step hg3)
  have E3 := Lib.hid (E1.step hg3)
  have hz3 : w1.heap.size + 1 ≤ w3.heap.size := by have := hg3.size; simpa using this
  have hR3 := hr3.lt
  clear hp hg3 HR2 D2 E1 hr2 HR1 D1
  obtain ⟨X, hX⟩ : ∃ X, X = w1.heap.size := ⟨_, rfl⟩
  rw [← hX] at E3 hz3 ⊢
  have hXw : w.heap.size ≠ X := by omega
  have hXw' : X ≠ w.heap.size := by omega
  clear hX hz1 hR1 hr1 hr
  have y0 : w3.cell? ⟨X, 0, none⟩ = some (.slice va ps.length vc) := E3.out.1.2 0
  have x0 : w3.cell? ⟨w.heap.size, 0, none⟩ = some (.slice none 0 0) := D3.out.1.2 0
  have xf : w3.frozen? ⟨w.heap.size, 0, none⟩ = false := D3.out.2.1 0
  have fin : ∀ (W : World) (q' : Nat) (s : Bs), RowsB W (w.heap.size + 1) (.slice va ps.length vc) ps → PathIn W (.slice pa xs.length pc) xs → Dst w R w.heap.size #[.slice none 0 0] W → Rd W R q' → q' ≤ q + 622 → s.length ≤ 17 →
      DrawName R q 622 w (.returned (.tuple #[.agg #[.slice va ps.length vc], .slice pa xs.length pc, .string (mk s)])) (W.setCell ⟨w.heap.size, 0, none⟩ (.slice va ps.length vc)) := fun W q' s h1 h2 h3 h4 h5 h6 =>
    ⟨_, ps, _, xs, s, rfl, (h1.set_low (by dsimp only; omega) _).mono (by omega), Hsh.out, by omega, Hb5.out, PathIn.set_box h2 (h3.1.2 0) _, hx3, h6, q', h5, h4.set (by dsimp only; omega) _, gb_set h3.2.2.1 (by dsimp only; omega) _⟩
  have Fin := Lib.hid fin
  clear fin
  by_cases hp0 : 0 < ps.length
  · have hp0i : (0 : Int) < (ps.length : Int) := by omega
    go_wp2_with fail
    refine (reader_pick R q3 _ _ hr3 (by omega) (by omega)).mono ?_
    rintro e w4 ⟨j, rfl, hj0, hj, hr4, hg4⟩
    have HP4 := Lib.hid (HP3.out.gbR hr3 hg4)
    have HR4 := Lib.hid (HR3.out.gb hg4 (by omega))
    have D4 := Lib.hid (D3.out.step hg4)
    have E4 := Lib.hid (E3.out.step hg4)
    have hz4 := hg4.size
    have y4 : w4.cell? ⟨X, 0, none⟩ = some (.slice va ps.length vc) := E4.out.1.2 0
    have x4 : w4.cell? ⟨w.heap.size, 0, none⟩ = some (.slice none 0 0) := D4.out.1.2 0
    have xf4 : w4.frozen? ⟨w.heap.size, 0, none⟩ = false := D4.out.2.1 0
    clear hg4 HP3 HR3 D3 E3 y0 x0 xf hr3 hj
    by_cases hj1 : 0 < j
    · go_wp2_with fail
      go_region_law (first
        | (go_simp; go_at_call 130; refine (reader_pick R (q3 + 1) (ps.length : Int) _ (hr4.drew) (by omega) (by omega)).mono ?_; rintro e w5 ⟨i, rfl, hi0, hi, hr5, hg5⟩; obtain ⟨k, rfl⟩ := Int.eq_ofNat_of_zero_le hi0; have hk : k < ps.length := (by rcases hi with h | h <;> omega); have HP5 := Lib.hid (HP4.out.drew.gbR hr4.drew hg5); have HR5 := Lib.hid (HR4.out.drew.gb hg5 (by omega)); have D5 := Lib.hid (D4.out.drew.step hg5); have E5 := Lib.hid (E4.out.drew.step hg5); have Hr5 := Lib.hid hr5; have y5 : w5.cell? ⟨X, 0, none⟩ = some (.slice va ps.length vc) := E5.out.1.2 0; have z5 : w5.cell? ⟨w.heap.size, 0, none⟩ = some (.slice none 0 0) := D5.out.1.2 0; have zf5 : w5.frozen? ⟨w.heap.size, 0, none⟩ = false := D5.out.2.1 0; obtain ⟨g, cap, e1, hg, _⟩ := HR5.out.1.form (by omega); simp only [Value.slice.injEq] at e1; obtain ⟨rfl, _, rfl⟩ := e1; obtain ⟨⟨c0, c1, c2, c3, c4, c5⟩, _⟩ := own6 HR5.out.1 k hk; have Hz := Lib.hid (show ShortF 8 ps[k].1 from Hsh.out _ (List.mem_map.2 ⟨ps[k], List.getElem_mem hk, rfl⟩)); obtain ⟨f, hf⟩ : ∃ f, f = ps[k] := ⟨_, rfl⟩; rw [← hf] at c0 c1 c2 c3 c4 c5 Hz; obtain ⟨⟨fr, fp, fn, fi, fst, fb⟩, bv⟩ := f; dsimp only at c0 c1 c2 c3 c4 c5; clear hg5 hr5 hf)
        | (go_simp; go_at_call 131; refine (spec_moduleName _ _ _ _ _ _ fb _ (by have := Hz.out.1; dsimp only at this; omega) (by have := Hz.out.2.1; dsimp only at this; omega)).mono ?_; rintro e w6 ⟨rfl, hb6⟩; have HX6 := Lib.hid hb6; have D6 := Lib.hid (D5.out.step (gb_below hb6 _)); have z6 : w6.cell? ⟨w.heap.size, 0, none⟩ = some (.slice none 0 0) := D6.out.1.2 0; have zf6 : w6.frozen? ⟨w.heap.size, 0, none⟩ = false := D6.out.2.1 0; have E6 := Lib.hid (E5.out.step (gb_below hb6 _)); have y6 : w6.cell? ⟨X, 0, none⟩ = some (.slice (some ⟨g, 0, none⟩) ps.length vc) := E6.out.1.2 0; clear hb6))
      all_goals
        have HB6 := Lib.hid HX6.out
        have HP6 := Lib.hid (HP5.out.below HB6.out)
        have HR6 := Lib.hid (HR5.out.below HB6.out)
        have Hr6 := Lib.hid (Hr5.out.below HB6.out (Hr5.out.lt))
        have hml := modName_len ⟨fr, fp, fn, fi, fst, fb⟩
        have hz1 := Hz.out.1
        have hz2 := Hz.out.2.1
        dsimp only at hml hz1 hz2
        have Hml := Lib.hid (show (modName ⟨fr, fp, fn, fi, fst, fb⟩).length ≤ 17 by omega)
        generalize modName ⟨fr, fp, fn, fi, fst, fb⟩ = s at *
        go_wp2_with fail
        exact bodyPost_ret (v := .tuple #[.agg #[.slice (some ⟨g, 0, none⟩) ps.length vc], .slice pa xs.length pc, .string (mk s)]) (by simp [results, Tryz.results83, go_sem, z6]) rfl (Fin.out w6 _ s HR6.out HP6.out D6.out Hr6.out (by omega) Hml.out)
    · have hj1b : decide (0 < j) = false := decide_eq_false hj1
      go_wp2_with fail
      go_region_law (first
        | (go_simp; go_at_call 132; refine (spec_anyName R (q3 + 1) _ (hr4.drew) (by omega)).mono ?_; rintro e w5 ⟨s, rfl, hs5, q5, hq5, hr5, hg5⟩; have HP5 := Lib.hid (HP4.out.drew.gbR hr4.drew hg5); have HR5 := Lib.hid (HR4.out.drew.gb hg5 (by omega)); have D5 := Lib.hid (D4.out.drew.step hg5); have E5 := Lib.hid (E4.out.drew.step hg5); have Hr5 := Lib.hid hr5; have y5 : w5.cell? ⟨X, 0, none⟩ = some (.slice va ps.length vc) := E5.out.1.2 0; have z5 : w5.cell? ⟨w.heap.size, 0, none⟩ = some (.slice none 0 0) := D5.out.1.2 0; have zf5 : w5.frozen? ⟨w.heap.size, 0, none⟩ = false := D5.out.2.1 0; clear hg5 hr5))
      all_goals
        go_wp2_with fail
        exact bodyPost_ret (v := .tuple #[.agg #[.slice va ps.length vc], .slice pa xs.length pc, .string (mk s)]) (by simp [results, Tryz.results83, go_sem, z5]) rfl (Fin.out w5 _ s HR5.out HP5.out D5.out Hr5.out (by omega) (by omega))
  · have hp0i : ¬ (0 : Int) < (ps.length : Int) := by omega
    have hp0b : decide ((0 : Int) < (ps.length : Int)) = false := decide_eq_false hp0i
    go_wp2_with fail
    go_region_law (first
      | (go_simp; go_at_call 132; refine (spec_anyName R q3 _ (hr3.drew) (by omega)).mono ?_; rintro e w5 ⟨s, rfl, hs5, q5, hq5, hr5, hg5⟩; have HP5 := Lib.hid (HP3.out.drew.gbR hr3.drew hg5); have HR5 := Lib.hid (HR3.out.drew.gb hg5 (by omega)); have D5 := Lib.hid (D3.out.drew.step hg5); have E5 := Lib.hid (E3.out.drew.step hg5); have Hr5 := Lib.hid hr5; have y5 : w5.cell? ⟨X, 0, none⟩ = some (.slice va ps.length vc) := E5.out.1.2 0; have z5 : w5.cell? ⟨w.heap.size, 0, none⟩ = some (.slice none 0 0) := D5.out.1.2 0; have zf5 : w5.frozen? ⟨w.heap.size, 0, none⟩ = false := D5.out.2.1 0; clear hg5 hr5))
    all_goals
      go_wp2_with fail
      exact bodyPost_ret (v := .tuple #[.agg #[.slice va ps.length vc], .slice pa xs.length pc, .string (mk s)]) (by simp [results, Tryz.results83, go_sem, z5]) rfl (Fin.out w5 _ s HR5.out HP5.out D5.out Hr5.out (by omega) (by omega))

/-- A tree, a path and a text, drawn for a law. -/
def NameD (w : World) (e : Ending) (w' : World) : Prop := ∃ v ps pv xs s, e = .returned (.tuple #[.agg #[v], pv, .string (mk s)]) ∧ TreeD w w' v ps ∧ PathIn w' pv xs ∧ xs.length ≤ 3 ∧ s.length ≤ 17

/-! ### Draws of a tree, a path and a name for the laws of chapter 7. Written by mkdrawq.py after DrawO. -/
set_option maxRecDepth 100000 in
set_option maxHeartbeats 800000 in
theorem spec_DrawReachOf (a : Option Addr) (n cap : Nat) (w : World) (hc : Code w w.heap.size a n cap) :
    Calls Tryz.prog 37 #[.slice a n cap] w (NameD w) := by
  go_enter Tryz.func37, Tryz.ntmps37
  go_wp2_with fail
  refine (spec_newReader a n cap _ (code_alloc hc _)).mono ?_
  rintro e w1 ⟨rfl, hr, hb⟩
  have hz := hb.size
  have B1 := Lib.hid ((Boxed.start w #[.slice none 0 0] 31).step hb)
  have hz1 : w.heap.size + 1 ≤ w1.heap.size := by simp at hz; omega
  simp only [World.size_alloc] at hr hz ⊢
  have hRlt := hr.lt
  clear hb
  go_wp2_with fail
  refine (spec_nameOf _ 0 _ hr (by omega)).mono ?_
  rintro e w2 ⟨v, ps, pv, xs, s, rfl, hrows, hsh, hl, hb5, hp, hx3, hs, q2, hq2, hr2, hg2⟩
  obtain ⟨va, vc, rfl⟩ := hrows.len
  obtain ⟨pa, pc, rfl⟩ := hp.len
  have HP2 := Lib.hid hp
  have HR2 := Lib.hid hrows
  have Hsh := Lib.hid hsh
  have Hb5 := Lib.hid hb5
  have B2 := Lib.hid (show Below (w.heap.size + 1) (w.alloc (.cells #[.slice none 0 0] 31)) w2 from below_gb (by have := B1.out; unfold Boxed at this; simpa using this) hz1 (Nat.le_refl _) hg2)
  have hz2 := hg2.size
  clear hrows hsh hb5 hg2 B1 hp
  have X2 := Lib.hid (show Boxed w #[.slice none 0 0] 31 w2 from by unfold Boxed; simpa using B2.out)
  have x0 : w2.cell? ⟨w.heap.size, 0, none⟩ = some (.slice none 0 0) := X2.out.cell 0
  have xf : w2.frozen? ⟨w.heap.size, 0, none⟩ = false := by
    have := X2.out.frozen (p := ⟨w.heap.size, 0, none⟩) (by simp)
    rw [this]; simp [go_sem]
  have HPF := Lib.hid (PathIn.set_box HP2.out x0 (.slice va ps.length vc))
  generalize hpn : ps.length = pn at *
  generalize hxn : xs.length = xn at *
  go_wp2_with fail
  refine bodyPost_ret (v := .tuple #[.agg #[.slice va pn vc], .slice pa xn pc, .string (mk s)]) (by simp [results, Tryz.results37, go_sem, *]) rfl ⟨_, ps, _, xs, s, rfl, ⟨((HR2.out.mono (by omega)).set_low (p := ⟨w.heap.size, 0, none⟩) (B := w.heap.size + 1) (by dsimp only; omega) _).mono (by omega), Hsh.out, by omega, Hb5.out, ?_⟩, HPF.out, by omega, hs⟩
  have h3 := X2.out.below
  (repeat (with_reducible first | exact Below.refl _ _ | assumption | refine ba ?_ _ | refine bd ?_ | refine bdN ?_ _ | refine bs ?_ (by first | exact Nat.le_refl _ | (dsimp only; omega) | (simp; done)) _ | refine bt ?_ (by assumption)))
set_option maxRecDepth 100000 in
set_option maxHeartbeats 800000 in
theorem spec_DrawUsersOf (a : Option Addr) (n cap : Nat) (w : World) (hc : Code w w.heap.size a n cap) :
    Calls Tryz.prog 54 #[.slice a n cap] w (NameD w) := by
  go_enter Tryz.func54, Tryz.ntmps54
  go_wp2_with fail
  refine (spec_newReader a n cap _ (code_alloc hc _)).mono ?_
  rintro e w1 ⟨rfl, hr, hb⟩
  have hz := hb.size
  have B1 := Lib.hid ((Boxed.start w #[.slice none 0 0] 31).step hb)
  have hz1 : w.heap.size + 1 ≤ w1.heap.size := by simp at hz; omega
  simp only [World.size_alloc] at hr hz ⊢
  have hRlt := hr.lt
  clear hb
  go_wp2_with fail
  refine (spec_nameOf _ 0 _ hr (by omega)).mono ?_
  rintro e w2 ⟨v, ps, pv, xs, s, rfl, hrows, hsh, hl, hb5, hp, hx3, hs, q2, hq2, hr2, hg2⟩
  obtain ⟨va, vc, rfl⟩ := hrows.len
  obtain ⟨pa, pc, rfl⟩ := hp.len
  have HP2 := Lib.hid hp
  have HR2 := Lib.hid hrows
  have Hsh := Lib.hid hsh
  have Hb5 := Lib.hid hb5
  have B2 := Lib.hid (show Below (w.heap.size + 1) (w.alloc (.cells #[.slice none 0 0] 31)) w2 from below_gb (by have := B1.out; unfold Boxed at this; simpa using this) hz1 (Nat.le_refl _) hg2)
  have hz2 := hg2.size
  clear hrows hsh hb5 hg2 B1 hp
  have X2 := Lib.hid (show Boxed w #[.slice none 0 0] 31 w2 from by unfold Boxed; simpa using B2.out)
  have x0 : w2.cell? ⟨w.heap.size, 0, none⟩ = some (.slice none 0 0) := X2.out.cell 0
  have xf : w2.frozen? ⟨w.heap.size, 0, none⟩ = false := by
    have := X2.out.frozen (p := ⟨w.heap.size, 0, none⟩) (by simp)
    rw [this]; simp [go_sem]
  have HPF := Lib.hid (PathIn.set_box HP2.out x0 (.slice va ps.length vc))
  generalize hpn : ps.length = pn at *
  generalize hxn : xs.length = xn at *
  go_wp2_with fail
  refine bodyPost_ret (v := .tuple #[.agg #[.slice va pn vc], .slice pa xn pc, .string (mk s)]) (by simp [results, Tryz.results54, go_sem, *]) rfl ⟨_, ps, _, xs, s, rfl, ⟨((HR2.out.mono (by omega)).set_low (p := ⟨w.heap.size, 0, none⟩) (B := w.heap.size + 1) (by dsimp only; omega) _).mono (by omega), Hsh.out, by omega, Hb5.out, ?_⟩, HPF.out, by omega, hs⟩
  have h3 := X2.out.below
  (repeat (with_reducible first | exact Below.refl _ _ | assumption | refine ba ?_ _ | refine bd ?_ | refine bdN ?_ _ | refine bs ?_ (by first | exact Nat.le_refl _ | (dsimp only; omega) | (simp; done)) _ | refine bt ?_ (by assumption)))
end Go.Proofs.YtcmnldomcpjlcaaGreat
