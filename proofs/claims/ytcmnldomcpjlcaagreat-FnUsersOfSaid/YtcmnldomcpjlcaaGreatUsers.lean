/- The program's UsersOf. Written by mkusers.py. -/
import Derived.Test.YtcmnldomcpjlcaaGreatSGraph
import Derived.Test.YtcmnldomcpjlcaaGreatSNames
import Derived.Test.YtcmnldomcpjlcaaGreatPlainN
import Derived.Test.YtcmnldomcpjlcaaGreatRangeC
set_option linter.unusedVariables false
set_option linter.unusedSimpArgs false
namespace Go.Proofs.YtcmnldomcpjlcaaGreat
open Go.RowKit Go.Proofs.YtcmnldomcpjlcaaGreat.Nm

/-- Whether the edges of a name have t. -/
def usesN (fs : List Fil) (path : List Int) (t s : Bs) : Bool := decide (t ∈ edgesOf fs path s)
/-- What the closure holds. -/
def UseAt (w : World) (D : Nat → Prop) (fs : List Fil) (path : List Int) (g : Value) (t : Bs) (B C : Nat) : Prop := GraphV w D fs path g ∧ HB w B 68 #[g] ∧ HB w C 9 #[.string (mk t)]
theorem UseAt.below {w w' : World} {D : Nat → Prop} {fs : List Fil} {path : List Int} {g : Value} {t : Bs} {B C : Nat} (h : UseAt w D fs path g t B C) (hb : Below w.heap.size w w') : UseAt w' D fs path g t B C := ⟨h.1.below hb, h.2.1.step hb, h.2.2.step hb⟩
set_option maxRecDepth 100000 in
set_option maxHeartbeats 4000000 in
theorem impl_UsersOf1 (g : Value) (fs : List Fil) (D : Nat → Prop) (path : List Int) (t s : Bs) (B C : Nat) (w : World) (hsl : s.length ≤ 8000000) (hlk : UseAt w D fs path g t B C) :
    Calls Tryz.prog 96 #[.string (mk s), .pointer (some ⟨B, 0, none⟩), .pointer (some ⟨C, 0, none⟩)] w fun e w' => e = .returned (.bool (!usesN fs path t s)) ∧ Below w.heap.size w w' := by
  have Hlk := Lib.hid hlk
  have hB := hlk.2.1.lt
  have hC := hlk.2.2.lt
  have x0 := hlk.2.1.cell 0
  have x1 := hlk.2.2.cell 0
  have hE := edgesOf_ok fs path s
  have hEl := hE.2.2
  have Hq := Lib.hid (show usesN fs path t s = decide (t ∈ edgesOf fs path s) from rfl)
  have Hk := Lib.hid (fun (w' : World) (hC : Below w.heap.size w w') => (⟨(Hlk.out.below hC).2.1.cell 0, (Hlk.out.below hC).2.2.cell 0, hC⟩ : w'.cell? ⟨B, 0, none⟩ = some g ∧ w'.cell? ⟨C, 0, none⟩ = some (.string (mk t)) ∧ Below w.heap.size w w'))
  clear hlk hE
  generalize usesN fs path t s = us at *
  go_enter Tryz.func96, Tryz.ntmps96
  go_wp2_with fail
  go_region_held3 (fun w' => w'.cell? ⟨B, 0, none⟩ = some g ∧ w'.cell? ⟨C, 0, none⟩ = some (.string (mk t)) ∧ Below w.heap.size w w')
    (first | exact Hk.out _ Hb5.out | exact Hk.out _ (by (repeat (with_reducible first | exact Below.refl _ _ | assumption | refine ba ?_ _ | refine bd ?_ | refine bdN ?_ _ | refine bs ?_ (by first | exact Nat.le_refl _ | (dsimp only; omega) | (simp; done)) _ | refine bt ?_ (by assumption)))))
    (first
      | (go_at_call 87; refine (impl_edges g fs path D s _ (Hlk.out.below (by (repeat (with_reducible first | exact Below.refl _ _ | assumption | refine ba ?_ _ | refine bd ?_ | refine bdN ?_ _ | refine bs ?_ (by first | exact Nat.le_refl _ | (dsimp only; omega) | (simp; done)) _ | refine bt ?_ (by assumption))))).1 hsl).mono ?_; rintro _ w5 ⟨v5, rfl, hown5, hb5⟩; have Hown5 := Lib.hid hown5; have Hb5 := Lib.hid (show Below w.heap.size w w5 by (repeat (with_reducible first | exact Below.refl _ _ | assumption | refine ba ?_ _ | refine bd ?_ | refine bdN ?_ _ | refine bs ?_ (by first | exact Nat.le_refl _ | (dsimp only; omega) | (simp; done)) _ | refine bt ?_ (by assumption)))); clear hown5 hb5)
      | (go_at_call 97; refine (slices_ContainsT _ (edgesOf fs path s) t _ (Reads.of_owns Hown5.out) (by omega)).mono ?_; rintro _ _ ⟨rfl, rfl⟩; rw [← Hq.out]))
  all_goals
    go_wp2_with fail
    go_ret
    exact ⟨rfl, Hb5.out⟩
set_option maxRecDepth 100000 in
set_option maxHeartbeats 2000000 in
theorem slices_IndexU (W : World) (g0 : Value) (fs : List Fil) (D : Nat → Prop) (path : List Int) (t : Bs) (B C : Nat) (a : Option Addr) (ca N : Nat) (xs : List Bs) (w : World) (hW : Below W.heap.size W w) (hlk : UseAt W D fs path g0 t B C)
    (hx : ∀ s ∈ xs, s.length ≤ 8000000) (hown : w.ownsRow N 9 1 (.slice a xs.length ca) xs.length (xs.map sv)) (hn : xs.length ≤ 1000000) :
    Calls Tryz.prog 143 #[.slice a xs.length ca, .func (.func 96) #[] #[.pointer (some ⟨B, 0, none⟩), .pointer (some ⟨C, 0, none⟩)]] w
      fun e w' => (∃ r : Nat, r ≤ xs.length ∧ e = .returned (.int .i64 (if r = xs.length then -1 else r)) ∧ (∀ j (h : j < xs.length), j < r → usesN fs path t xs[j] = true) ∧ (∀ h : r < xs.length, usesN fs path t xs[r] = false)) ∧ Below w.heap.size w w' := by
  have Hlk := Lib.hid hlk
  have HW := Lib.hid hW
  have Hx := Lib.hid hx
  have Hown := Lib.hid hown
  clear hlk hW hx hown
  go_enter Tryz.func143, Tryz.ntmps143
  go_wp2_with fail
  go_loopw [8] (fun iv wr => ∃ k : Nat, k ≤ xs.length ∧ iv = .int .i64 k ∧ Below w.heap.size w wr ∧ ∀ j (h : j < xs.length), j < k → usesN fs path t xs[j] = true) (fun iv _ => xs.length - (intOf iv).toNat)
  case atStart => exact ⟨0, by omega, rfl, Below.refl _ _, fun i _ h => absurd h (by omega)⟩
  case round =>
    obtain ⟨k, hk, rfl, hbel, ha⟩ := hrel
    have Ha := Lib.hid ha
    clear ha
    by_cases hlt : k < xs.length
    · have Hbel := Lib.hid hbel
      have hown := owns_below Hown.out hbel
      obtain ⟨g, cap, e1, hg, hg2⟩ := hown.form (by omega)
      simp only [Value.slice.injEq] at e1
      obtain ⟨rfl, _, rfl⟩ := e1
      have hcell : wr.cell? ⟨g, k, none⟩ = some (.string (mk xs[k])) := by
        rw [hown.cellAt k (by omega), List.getElem?_map, List.getElem?_eq_getElem hlt]; rfl
      have hsl := Hx.out _ (List.getElem_mem hlt)
      have Hn := Lib.hid (fun (h : usesN fs path t xs[k] = true) j (hj : j < xs.length) (hjk : j < k + 1) => (by
        by_cases e : j = k
        · subst e; exact h
        · exact Ha.out j hj (by omega) : usesN fs path t xs[j] = true))
      have Hf := Lib.hid (fun (h : usesN fs path t xs[k] = false) (_ : k < xs.length) => h)
      clear hown hbel
      obtain ⟨s, hs⟩ : ∃ s, s = xs[k] := ⟨_, rfl⟩
      rw [← hs] at hcell hsl
      have Hs := Lib.hid hs
      clear hs
      cases hq : usesN fs path t s
      · have Hq := Lib.hid hq
        clear hq
        go_wp2_with (go_at_call 96; refine (impl_UsersOf1 _ fs D path t s B C _ hsl (Hlk.out.below (bt HW.out (bt Hbel.out (by (repeat (with_reducible first | exact Below.refl _ _ | assumption | refine ba ?_ _ | refine bd ?_ | refine bdN ?_ _ | refine bs ?_ (by first | exact Nat.le_refl _ | (dsimp only; omega) | (simp; done)) _ | refine bt ?_ (by assumption)))))))).mono ?_; rintro _ w6 ⟨rfl, hb6⟩; rw [Hq.out])
        go_ret
        refine ⟨⟨k, by omega, ?_, fun j h1 h2 => Ha.out j h1 h2, fun h => by rw [← Hs.out]; exact Hq.out⟩, bt Hbel.out (by (repeat (with_reducible first | exact Below.refl _ _ | assumption | refine ba ?_ _ | refine bd ?_ | refine bdN ?_ _ | refine bs ?_ (by first | exact Nat.le_refl _ | (dsimp only; omega) | (simp; done)) _ | refine bt ?_ (by assumption))))⟩
        rw [if_neg (by omega)]; rfl
      · have Hq := Lib.hid hq
        clear hq
        go_wp2_with (go_at_call 96; refine (impl_UsersOf1 _ fs D path t s B C _ hsl (Hlk.out.below (bt HW.out (bt Hbel.out (by (repeat (with_reducible first | exact Below.refl _ _ | assumption | refine ba ?_ _ | refine bd ?_ | refine bdN ?_ _ | refine bs ?_ (by first | exact Nat.le_refl _ | (dsimp only; omega) | (simp; done)) _ | refine bt ?_ (by assumption)))))))).mono ?_; rintro _ w6 ⟨rfl, hb6⟩; rw [Hq.out])
        go_roundw
        case rel => exact ⟨k + 1, by omega, by go_num, bt Hbel.out (by (repeat (with_reducible first | exact Below.refl _ _ | assumption | refine ba ?_ _ | refine bd ?_ | refine bdN ?_ _ | refine bs ?_ (by first | exact Nat.le_refl _ | (dsimp only; omega) | (simp; done)) _ | refine bt ?_ (by assumption)))), Hn.out (by rw [← Hs.out]; exact Hq.out)⟩
        case measure => simp [intOf]; omega
    · obtain rfl : k = xs.length := by omega
      go_wp2_with fail
      go_ret
      exact ⟨⟨xs.length, Nat.le_refl _, by rw [if_pos rfl]; rfl, fun j h1 h2 => Ha.out j h1 h2, fun h => absurd h (by omega)⟩, hbel⟩
set_option maxRecDepth 100000 in
set_option maxHeartbeats 2000000 in
theorem slices_DeleteU (W : World) (g0 : Value) (fs : List Fil) (D : Nat → Prop) (path : List Int) (t : Bs) (B C : Nat) (a : Option Addr) (ca : Nat) (xs : List Bs) (w : World) (hW : Below W.heap.size W w) (hlk : UseAt W D fs path g0 t B C)
    (hx : ∀ s ∈ xs, s.length ≤ 8000000) (hown : w.ownsRow W.heap.size 9 1 (.slice a xs.length ca) xs.length (xs.map sv)) (hn : xs.length ≤ 1000000) :
    Calls Tryz.prog 95 #[.slice a xs.length ca, .func (.func 96) #[] #[.pointer (some ⟨B, 0, none⟩), .pointer (some ⟨C, 0, none⟩)]] w
      fun e w' => (∃ v', e = .returned v' ∧ w'.ownsRow W.heap.size 9 1 v' (xs.filter (usesN fs path t)).length ((xs.filter (usesN fs path t)).map sv)) ∧ Below W.heap.size W w' := by
  have Hlk := Lib.hid hlk
  have HW := Lib.hid hW
  have Hx := Lib.hid hx
  have Hown := Lib.hid hown
  clear hlk hW hx hown
  by_cases hall : ∀ s ∈ xs, usesN fs path t s = true
  · have Hall := Lib.hid hall
    clear hall
    go_enter Tryz.func95, Tryz.ntmps95
    go_wp2_with (go_at_call 143; refine (slices_IndexU W _ fs D path t B C a ca _ xs _ HW.out Hlk.out Hx.out Hown.out hn).mono ?_; rintro _ w5 ⟨⟨r, hrn, rfl, hr1, hr2⟩, hb5⟩; have hre : r = xs.length := Classical.byContradiction (fun h => by have h1 := hr2 (by omega); rw [Hall.out _ (List.getElem_mem (by omega))] at h1; cases h1); rw [if_pos hre]; have Hb5 := Lib.hid (bt HW.out hb5); have Hown5 := Lib.hid (owns_below Hown.out hb5); have Hr1 := Lib.hid hr1; have Hr2 := Lib.hid hr2; clear hr1 hr2 hb5)
    go_ret
    exact ⟨⟨_, rfl, by rw [List.filter_eq_self.2 Hall.out]; exact Hown5.out⟩, Hb5.out⟩
  · have Hno := Lib.hid hall
    clear hall
    go_enter Tryz.func95, Tryz.ntmps95
    go_wp2_with (go_at_call 143; refine (slices_IndexU W _ fs D path t B C a ca _ xs _ HW.out Hlk.out Hx.out Hown.out hn).mono ?_; rintro _ w5 ⟨⟨r, hrn, rfl, hr1, hr2⟩, hb5⟩; have hre : r < xs.length := Classical.byContradiction (fun h => Hno.out (fun s hs => by obtain ⟨j, hj, e⟩ := List.getElem_of_mem hs; rw [← e]; exact hr1 j hj (by omega))); have hrm : ((r : Int) == -1) = false := (by rw [beq_eq_false_iff_ne]; omega); rw [if_neg (by omega)]; have Hb5 := Lib.hid (bt HW.out hb5); have Hown5 := Lib.hid (owns_below Hown.out hb5); have Hr1 := Lib.hid hr1; have Hr2 := Lib.hid hr2; clear hr1 hr2 hb5)
    obtain ⟨g, cap, e1, hg, hg2⟩ := Hown5.out.form (by omega)
    simp only [Value.slice.injEq] at e1
    obtain ⟨rfl, _, rfl⟩ := e1
    clear Hown HW
    have Hst := Lib.hid (show xs.take r = (xs.take (r + 1)).filter (usesN fs path t) by
      rw [filter_snoc _ xs r hre, if_neg (by rw [Hr2.out hre]; simp), List.append_nil]
      exact (List.filter_eq_self.2 (fun x hx => by
        obtain ⟨j, hj, e⟩ := List.getElem_of_mem hx
        rw [List.length_take] at hj
        rw [List.getElem_take] at e
        rw [← e]; exact Hr1.out j (by omega) (by omega))).symm)
    go_loopw [5, 6] (fun mv iv wr => ∃ (m i : Nat) (ys : List Bs), m < i ∧ i ≤ xs.length ∧ mv = .int .i64 m ∧ iv = .int .i64 i ∧ ys.length = xs.length ∧ ys.take m = (xs.take i).filter (usesN fs path t) ∧ ys.drop i = xs.drop i ∧ wr.ownsRow W.heap.size 9 1 (.slice (some ⟨g, 0, none⟩) xs.length ca) xs.length (ys.map sv) ∧ Below W.heap.size W wr) (fun _ iv _ => xs.length - (intOf iv).toNat)
    case atStart => exact ⟨r, r + 1, xs, by omega, by omega, rfl, by go_num, rfl, Hst.out, rfl, Hown5.out, Hb5.out⟩
    case round =>
      obtain ⟨m, i, ys, hmi, hi, rfl, rfl, hl, h1, h2, hown, hbel⟩ := hrel
      have Hown := Lib.hid hown
      have Hbel := Lib.hid hbel
      have H1 := Lib.hid h1
      have H2 := Lib.hid h2
      have Hl := Lib.hid hl
      have hlw : w5.heap.size = w5.heap.size := rfl
      clear h1 h2 Hst Hr1 Hr2 Hown5 Hb5 hl hlw hre hrn hrm
      by_cases hlt : i < xs.length
      · have hcell : wr.cell? ⟨g, i, none⟩ = some (.string (mk xs[i])) := by
          rw [hown.cellAt i (by omega), List.getElem?_map, List.getElem?_eq_getElem (by rw [Hl.out]; exact hlt), keep_here hlt Hl.out H2.out]; rfl
        have hsl := Hx.out _ (List.getElem_mem hlt)
        have Hyes := Lib.hid (fun h => keep_set (q := usesN fs path t) hmi hlt Hl.out H1.out H2.out h)
        have Hnot := Lib.hid (fun h => keep_not (q := usesN fs path t) hlt H1.out H2.out h)
        clear hown hbel
        obtain ⟨s, hs⟩ : ∃ s, s = xs[i] := ⟨_, rfl⟩
        rw [← hs] at hcell hsl Hyes Hnot
        clear hs
        cases hq : usesN fs path t s
        · have Hq := Lib.hid hq
          have Hn2 := Lib.hid (Hnot.out hq)
          clear hq
          go_wp2_with (go_at_call 96; refine (impl_UsersOf1 _ fs D path t s B C _ hsl (Hlk.out.below (bt Hbel.out (by (repeat (with_reducible first | exact Below.refl _ _ | assumption | refine ba ?_ _ | refine bd ?_ | refine bdN ?_ _ | refine bs ?_ (by first | exact Nat.le_refl _ | (dsimp only; omega) | (simp; done)) _ | refine bt ?_ (by assumption))))))).mono ?_; rintro _ w6 ⟨rfl, hb6⟩; rw [Hq.out])
          go_roundw
          case rel => exact ⟨m, i + 1, ys, by omega, by omega, rfl, by go_num, Hl.out, Hn2.out.1, Hn2.out.2, owns_below Hown.out (by (repeat (with_reducible first | exact Below.refl _ _ | assumption | refine ba ?_ _ | refine bd ?_ | refine bdN ?_ _ | refine bs ?_ (by first | exact Nat.le_refl _ | (dsimp only; omega) | (simp; done)) _ | refine bt ?_ (by assumption)))), bt Hbel.out (by (repeat (with_reducible first | exact Below.refl _ _ | assumption | refine ba ?_ _ | refine bd ?_ | refine bdN ?_ _ | refine bs ?_ (by first | exact Nat.le_refl _ | (dsimp only; omega) | (simp; done)) _ | refine bt ?_ (by assumption))))⟩
          case measure => simp [intOf]; omega
        · have Hq := Lib.hid hq
          have Hy2 := Lib.hid (Hyes.out hq)
          clear hq
          have hme : m < xs.length := by omega
          obtain ⟨old, ho⟩ : ∃ old, ys[m]? = some old := ⟨_, List.getElem?_eq_getElem (by rw [Hl.out]; exact hme)⟩
          have Ho := Lib.hid ho
          clear ho
          go_wp2_with (go_at_call 96; refine (impl_UsersOf1 _ fs D path t s B C _ hsl (Hlk.out.below (bt Hbel.out (by (repeat (with_reducible first | exact Below.refl _ _ | assumption | refine ba ?_ _ | refine bd ?_ | refine bdN ?_ _ | refine bs ?_ (by first | exact Nat.le_refl _ | (dsimp only; omega) | (simp; done)) _ | refine bt ?_ (by assumption))))))).mono ?_; rintro _ w6 ⟨rfl, hb6⟩; rw [Hq.out]; have Ho6 := Lib.hid (owns_below Hown.out (show Below wr.heap.size wr w6 by (repeat (with_reducible first | exact Below.refl _ _ | assumption | refine ba ?_ _ | refine bd ?_ | refine bdN ?_ _ | refine bs ?_ (by first | exact Nat.le_refl _ | (dsimp only; omega) | (simp; done)) _ | refine bt ?_ (by assumption))))); have hc6 : w6.cell? ⟨g, m, none⟩ = some (.string (mk old)) := (by rw [Ho6.out.cellAt m (by omega), List.getElem?_map, Ho.out]; rfl); have hf6 := Ho6.out.frozenAt m; have Hst6 := Lib.hid (Ho6.out.stored m (sv s)).1; have Hb6 := Lib.hid ((bt Hbel.out (show Below wr.heap.size wr w6 by (repeat (with_reducible first | exact Below.refl _ _ | assumption | refine ba ?_ _ | refine bd ?_ | refine bdN ?_ _ | refine bs ?_ (by first | exact Nat.le_refl _ | (dsimp only; omega) | (simp; done)) _ | refine bt ?_ (by assumption))))).setCell (p := ⟨g, m, none⟩) hg (sv s)))
          go_roundw
          case rel => exact ⟨m + 1, i + 1, ys.set m s, by omega, by omega, by go_num, by go_num, by rw [List.length_set]; exact Hl.out, Hy2.out.1, Hy2.out.2, by rw [List.map_set]; exact Hst6.out, Hb6.out⟩
          case measure => simp [intOf]; omega
      · obtain rfl : i = xs.length := by omega
        have hlc := own_cap hown
        have hmc : ¬ ca = m := by omega
        have hmca : (m : Int) ≤ (ca : Int) := by omega
        have hcl : ∀ ty, (Builtin.clear_ #[27] ty #[.slice (some ⟨g, m, none⟩) (xs.length - m) (ca - m)]).run Tryz.prog wr = .ok (.tuple #[]) (wr.setCells g m (List.replicate (xs.length - m) (.string ByteArray.empty))) := fun ty =>
          Lib.run_clear_slice wr _ _ ty _ Tryz.underlying27 strZero rfl rfl g m _ _ (by omega) (fun j hj => by rw [hown.cellAt (m + j) (by omega), List.getElem?_map, List.getElem?_eq_getElem (by rw [Hl.out]; omega)]; rfl) (fun j hj => hown.frozenAt (m + j))
        clear hown hbel
        go_wp2_with fail
        go_ret
        have h1 := H1.out
        rw [List.take_length] at h1
        have hfm : (xs.filter (usesN fs path t)).length = m := by rw [← h1, List.length_take, Hl.out]; omega
        obtain ⟨zs, hz1, hz2⟩ := owns_tail (List.replicate (xs.length - m) (.string ByteArray.empty)) m wr _ Hown.out
        have hfr := own_front hz1 m (by omega)
        rw [hz2, ← List.map_take, h1] at hfr
        refine ⟨⟨_, rfl, ?_⟩, below_tail hg _ _ Hbel.out⟩
        rw [hfm]; exact hfr
set_option maxRecDepth 100000 in
set_option maxHeartbeats 4000000 in
theorem impl_UsersOf (v : Value) (fs : List Fil) (D : Nat → Prop) (pv : Value) (path : List Int) (s : Bs) (w : World) (hr : FilsIn w D v fs) (hz : ShortT 2000000 fs) (hp : IntsIn w pv path) (hsl : s.length ≤ 8000000) :
    Calls Tryz.prog 55 #[.agg #[v], pv, .string (mk s)] w (NewStrs 9 (usersOf fs path s) w) := by
  have Hr := Lib.hid hr
  have Hz := Lib.hid hz
  have Hp := Lib.hid hp
  obtain ⟨aa, ca, rfl, hl, hm⟩ := hr.len
  have HX := Lib.hid (HB.new w #[.slice aa fs.length ca] 31)
  have HY := Lib.hid (HB.new (w.alloc (.cells #[.slice aa fs.length ca] 31)) #[.string (mk s)] 9)
  clear hr hz hp hl hm
  obtain ⟨L, hL⟩ : ∃ L, L = foundNames fs path := ⟨_, rfl⟩
  have hL36 : L.length ≤ 36 := by
    rw [hL]
    unfold foundNames
    split
    · rename_i h
      have ht := okLook_tree h
      have h12 := (okTree_all ht).2.2
      exact Nat.le_trans (List.length_filter_le _ _) (Nat.le_trans (sortUp_len _) (Nat.le_trans (nmOf_len _ (okTree_all ht).1) (by omega)))
    · simp
  have Hvs := Lib.hid (fun x (hx : x ∈ L) => (show x.length ≤ 8000000 from Nat.le_trans (vn_len (foundNames_vn (t := fs) (path := path) (s := x) (by rw [← hL]; exact hx)).2) (by omega)))
  have Hf := Lib.hid (show L.filter (usesN fs path s) = usersOf fs path s by rw [hL]; rfl)
  have HL := Lib.hid hL
  clear hL
  have hmf : ∀ (fn : Fn) (first cap : Array Value) (w : World), (Instr.makeFunc fn first cap).run Tryz.prog w = .ok (.func fn first cap) w := fun _ _ _ _ => rfl
  go_enter Tryz.func55, Tryz.ntmps55
  go_wp2_with (go_at_call 86; refine (impl_graphOf _ fs D _ path _ (Hr.out.below (by (repeat (with_reducible first | exact Below.refl _ _ | assumption | refine ba ?_ _ | refine bd ?_ | refine bdN ?_ _ | refine bs ?_ (by first | exact Nat.le_refl _ | (dsimp only; omega) | (simp; done)) _ | refine bt ?_ (by assumption))))) Hz.out (Hp.out.below (by (repeat (with_reducible first | exact Below.refl _ _ | assumption | refine ba ?_ _ | refine bd ?_ | refine bdN ?_ _ | refine bs ?_ (by first | exact Nat.le_refl _ | (dsimp only; omega) | (simp; done)) _ | refine bt ?_ (by assumption)))))).mono ?_; rintro _ w5 ⟨g5, rfl, hg5, hb5⟩; obtain ⟨o5, rfl⟩ := hg5.shape; have Hg5 := Lib.hid hg5; have Hb5 := Lib.hid (show Below w.heap.size w w5 by (repeat (with_reducible first | exact Below.refl _ _ | assumption | refine ba ?_ _ | refine bd ?_ | refine bdN ?_ _ | refine bs ?_ (by first | exact Nat.le_refl _ | (dsimp only; omega) | (simp; done)) _ | refine bt ?_ (by assumption)))); have HX5 := Lib.hid ((HX.out.alloc _).step hb5); have HY5 := Lib.hid (HY.out.step hb5); have x0 := HX5.out.cell 0; have l0 := HX5.out.lt; have l1 := HY5.out.lt; clear hg5 hb5)
  obtain ⟨W6, hW6⟩ : ∃ x, x = w5.alloc (.cells #[.map o5] 68) := ⟨_, rfl⟩
  have hb56 : Below w5.heap.size w5 W6 := by rw [hW6]; exact ba (Below.refl _ _) _
  have HU := Lib.hid (show UseAt W6 _ fs path (.map o5) s w5.heap.size (w.heap.size + 1) from ⟨Hg5.out.below hb56, by rw [hW6]; exact HB.new _ _ _, by have h := HY5.out.step hb56; simpa using h⟩)
  have Hb6 := Lib.hid (Hb5.out.trans (hb56.mono Hb5.out.size))
  rw [← hW6]
  clear hW6 hb56 x0
  refine (impl_FoundNames _ fs D _ path _ (Hr.out.below Hb6.out) Hz.out (Hp.out.below Hb6.out)).mono ?_
  rintro _ w7 ⟨v7, rfl, hown7, hb7⟩
  rw [← HL.out] at hown7
  obtain ⟨a7, c7, rfl⟩ := owns_shape hown7
  have Hown7 := Lib.hid hown7
  have Hb7 := Lib.hid hb7
  clear hown7 hb7
  go_wp2_with (go_at_call 95; refine (slices_DeleteU W6 _ fs _ path s _ _ a7 c7 L _ Hb7.out HU.out Hvs.out Hown7.out (by omega)).mono ?_; rintro _ w8 ⟨⟨v8, rfl, hown8⟩, hb8⟩; rw [Hf.out] at hown8; have Hown8 := Lib.hid hown8; have Hb8 := Lib.hid hb8; clear hown8 hb8)
  go_ret
  exact ⟨_, rfl, owns_mono Hown8.out Hb6.out.size, Hb6.out.trans (Hb8.out.mono Hb6.out.size)⟩

/-! ### The reference's UsersOf. Written by mksusers.py. -/
theorem usersOf_no {t : List Fil} {path : List Int} {s : Bs} (h : okLook t path = false ∨ vn s = false) : usersOf t path s = [] := by
  unfold usersOf
  rcases h with h | h
  · rw [foundNames_no h]; rfl
  · rw [List.filter_eq_nil_iff]
    intro x _
    simp only [decide_eq_true_eq]
    intro hx
    have := (edgesOf_ok t path x).1 s hx
    rw [h] at this; exact absurd this (by simp)
set_option maxRecDepth 100000 in
set_option maxHeartbeats 8000000 in
theorem spec_UsersOf (v : Value) (fs : List Fil) (D : Nat → Prop) (pv : Value) (path : List Int) (s : Bs) (w : World) (hr : FilsIn w D v fs) (hz : ShortT 2000000 fs) (hp : IntsIn w pv path) (hsl : s.length ≤ 8000000) :
    Calls Tryz.prog 56 #[.agg #[v], pv, .string (mk s)] w (NewStrs 9 (usersOf fs path s) w) := by
  obtain ⟨i0, hi, hz0, hz1, hz2⟩ := info_parts infoS
  have Hi := Lib.hid hi
  have Hz0 := Lib.hid hz0
  have Hz1 := Lib.hid hz1
  have Hz2 := Lib.hid hz2
  have Hr := Lib.hid hr
  have Hz := Lib.hid hz
  have Hz3 := Lib.hid (short2 (B := 3000000) (by omega) hz)
  have Hp := Lib.hid hp
  obtain ⟨aa, ca, rfl, hl, hm⟩ := hr.len
  obtain ⟨pa, pc, rfl, hl1, hm1⟩ := hp.len
  clear hr hz hp hl hm hl1 hm1 hi hz0 hz1 hz2
  have Hb0 := Lib.hid (Nm.Boxed.start w #[.slice aa fs.length ca] 31)
  cases h1 : okTree fs
  · have H1 := Lib.hid h1
    have Hn := Lib.hid (usersOf_no (t := fs) (path := path) (s := s) (.inl (by unfold okLook; rw [h1]; simp)))
    clear h1
    go_enter Tryz.func56, Tryz.ntmps56
    go_wp2_with (first
      | (go_at_call 61; refine (spec_validTree _ fs D _ (Hr.out.below (by have := Hb0.out.below; (repeat (with_reducible first | exact Below.refl _ _ | assumption | refine ba ?_ _ | refine bd ?_ | refine bdN ?_ _ | refine bs ?_ (by first | exact Nat.le_refl _ | (dsimp only; omega) | (simp; done)) _ | refine bt ?_ (by assumption))))) Hz3.out).mono ?_; rintro _ w5 ⟨rfl, hb5⟩; rw [H1.out]; have Hx5 := Lib.hid (Hb0.out.step hb5); clear hb5; have a0 : w5.cell? ⟨w.heap.size, 0, none⟩ = some (.slice aa fs.length ca) := Hx5.out.cell 0))
    go_ret
    have hbw := Hx5.out.below
    exact noStrs Hn.out (by (repeat (with_reducible first | exact Below.refl _ _ | assumption | refine ba ?_ _ | refine bd ?_ | refine bdN ?_ _ | refine bs ?_ (by first | exact Nat.le_refl _ | (dsimp only; omega) | (simp; done)) _ | refine bt ?_ (by assumption))))
  cases h2 : okPath path
  · have H1 := Lib.hid h1
    have H2 := Lib.hid h2
    have Hn := Lib.hid (usersOf_no (t := fs) (path := path) (s := s) (.inl (by unfold okLook; rw [h2]; simp)))
    clear h1 h2
    go_enter Tryz.func56, Tryz.ntmps56
    go_wp2_with (first
      | (go_at_call 61; refine (spec_validTree _ fs D _ (Hr.out.below (by have := Hb0.out.below; (repeat (with_reducible first | exact Below.refl _ _ | assumption | refine ba ?_ _ | refine bd ?_ | refine bdN ?_ _ | refine bs ?_ (by first | exact Nat.le_refl _ | (dsimp only; omega) | (simp; done)) _ | refine bt ?_ (by assumption))))) Hz3.out).mono ?_; rintro _ w5 ⟨rfl, hb5⟩; rw [H1.out]; have Hx5 := Lib.hid (Hb0.out.step hb5); clear hb5; have a0 : w5.cell? ⟨w.heap.size, 0, none⟩ = some (.slice aa fs.length ca) := Hx5.out.cell 0)
      | (go_at_call 62; refine (spec_validPath _ path _ (Hp.out.below (by have := Hx5.out.below; (repeat (with_reducible first | exact Below.refl _ _ | assumption | refine ba ?_ _ | refine bd ?_ | refine bdN ?_ _ | refine bs ?_ (by first | exact Nat.le_refl _ | (dsimp only; omega) | (simp; done)) _ | refine bt ?_ (by assumption)))))).mono ?_; rintro _ w6 ⟨rfl, hb6⟩; rw [H2.out]; have Hx6 := Lib.hid (Hx5.out.step hb6); clear hb6; clear a0; have a0 : w6.cell? ⟨w.heap.size, 0, none⟩ = some (.slice aa fs.length ca) := Hx6.out.cell 0))
    go_ret
    have hbw := Hx6.out.below
    exact noStrs Hn.out (by (repeat (with_reducible first | exact Below.refl _ _ | assumption | refine ba ?_ _ | refine bd ?_ | refine bdN ?_ _ | refine bs ?_ (by first | exact Nat.le_refl _ | (dsimp only; omega) | (simp; done)) _ | refine bt ?_ (by assumption))))
  cases h3 : vn s
  · have H1 := Lib.hid h1
    have H2 := Lib.hid h2
    have H3 := Lib.hid h3
    have Hn := Lib.hid (usersOf_no (t := fs) (path := path) (s := s) (.inr h3))
    clear h1 h2 h3
    go_enter Tryz.func56, Tryz.ntmps56
    go_wp2_with (first
      | (go_at_call 61; refine (spec_validTree _ fs D _ (Hr.out.below (by have := Hb0.out.below; (repeat (with_reducible first | exact Below.refl _ _ | assumption | refine ba ?_ _ | refine bd ?_ | refine bdN ?_ _ | refine bs ?_ (by first | exact Nat.le_refl _ | (dsimp only; omega) | (simp; done)) _ | refine bt ?_ (by assumption))))) Hz3.out).mono ?_; rintro _ w5 ⟨rfl, hb5⟩; rw [H1.out]; have Hx5 := Lib.hid (Hb0.out.step hb5); clear hb5; have a0 : w5.cell? ⟨w.heap.size, 0, none⟩ = some (.slice aa fs.length ca) := Hx5.out.cell 0)
      | (go_at_call 62; refine (spec_validPath _ path _ (Hp.out.below (by have := Hx5.out.below; (repeat (with_reducible first | exact Below.refl _ _ | assumption | refine ba ?_ _ | refine bd ?_ | refine bdN ?_ _ | refine bs ?_ (by first | exact Nat.le_refl _ | (dsimp only; omega) | (simp; done)) _ | refine bt ?_ (by assumption)))))).mono ?_; rintro _ w6 ⟨rfl, hb6⟩; rw [H2.out]; have Hx6 := Lib.hid (Hx5.out.step hb6); clear hb6; clear a0; have a0 : w6.cell? ⟨w.heap.size, 0, none⟩ = some (.slice aa fs.length ca) := Hx6.out.cell 0)
      | (go_at_call 63; refine (spec_validName s _ hsl).mono ?_; rintro _ w7 ⟨rfl, hb7⟩; rw [H3.out]; have Hx7 := Lib.hid (Hx6.out.step hb7); clear hb7; clear a0; have a0 : w7.cell? ⟨w.heap.size, 0, none⟩ = some (.slice aa fs.length ca) := Hx7.out.cell 0))
    go_ret
    have hbw := Hx7.out.below
    exact noStrs Hn.out (by (repeat (with_reducible first | exact Below.refl _ _ | assumption | refine ba ?_ _ | refine bd ?_ | refine bdN ?_ _ | refine bs ?_ (by first | exact Nat.le_refl _ | (dsimp only; omega) | (simp; done)) _ | refine bt ?_ (by assumption))))
  have H1 := Lib.hid h1
  have H2 := Lib.hid h2
  have H3 := Lib.hid h3
  have Hlk := Lib.hid (okLook_of h1 h2)
  have h12 := (okTree_all h1).2.2
  have hL36 : (foundNames fs path).length ≤ 36 := by
    unfold foundNames
    split
    · exact Nat.le_trans (List.length_filter_le _ _) (Nat.le_trans (sortUp_len _) (Nat.le_trans (nmOf_len _ (okTree_all h1).1) (by omega)))
    · simp
  have Hvs := Lib.hid (fun x (hx : x ∈ foundNames fs path) => (foundNames_vn (t := fs) (path := path) (s := x) hx).2)
  obtain ⟨p, hpk⟩ : ∃ p : Bs → Bool, p = fun n => decide (s ∈ edgesOf fs path n) := ⟨_, rfl⟩
  have Hu := Lib.hid (show usersOf fs path s = (foundNames fs path).filter p by rw [hpk]; rfl)
  have Hpk := Lib.hid hpk
  clear h1 h2 h3 hpk
  generalize hLL : foundNames fs path = L at *
  have HLL := Lib.hid hLL
  clear hLL
  go_enter Tryz.func56, Tryz.ntmps56
  go_wp2_with (first
    | (go_at_call 61; refine (spec_validTree _ fs D _ (Hr.out.below (by have := Hb0.out.below; (repeat (with_reducible first | exact Below.refl _ _ | assumption | refine ba ?_ _ | refine bd ?_ | refine bdN ?_ _ | refine bs ?_ (by first | exact Nat.le_refl _ | (dsimp only; omega) | (simp; done)) _ | refine bt ?_ (by assumption))))) Hz3.out).mono ?_; rintro _ w5 ⟨rfl, hb5⟩; rw [H1.out]; have Hx5 := Lib.hid (Hb0.out.step hb5); clear hb5; have a0 : w5.cell? ⟨w.heap.size, 0, none⟩ = some (.slice aa fs.length ca) := Hx5.out.cell 0)
    | (go_at_call 62; refine (spec_validPath _ path _ (Hp.out.below (by have := Hx5.out.below; (repeat (with_reducible first | exact Below.refl _ _ | assumption | refine ba ?_ _ | refine bd ?_ | refine bdN ?_ _ | refine bs ?_ (by first | exact Nat.le_refl _ | (dsimp only; omega) | (simp; done)) _ | refine bt ?_ (by assumption)))))).mono ?_; rintro _ w6 ⟨rfl, hb6⟩; rw [H2.out]; have Hx6 := Lib.hid (Hx5.out.step hb6); clear hb6; clear a0; have a0 : w6.cell? ⟨w.heap.size, 0, none⟩ = some (.slice aa fs.length ca) := Hx6.out.cell 0)
    | (go_at_call 63; refine (spec_validName s _ hsl).mono ?_; rintro _ w7 ⟨rfl, hb7⟩; rw [H3.out]; have Hx7 := Lib.hid (Hx6.out.step hb7); clear hb7; clear a0; have a0 : w7.cell? ⟨w.heap.size, 0, none⟩ = some (.slice aa fs.length ca) := Hx7.out.cell 0; have hlt7 := Hx7.out.lt)
    | (go_at_call 98; refine (spec_FoundNames _ fs D _ path _ (Hr.out.below (by have := Hx7.out.below; (repeat (with_reducible first | exact Below.refl _ _ | assumption | refine ba ?_ _ | refine bd ?_ | refine bdN ?_ _ | refine bs ?_ (by first | exact Nat.le_refl _ | (dsimp only; omega) | (simp; done)) _ | refine bt ?_ (by assumption))))) Hz.out (Hp.out.below (by have := Hx7.out.below; (repeat (with_reducible first | exact Below.refl _ _ | assumption | refine ba ?_ _ | refine bd ?_ | refine bdN ?_ _ | refine bs ?_ (by first | exact Nat.le_refl _ | (dsimp only; omega) | (simp; done)) _ | refine bt ?_ (by assumption)))))).mono ?_; rintro _ w8 ⟨v8, rfl, hown8, hb8⟩; rw [HLL.out] at hown8; obtain ⟨la, lc, hv8⟩ := owns_shape hown8; subst hv8; have Hl8 := Lib.hid hown8; have Hb8 := Lib.hid (show Below (w7.alloc (.cells #[] 9)).heap.size (w7.alloc (.cells #[] 9)) w8 from hb8); clear hown8 hb8))
  have HE8 := Lib.hid (owns_below (owns_mono (World.ownsRow_lit (size := 1) (base := w7.heap.size) (e := 9) w7 #[] 0 (Nat.le_refl _) (by unfold maxLen; omega) rfl) (show w.heap.size + 1 ≤ w7.heap.size from Hx7.out.lt)) Hb8.out)
  have Hx8 := Lib.hid (Hx7.out.step (bt (ba (Below.refl _ _) _) Hb8.out))
  have hz8 : (w7.alloc (.cells #[] 9)).heap.size = w7.heap.size + 1 := by simp
  rw [hz8] at Hl8
  have HLw := Lib.hid (owns_mono Hl8.out (show w.heap.size + 1 ≤ w7.heap.size + 1 from Nat.succ_le_succ (Hx7.out.below).size))
  have Hap8 := Lib.hid (show ∀ x, (Value.slice la L.length lc).ownBlock = some x → (Value.slice (some ⟨w7.heap.size, 0, none⟩) 0 0).ownBlock ≠ some x from fun x hx e => by
    have h1 := (owns_block Hl8.out hx).1
    simp only [Value.ownBlock, Option.some.injEq] at e
    omega)
  clear Hl8 hz8 a0
  go_loopw [7, 9] (fun nv kv wr => ∃ (k : Nat), k ≤ L.length ∧ kv = .int .i64 k ∧ wr.ownsRow (w.heap.size + 1) 9 1 nv ((L.take k).filter p).length (((L.take k).filter p).map sv) ∧ wr.ownsRow (w.heap.size + 1) 9 1 (.slice la L.length lc) L.length (L.map sv) ∧ (∀ x, (Value.slice la L.length lc).ownBlock = some x → nv.ownBlock ≠ some x) ∧ Nm.Boxed w #[.slice aa fs.length ca] 31 wr) (fun _ kv _ => L.length - (intOf kv).toNat)
  case atStart => exact ⟨0, by omega, rfl, HE8.out, HLw.out, Hap8.out, Hx8.out⟩
  case round =>
    obtain ⟨k, hk, rfl, hown, hlist, hap, hbx⟩ := hrel
    obtain ⟨na, nc, rfl⟩ := owns_shape hown
    have Hown := Lib.hid hown
    have Hlist := Lib.hid hlist
    have Hap := Lib.hid hap
    have Hbx := Lib.hid hbx
    have Hbel := Lib.hid hbx.below
    have hsz := hbx.lt
    have hA : wr.cell? ⟨w.heap.size, 0, none⟩ = some (.slice aa fs.length ca) := hbx.cell 0
    clear hown hlist hap hbx HE8 HLw Hap8 Hx8 Hb8 Hx7 Hx6 Hx5
    by_cases hlt : k < L.length
    · obtain ⟨gl, cl, el, hgl1, hgl2⟩ := Hlist.out.form (by omega)
      simp only [Value.slice.injEq] at el
      obtain ⟨rfl, _, rfl⟩ := el
      have hcj : wr.cell? ⟨gl, k, none⟩ = some (.string (mk L[k])) := by
        rw [Hlist.out.cellAt k (by omega), List.getElem?_map, List.getElem?_eq_getElem hlt]; rfl
      have hgs : gl < wr.heap.size := (Hlist.out.lt gl rfl).2
      have hv := Hvs.out _ (List.getElem_mem hlt)
      have Hvn := Lib.hid hv
      have Hsn := Lib.hid (filter_snoc p L k hlt)
      have hll : ((L.take k).filter p).length ≤ 36 := Nat.le_trans (List.length_filter_le _ _) (by rw [List.length_take]; omega)
      have hk1 : (k : Int) < (L.length : Int) := by omega
      have hk0 : (0 : Int) ≤ (k : Int) := by omega
      have Hpn := Lib.hid (show p L[k] = decide (s ∈ edgesOf fs path L[k]) by rw [Hpk.out])
      obtain ⟨nm, hnm⟩ : ∃ nm, nm = L[k] := ⟨_, rfl⟩
      rw [← hnm] at hcj Hvn Hsn Hpn
      clear hv hnm hgl1 hgl2
      have heL := (edgesOf_ok fs path nm).2.2
      have Hk := Lib.hid (fun (w' : World) (hC : Below wr.heap.size wr w') => (⟨(hC.cell (p := ⟨w.heap.size, 0, none⟩) hsz).trans hA, (hC.cell (p := ⟨gl, k, none⟩) hgs).trans hcj, hC⟩ : w'.cell? ⟨w.heap.size, 0, none⟩ = some (.slice aa fs.length ca) ∧ w'.cell? ⟨gl, k, none⟩ = some (.string (mk nm)) ∧ Below wr.heap.size wr w'))
      generalize (L.take k).filter p = ds at *
      obtain ⟨es, hes⟩ : ∃ es, es = edgesOf fs path nm := ⟨_, rfl⟩
      rw [← hes] at Hpn heL
      have Hes := Lib.hid hes.symm
      clear hes
      obtain ⟨pb, hpb⟩ : ∃ b, b = p nm := ⟨_, rfl⟩
      rw [← hpb] at Hsn Hpn
      clear hpb
      cases pb
      · have Hs2 := Lib.hid (show (L.take (k + 1)).filter p = ds by rw [Hsn.out]; simp)
        clear Hsn
        go_wp2_with fail
        go_region_held3 (fun w' => w'.cell? ⟨w.heap.size, 0, none⟩ = some (.slice aa fs.length ca) ∧ w'.cell? ⟨gl, k, none⟩ = some (.string (mk nm)) ∧ Below wr.heap.size wr w')
          (first | exact Hk.out _ Hb9.out | exact Hk.out _ (by (repeat (with_reducible first | exact Below.refl _ _ | assumption | refine ba ?_ _ | refine bd ?_ | refine bdN ?_ _ | refine bs ?_ (by first | exact Nat.le_refl _ | (dsimp only; omega) | (simp; done)) _ | refine bt ?_ (by assumption)))))
          (first
            | (go_at_call 99; refine (spec_edges _ fs D _ path nm _ (Hr.out.below (bt Hbel.out (by (repeat (with_reducible first | exact Below.refl _ _ | assumption | refine ba ?_ _ | refine bd ?_ | refine bdN ?_ _ | refine bs ?_ (by first | exact Nat.le_refl _ | (dsimp only; omega) | (simp; done)) _ | refine bt ?_ (by assumption)))))) Hz.out Hlk.out Hvn.out (Hp.out.below (bt Hbel.out (by (repeat (with_reducible first | exact Below.refl _ _ | assumption | refine ba ?_ _ | refine bd ?_ | refine bdN ?_ _ | refine bs ?_ (by first | exact Nat.le_refl _ | (dsimp only; omega) | (simp; done)) _ | refine bt ?_ (by assumption))))))).mono ?_; rintro _ w9 ⟨v9, rfl, hown9, hb9⟩; rw [Hes.out] at hown9; have Hown9 := Lib.hid hown9; have Hb9 := Lib.hid (show Below wr.heap.size wr w9 by (repeat (with_reducible first | exact Below.refl _ _ | assumption | refine ba ?_ _ | refine bd ?_ | refine bdN ?_ _ | refine bs ?_ (by first | exact Nat.le_refl _ | (dsimp only; omega) | (simp; done)) _ | refine bt ?_ (by assumption)))); clear hown9 hb9)
            | (go_at_call 80; refine (spec_hasText _ es s _ (Reads.of_owns Hown9.out) (by omega)).mono ?_; rintro _ _ ⟨rfl, rfl⟩; rw [← Hpn.out]))
        clear hA hcj
        go_wp2_with fail
        go_roundw
        case rel => exact ⟨k + 1, by omega, by go_num, by rw [Hs2.out]; exact owns_below Hown.out Hb9.out, owns_below Hlist.out Hb9.out, Hap.out, Hbx.out.step Hb9.out⟩
        case measure => simp [intOf]; omega
      · have Hs2 := Lib.hid (show (L.take (k + 1)).filter p = ds ++ [nm] by rw [Hsn.out]; simp)
        clear Hsn
        go_wp2_with fail
        go_region_held3 (fun w' => w'.cell? ⟨w.heap.size, 0, none⟩ = some (.slice aa fs.length ca) ∧ w'.cell? ⟨gl, k, none⟩ = some (.string (mk nm)) ∧ Below wr.heap.size wr w')
          (first | exact Hk.out _ Hb9.out | exact Hk.out _ (by (repeat (with_reducible first | exact Below.refl _ _ | assumption | refine ba ?_ _ | refine bd ?_ | refine bdN ?_ _ | refine bs ?_ (by first | exact Nat.le_refl _ | (dsimp only; omega) | (simp; done)) _ | refine bt ?_ (by assumption)))))
          (first
            | (go_at_call 99; refine (spec_edges _ fs D _ path nm _ (Hr.out.below (bt Hbel.out (by (repeat (with_reducible first | exact Below.refl _ _ | assumption | refine ba ?_ _ | refine bd ?_ | refine bdN ?_ _ | refine bs ?_ (by first | exact Nat.le_refl _ | (dsimp only; omega) | (simp; done)) _ | refine bt ?_ (by assumption)))))) Hz.out Hlk.out Hvn.out (Hp.out.below (bt Hbel.out (by (repeat (with_reducible first | exact Below.refl _ _ | assumption | refine ba ?_ _ | refine bd ?_ | refine bdN ?_ _ | refine bs ?_ (by first | exact Nat.le_refl _ | (dsimp only; omega) | (simp; done)) _ | refine bt ?_ (by assumption))))))).mono ?_; rintro _ w9 ⟨v9, rfl, hown9, hb9⟩; rw [Hes.out] at hown9; have Hown9 := Lib.hid hown9; have Hb9 := Lib.hid (show Below wr.heap.size wr w9 by (repeat (with_reducible first | exact Below.refl _ _ | assumption | refine ba ?_ _ | refine bd ?_ | refine bdN ?_ _ | refine bs ?_ (by first | exact Nat.le_refl _ | (dsimp only; omega) | (simp; done)) _ | refine bt ?_ (by assumption)))); clear hown9 hb9)
            | (go_at_call 80; refine (spec_hasText _ es s _ (Reads.of_owns Hown9.out) (by omega)).mono ?_; rintro _ _ ⟨rfl, rfl⟩; rw [← Hpn.out]))
        clear hA hcj
        obtain ⟨hA, hcj, _⟩ := Hk.out w9 Hb9.out
        have Hown10 := Lib.hid (owns_below Hown.out Hb9.out)
        have Hl10 := Lib.hid (owns_below Hlist.out Hb9.out)
        have Hx10 := Lib.hid (Hbx.out.step Hb9.out)
        have hz10 := Hx10.out.lt
        go_wp2_with (at_builtin; refine wpList_append_own_at _ rfl _ _ 27 rfl (w.heap.size + 1) 9 i0 (.string ByteArray.empty) 1 16 Tryz.underlying27 Hi.out Hz0.out Hz1.out Hz2.out rfl (by decide) _ ds.length _ rfl (Hown10.out.alloc _) ⟨_, 0, none⟩ 1 1 [.string (mk nm)] rfl rfl (new_one (by first | rfl | simp)) (fun x hx => by simp at hx; subst hx; rfl) (by unfold maxLen; omega) (by omega) (by simp; omega) ?_; intro v11 w11 hown11 hgrow11 hnil11 hat11)
        have Hg11 := Lib.hid (gb_step (World.grownBy_alloc w9 (.cells #[.string (mk nm)] 9) (Value.slice na ds.length nc).ownBlock) hgrow11 (fun x hx => .inl hx))
        have Hown11 := Lib.hid (show w11.ownsRow (w.heap.size + 1) 9 1 v11 (ds ++ [nm]).length ((ds ++ [nm]).map sv) by rw [List.length_append, List.map_append]; exact hown11)
        have Hat11 := Lib.hid hat11
        clear hown11 hgrow11 hnil11 hat11
        go_roundw
        case rel =>
          refine ⟨k + 1, by omega, by go_num, by rw [Hs2.out]; exact Hown11.out, owns_heap Hl10.out (fun x hx => Hg11.out.block x (owns_block Hl10.out hx).2 (fun e => Hap.out x hx e.symm)), fun x hx e => ?_, ?_⟩
          · rcases Hat11.out with h | h
            · have h' : v11.ownBlock = (Value.slice na ds.length nc).ownBlock := h
              exact Hap.out x hx (h'.symm.trans e)
            · rw [h] at e
              have h1 := (owns_block Hl10.out hx).2
              simp at e
              omega
          · have h := Hx10.out
            unfold Nm.Boxed at h ⊢
            exact h.grown Hg11.out (by simp; omega) (fun x hx => by have := (Hown10.out.lt x hx).1; simp; omega)
        case measure => simp [intOf]; omega
    · obtain rfl : k = L.length := by omega
      rw [List.take_length] at Hown ⊢
      go_wp2_with fail
      go_ret
      refine ⟨_, rfl, ?_, Hbel.out⟩
      rw [Hu.out]
      exact owns_mono Hown.out (Nat.le_succ _)
end Go.Proofs.YtcmnldomcpjlcaaGreat
