/- The program's iterator over the names to which ways lead: its contract under the own law of RangeC. -/
import Derived.Test.YtfchakfkgmhagaaGreatGraphN
import Derived.Test.YtfchakfkgmhagaaGreatPlainQ
import Derived.Test.YtfchakfkgmhagaaGreatRangeC
import Derived.Shelf.Abstract
import Derived.Shelf.RegionOpen
import Derived.OwnWalkIn
import Derived.TacticsInMore
import Derived.Deep.DeepCutAuto
import Derived.Deep.CutBlock
import Derived.RangeFuncRecord
set_option linter.unusedVariables false
set_option linter.unusedSimpArgs false
namespace Go.Proofs.YtfchakfkgmhagaaGreat
open Go.RowKit Go.Proofs.YtfchakfkgmhagaaGreat.Nm
attribute [local go_sem] Oper.semAt_some
theorem GraphV.shape {w : World} {D : Nat → Prop} {fs : List Fil} {path : List Int} {g : Value} (h : GraphV w D fs path g) : ∃ o, g = .map o := by
  rcases h with ⟨rfl, _⟩ | ⟨_, b, rfl, _⟩
  · exact ⟨none, rfl⟩
  · exact ⟨some b, rfl⟩
/-- What the iterator reads. -/
def WaysAt (w : World) (D : Nat → Prop) (fs : List Fil) (path : List Int) (n₀ : Nat) (g fv : Value) (xs : List Bs) (B1 B2 : Nat) (R : Nat → Prop) : Prop :=
  n₀ ≤ w.heap.size ∧ (∃ wg : World, wg.heap.size = n₀ ∧ GraphV wg D fs path g ∧ Below n₀ wg w) ∧ HB w B1 27 #[fv] ∧ HB w B2 71 #[g] ∧ (∃ Bf, w.ownsRow Bf 9 1 fv xs.length (xs.map sv)) ∧
    (∀ b, R b ↔ (b < n₀ ∨ b = B1 ∨ b = B2 ∨ fv.ownBlock = some b))
theorem WaysAt.lt {w : World} {D : Nat → Prop} {fs : List Fil} {path : List Int} {n₀ : Nat} {g fv : Value} {xs : List Bs} {B1 B2 : Nat} {R : Nat → Prop} (h : WaysAt w D fs path n₀ g fv xs B1 B2 R) : ∀ b, R b → b < w.heap.size := by
  obtain ⟨h0, _, h1, h2, ⟨Bf, h3⟩, hR⟩ := h
  intro b hb
  rcases (hR b).1 hb with h | rfl | rfl | h
  · omega
  · exact h1.lt
  · exact h2.lt
  · exact (owns_block h3 h).2
theorem WaysAt.same {w w' : World} {D : Nat → Prop} {fs : List Fil} {path : List Int} {n₀ : Nat} {g fv : Value} {xs : List Bs} {B1 B2 : Nat} {R : Nat → Prop} (h : WaysAt w D fs path n₀ g fv xs B1 B2 R) (hs : SameC R w w') : WaysAt w' D fs path n₀ g fv xs B1 B2 R := by
  have hl := h.lt
  obtain ⟨h0, ⟨wg, hg1, hg2, hg3⟩, h1, h2, ⟨Bf, h3⟩, hR⟩ := h
  refine ⟨Nat.le_trans h0 hs.size, ⟨wg, hg1, hg2, hg3.trans ⟨hs.os, hs.tape, hs.output, hs.size, fun b hb => hs.block b ((hR b).2 (.inl hb)) (by omega)⟩⟩, (hs.block B1 ((hR _).2 (.inr (.inl rfl))) h1.lt).trans h1, (hs.block B2 ((hR _).2 (.inr (.inr (.inl rfl)))) h2.lt).trans h2, ⟨Bf, owns_heap h3 (fun b hb => hs.block b ((hR b).2 (.inr (.inr (.inr hb)))) (owns_block h3 hb).2)⟩, hR⟩
theorem WaysAt.graph {w : World} {D : Nat → Prop} {fs : List Fil} {path : List Int} {n₀ : Nat} {g fv : Value} {xs : List Bs} {B1 B2 : Nat} {R : Nat → Prop} (h : WaysAt w D fs path n₀ g fv xs B1 B2 R) : GraphV w D fs path g := by
  obtain ⟨h0, ⟨wg, rfl, hg2, hg3⟩, _⟩ := h
  exact hg2.below hg3
theorem StepC.below {C C' : Nat → Prop} {X Y Z : World} (h : StepC C X C' Y) (k : Below X.heap.size Y Z) : StepC C X C' Z :=
  ⟨k.os.trans h.os, k.tape.trans h.tape, k.output.trans h.output, Nat.le_trans h.size k.size, fun b hb hn => (k.block b hb).trans (h.block b hb hn), h.sub⟩
set_option maxRecDepth 100000 in
set_option maxHeartbeats 4000000 in
theorem ways_seq (g fv : Value) (fs : List Fil) (path : List Int) (D : Nat → Prop) (n₀ B1 B2 : Nat) (xs : List Bs) (R : Nat → Prop) (N : Nat) (w : World) (ht : okTree fs = true) (hn : xs.Nodup) (hx : ∀ x ∈ xs, vn x = true) (hxl : xs.length ≤ 100) (hN : xs.length + 288 ≤ N) (h : WaysAt w D fs path n₀ g fv xs B1 B2 R) :
    SeqC Fence.wide 3 Tryz.prog 156 #[.pointer (some ⟨B1, 0, none⟩), .pointer (some ⟨B2, 0, none⟩)] (fun s : Bs => #[.string (mk s)]) (fun ys => ys = reachAll fs path xs) (fun ys => ys <+: reachAll fs path xs) N R w := by
  intro l J Jx C W hsame hJ hJx hC hY h0
  have hW := h.same hsame
  have hWl := hW.lt
  have HW := Lib.hid hW
  have HJ := Lib.hid hJ
  have HY := Lib.hid hY
  have H0 := Lib.hid h0
  have HC := Lib.hid hC
  obtain ⟨Bf, hfv⟩ := hW.2.2.2.2.1
  have Hfv := Lib.hid hfv
  have x1 := hW.2.2.1.cell 0
  have x2 := hW.2.2.2.1.cell 0
  have l1 := hW.2.2.1.lt
  have l2 := hW.2.2.2.1.lt
  have Hxs := Lib.hid (show addNew [] xs = xs by rw [addNew_nodup xs [] (by simpa using hn)]; rfl)
  clear hsame hJ hJx hC hY h0 hW h
  refine callsIn_wide.2 ?_
  go_enter Tryz.func156, Tryz.ntmps156
  go_wp2_with (go_at_call 114; refine (impl_withNew W.heap.size Bf _ _ [] xs _ (World.ownsRow_nil _ _ _ _) (Nat.le_refl _) Hfv.out (fun b hb e => by simp [Value.ownBlock] at e) (by simp; omega)).mono ?_; rintro _ w1 ⟨v1, rfl, hown1, hg1, hat1⟩; rw [Hxs.out] at hown1)
  obtain ⟨rk, hrk⟩ : ∃ f : Nat → List Bs, f = reachK (edgesOf fs path) xs := ⟨_, rfl⟩
  have hrl : ∀ k, (rk k).length ≤ xs.length + 288 := by rw [hrk]; exact reachK_len ht hn
  have Hrk := Lib.hid hrk
  have Hvn := Lib.hid (show ∀ k, ∀ x ∈ rk k, vn x = true by rw [hrk]; exact reachK_all hx (fun n _ y hy => (edgesOf_ok fs path n).1 y hy))
  have Hown1 := Lib.hid (show w1.ownsRow W.heap.size 9 1 v1 (rk 0).length ((rk 0).map sv) by rw [hrk]; exact hown1)
  have Hst1 := Lib.hid (show StepC C W C w1 from ⟨hg1.os, hg1.tape, hg1.output, hg1.size, fun b hb _ => hg1.block b hb (by simp [Value.ownBlock]), fun _ h => .inl h⟩)
  have HJ1 := Lib.hid (HJ.out _ _ _ _ H0.out (.of_grown hg1 (fun b e => by simp [Value.ownBlock] at e)))
  have Hna1 := Lib.hid (show ∀ b, v1.ownBlock = some b → ¬ C b from fun b hb hc => by
    rcases hat1 b hb with e | e
    · simp [Value.ownBlock] at e
    · have := (HC.out b hc).2; omega)
  have HCl1 := Lib.hid (show ∀ b, C b → b < w1.heap.size from fun b hb => Nat.lt_of_lt_of_le (HC.out b hb).2 hg1.size)
  clear hown1 hg1 hat1 hrk hfv x1 x2 l1 l2
  go_loopw [4, 5] (fun nv kv wr => ∃ (k : Nat) (C' : Nat → Prop), k ≤ (rk k).length ∧ kv = .int .i64 k ∧ J ((rk k).take k) C' wr ∧ StepC C W C' wr ∧ (∀ b, C' b → b < wr.heap.size) ∧ wr.ownsRow W.heap.size 9 1 nv (rk k).length ((rk k).map sv) ∧ (∀ b, nv.ownBlock = some b → ¬ C' b)) (fun _ kv _ => xs.length + 288 - (intOf kv).toNat)
  case atStart => exact ⟨0, C, by omega, rfl, HJ1.out, Hst1.out, HCl1.out, Hown1.out, Hna1.out⟩
  case round =>
    obtain ⟨k, C', hk, rfl, hj, hst, hcl, hown, hna⟩ := hrel
    obtain ⟨na, nc, rfl⟩ := owns_shape hown
    have Hj := Lib.hid hj
    have Hst := Lib.hid hst
    have Hcl := Lib.hid hcl
    have Hown := Lib.hid hown
    have Hna := Lib.hid hna
    clear hj hst hcl hna HJ1 Hst1 HCl1 Hown1 Hna1
    have hkl := hrl k
    by_cases hlt : k < (rk k).length
    · obtain ⟨gl, cl, el, hgl1, hgl2⟩ := hown.form (by omega)
      simp only [Value.slice.injEq] at el
      obtain ⟨rfl, _, rfl⟩ := el
      have hcj : wr.cell? ⟨gl, k, none⟩ = some (.string (mk (rk k)[k])) := by
        rw [hown.cellAt k (by omega), List.getElem?_map, List.getElem?_eq_getElem hlt]; rfl
      have hyl := HY.out _ (rk k)[k] C' wr Hj.out (by rw [List.length_take]; omega)
      have hk1 : (k : Int) < ((rk k).length : Int) := by omega
      have hk0 : (0 : Int) ≤ (k : Int) := by omega
      have hgs : gl < wr.heap.size := (hown.lt gl rfl).2
      clear hown hgl1 hgl2
      obtain ⟨x, hxk⟩ : ∃ x, x = (rk k)[k] := ⟨_, rfl⟩
      rw [← hxk] at hcj hyl
      have Hxk := Lib.hid hxk
      clear hxk
      obtain ⟨fn, tmps, assign, body, hy, hR⟩ := hyl
      go_upto_region 4 with fail
      refine (wpIn_wide (n := 3)).1 ?_
      gi_wp2
      refine hR.mono ?_
      rintro e W6 ⟨C6, hst6, hcl6, (⟨rfl, hJ6⟩ | ⟨rfl, hJ6⟩)⟩
      · have Hst6 := Lib.hid hst6
        have HJ6 := Lib.hid hJ6
        have Hcl6 := Lib.hid hcl6
        clear hst6 hJ6 hcl6 hR hy
        gi_wp2
        have hs6 := Hst6.out.size
        have hglC : ¬ C6 gl := fun h => by
          rcases Hst6.out.sub _ h with h1 | h1
          · exact Hna.out gl rfl h1
          · omega
        have HglC := Lib.hid hglC
        have HC6 := Lib.hid (Hst.out.trans Hst6.out)
        have HW6 := Lib.hid (HW.out.same (HC6.out.same (fun b hb hc => (HC.out b hc).1 hb)))
        have x2 := HW6.out.2.2.2.1.cell 0
        have l2 := HW6.out.2.2.2.1.lt
        have hown6 := owns_heap Hown.out (fun b hb => Hst6.out.block b (owns_block Hown.out hb).2 (Hna.out b hb))
        have hc6 : W6.cell? ⟨gl, k, none⟩ = some (.string (mk x)) := by
          rw [hown6.cellAt k (by omega), List.getElem?_map, List.getElem?_eq_getElem hlt, ← Hxk.out]; rfl
        have Hown6 := Lib.hid hown6
        have hgs6 : gl < W6.heap.size := by omega
        have hxv := Hvn.out k x (by rw [Hxk.out]; exact List.getElem_mem hlt)
        have hxl8 : x.length ≤ 8000000 := Nat.le_trans (vn_len hxv) (by omega)
        have Hnext := Lib.hid (show rk (k + 1) = addNew (rk k) (edgesOf fs path x) by rw [Hxk.out]; simp only [Hrk.out] at hlt ⊢; exact reachK_step hlt)
        have Hpre := Lib.hid (show (rk k).take k ++ [x] = (rk (k + 1)).take (k + 1) by
          obtain ⟨r, hr⟩ := addNew_pre (rk k) (edgesOf fs path x)
          rw [Hnext.out, ← hr, List.take_append_of_le_length (by omega), List.take_succ_eq_append_getElem hlt, ← Hxk.out])
        have hrl1 := hrl (k + 1)
        have heL := (edgesOf_ok fs path x).2.2
        have Hk := Lib.hid (fun (w' : World) (hC : Below W6.heap.size W6 w') => (⟨(HW6.out.2.2.2.1.step hC).cell 0, (hC.cell (p := ⟨gl, k, none⟩) hgs6).trans hc6, hC⟩ : w'.cell? ⟨B2, 0, none⟩ = some g ∧ w'.cell? ⟨gl, k, none⟩ = some (.string (mk x)) ∧ Below W6.heap.size W6 w'))
        have hWW : W.heap.size ≤ W6.heap.size := HC6.out.size
        clear hown6 hglC hcj hxv
        obtain ⟨es, hes⟩ : ∃ es, es = edgesOf fs path x := ⟨_, rfl⟩
        rw [← hes] at Hnext heL
        have Hes := Lib.hid hes.symm
        clear hes
        go_wp2_with fail
        go_region_law
          (first
            | (go_simp; go_at_call 72; refine (impl_edges g fs path D x _ (HW6.out.graph.below (by (repeat (with_reducible first | exact Below.refl _ _ | assumption | refine ba ?_ _ | refine bd ?_ | refine bdN ?_ _ | refine bs ?_ (by first | exact Nat.le_refl _ | (dsimp only; omega) | (simp; done)) _ | refine bt ?_ (by assumption))))) hxl8).mono ?_; rintro _ w9 ⟨v9, rfl, hown9, hb9⟩; rw [Hes.out] at hown9; obtain ⟨a9, c9, rfl⟩ := owns_shape hown9; have Hown9 := Lib.hid (owns_mono hown9 (show W6.heap.size ≤ _ from (show Below W6.heap.size W6 _ by (repeat (with_reducible first | exact Below.refl _ _ | assumption | refine ba ?_ _ | refine bd ?_ | refine bdN ?_ _ | refine bs ?_ (by first | exact Nat.le_refl _ | (dsimp only; omega) | (simp; done)) _ | refine bt ?_ (by assumption)))).size)); have Hb9 := Lib.hid (show Below W6.heap.size W6 w9 by (repeat (with_reducible first | exact Below.refl _ _ | assumption | refine ba ?_ _ | refine bd ?_ | refine bdN ?_ _ | refine bs ?_ (by first | exact Nat.le_refl _ | (dsimp only; omega) | (simp; done)) _ | refine bt ?_ (by assumption)))); clear hown9 hb9)
            | (go_simp; go_at_call 114; refine (impl_withNew W.heap.size W6.heap.size _ _ (rk k) es _ (owns_below Hown6.out Hb9.out) (Nat.le_trans hWW Hb9.out.size) Hown9.out (fun b hb e => by have h1 := (owns_block Hown9.out hb).1; simp only [Value.ownBlock, Option.some.injEq] at e; omega) (by omega)).mono ?_; rintro _ w8 ⟨v8, rfl, hown8, hg8, hat8⟩; rw [← Hnext.out] at hown8; have Hown8 := Lib.hid hown8; have Hg8 := Lib.hid hg8; have Hat8 := Lib.hid hat8; clear hown8 hg8 hat8))
        all_goals
          have hsm := (SameC.of_below (C := C6) Hb9.out).trans (SameC.of_grown (C := C6) Hg8.out (fun b e hc => by simp only [Value.ownBlock, Option.some.injEq] at e; exact HglC.out (e ▸ hc)))
          have hHJ8 := HJ.out _ _ _ _ HJ6.out hsm
          rw [Hpre.out] at hHJ8
          have HJ8 := Lib.hid hHJ8
          have hglW : W.heap.size ≤ gl := (owns_block Hown6.out rfl).1
          have Hst8 := Lib.hid (HC6.out.below ((Hb9.out.mono hWW).grown Hg8.out (Nat.le_trans hWW Hb9.out.size) (fun b e => by simp only [Value.ownBlock, Option.some.injEq] at e; omega)))
          have Hcl8 := Lib.hid (show ∀ b, C6 b → b < w8.heap.size from fun b hb => Nat.lt_of_lt_of_le (Hcl6.out b hb) hsm.size)
          have Hna8 := Lib.hid (show ∀ b, v8.ownBlock = some b → ¬ C6 b from fun b hb hc => by
            rcases Hat8.out b hb with e | e
            · simp only [Value.ownBlock, Option.some.injEq] at e
              exact HglC.out (e ▸ hc)
            · have h1 := Hcl6.out b hc
              have h2 := Hb9.out.size
              omega)
          clear hsm hHJ8
          go_wp2_with fail
          have hk2 : k + 1 ≤ (rk (k + 1)).length := by
            rw [Hnext.out]
            have := (addNew_pre (rk k) es).length_le
            omega
          go_roundw
          case rel => exact ⟨k + 1, C6, hk2, by go_num, HJ8.out, Hst8.out, Hcl8.out, Hown8.out, Hna8.out⟩
          case measure => simp [intOf]; omega
      · have Hst6 := Lib.hid hst6
        have HJ6 := Lib.hid hJ6
        clear hst6 hJ6 hcl6 hR hy
        gi_wp2
        go_wp2_with fail
        refine bodyPost_ret (results_none rfl _ _ _) rfl ?_
        refine ⟨⟨_, rfl⟩, C6, Hst.out.trans Hst6.out, .inr ⟨_, ?_, HJ6.out⟩⟩
        have h1 : (rk k).take k ++ [x] <+: rk k := by
          rw [Hxk.out, ← List.take_succ_eq_append_getElem hlt]; exact List.take_prefix _ _
        refine h1.trans ?_
        rw [Hrk.out]
        exact reachK_le _ _ (by omega)
    · have hek : (rk k).length = k := by omega
      go_wp2_with fail
      go_end0
      refine ⟨⟨_, rfl⟩, C', Hst.out, .inl ⟨(rk k).take k, ?_, Hj.out⟩⟩
      rw [List.take_of_length_le (by omega)]
      rw [Hrk.out] at hek ⊢
      exact reachAll_at ht hn (by omega) (by have := hrl k; rw [Hrk.out] at this; omega)
end Go.Proofs.YtfchakfkgmhagaaGreat
