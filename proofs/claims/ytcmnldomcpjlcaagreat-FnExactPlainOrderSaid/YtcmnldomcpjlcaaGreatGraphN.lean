/- The program's needs and edges of a graph: contracts. -/
import Derived.Test.YtcmnldomcpjlcaaGreatGraph
set_option linter.unusedVariables false
set_option linter.unusedSimpArgs false
namespace Go.Proofs.YtcmnldomcpjlcaaGreat
open Go.RowKit Go.Proofs.YtcmnldomcpjlcaaGreat.Nm
set_option maxRecDepth 100000 in
theorem fmNil (w : World) (s : Bs) (hs : s.length ≤ 8000000) : (Instr.lookup 68 (.map none) (.string (mk s)) false).run Tryz.prog w = .ok (filAgg zeroFil (.slice none 0 0)) w := by
  have hc := fmLaw.check w true (fmKey s hs)
  have hf : (Instr.findKey 9 (.string (mk s)) []).run Tryz.prog w = .ok none w := by
    rcases fmLaw.find w (fmKey s hs) [] (by simp) with h | ⟨_, _, h, _⟩
    · exact h.1
    · cases h
  simp [Instr.lookup, run_underlying (P := Tryz.prog) Tryz.underlying68, hc, fmZero w, Result.andThen, hf]
/-- What is looked up of a name in any graph. -/
theorem GraphV.look {w : World} {D : Nat → Prop} {fs : List Fil} {path : List Int} {g : Value} (h : GraphV w D fs path g) (s : Bs) (hs : s.length ≤ 8000000) :
    ∃ (f : Fil) (a : Option Addr) (c : Nat), (Instr.lookup 68 g (.string (mk s)) false).run Tryz.prog w = .ok (filAgg f (.slice a f.body.length c)) w ∧ StmsIn w D (.slice a f.body.length c) f.body ∧ ((fileFor fs path s = some f) ∨ (fileFor fs path s = none ∧ f = zeroFil)) := by
  rcases h with ⟨rfl, hno⟩ | ⟨hok, b, rfl, hgk⟩
  · exact ⟨zeroFil, none, 0, fmNil w s hs, ⟨none, 0, rfl, by simp [zeroFil], by unfold maxLen; omega, fun hx => absurd hx (by simp [zeroFil])⟩, .inr ⟨fileFor_no (by rw [(findSpec_ok fs path s).none (by unfold findSpec; rw [hno]; rfl)]; decide), rfl⟩⟩
  · exact GraphV.get hok hgk s hs
theorem bodyNeeds_nil (p : Bs) : bodyNeeds p [] = [] := rfl
theorem needsOf_get {fs : List Fil} {path : List Int} {s : Bs} {f : Fil} (h : (fileFor fs path s = some f) ∨ (fileFor fs path s = none ∧ f = zeroFil)) : needsOf fs path s = bodyNeeds f.pack f.body ∧ okBody f.body = true ∧ f.pack.length ≤ 11 := by
  rcases h with h | ⟨h, rfl⟩
  · have h1 := fileFor_facts h
    exact ⟨by unfold needsOf; rw [h], okFil_body h1.2.1, vpk_len (okFil_pack h1.2.1)⟩
  · exact ⟨by unfold needsOf; rw [h]; rfl, by decide, by simp [zeroFil]⟩
theorem okStm_len {s : Stm} (h : okStm s = true) : s.module.length ≤ 11 := by
  unfold okStm at h
  split at h
  · simp only [Bool.and_eq_true] at h; exact vn_len h.1.1.1
  split at h
  · simp only [Bool.and_eq_true] at h
    have h1 := h.1.1
    unfold okSrc at h1
    simp only [Bool.and_eq_true] at h1
    exact vpk_len h1.1.2
  split at h
  · simp only [Bool.and_eq_true] at h; exact vn_len h.1.1.1
  split at h
  · simp only [Bool.and_eq_true, List.isEmpty_iff] at h; rw [h.1.1.1]; simp
  split at h
  · simp only [Bool.and_eq_true, List.isEmpty_iff] at h; rw [h.1.1.1]; simp
  split at h
  · simp only [Bool.and_eq_true, List.isEmpty_iff] at h; rw [h.1.1.1]; simp
  · exact absurd h (by simp)
/-- One more of a body's names. -/
theorem bodyNeeds_more {p : Bs} {b : List Stm} {k : Nat} (hk : k < b.length) : bodyNeeds p (b.take (k + 1)) = if needBy p b[k] = [] then bodyNeeds p (b.take k) else addNew (bodyNeeds p (b.take k)) [needBy p b[k]] := by
  rw [addNeed_snoc p b k hk]; unfold addNeed; rfl
set_option maxRecDepth 100000 in
set_option maxHeartbeats 4000000 in
theorem impl_needs (g : Value) (fs : List Fil) (path : List Int) (D : Nat → Prop) (s : Bs) (w : World) (hg : GraphV w D fs path g) (hs : s.length ≤ 8000000) :
    Calls Tryz.prog 124 #[g, .string (mk s)] w (NewStrs 9 (needsOf fs path s) w) := by
  obtain ⟨f, fa, fc, hget, hbody, hff⟩ := hg.look s hs
  obtain ⟨e1, e2, e4⟩ := needsOf_get hff
  have E1 := Lib.hid e1
  have E2 := Lib.hid e2
  have e3 := okBody_len e2
  have Hbody := Lib.hid hbody
  clear hg hff e1 e2 hbody
  obtain ⟨fr, fp, fn, fi, fst, fb⟩ := f
  dsimp only at E1 E2 e3 e4 Hbody hget
  simp only [filAgg] at hget
  go_enter Tryz.func124, Tryz.ntmps124
  go_wp2_with fail
  obtain ⟨W0, hW0⟩ : ∃ W, W = w.alloc (.cells #[.int .i64 fr, .string (mk fp), .string (mk fn), .bool fi, .int .i64 fst, .slice fa fb.length fc] 79) := ⟨_, rfl⟩
  rw [← hW0]
  have HX0 := Lib.hid (show HB W0 w.heap.size 79 #[.int .i64 fr, .string (mk fp), .string (mk fn), .bool fi, .int .i64 fst, .slice fa fb.length fc] by rw [hW0]; exact HB.new _ _ _)
  have Hb0 := Lib.hid (show Below w.heap.size w W0 by rw [hW0]; exact ba (Below.refl _ _) _)
  have hs0 : W0.heap.size = w.heap.size + 1 := by rw [hW0]; simp
  clear hW0 hget
  go_loopw [5, 16] (fun nv kv wr => ∃ (k : Nat), k ≤ fb.length ∧ kv = .int .i64 k ∧ wr.ownsRow (w.heap.size + 1) 9 1 nv (bodyNeeds fp (fb.take k)).length ((bodyNeeds fp (fb.take k)).map sv) ∧ HB wr w.heap.size 79 #[.int .i64 fr, .string (mk fp), .string (mk fn), .bool fi, .int .i64 fst, .slice fa fb.length fc] ∧ Below w.heap.size w wr ∧ w.heap.size + 1 ≤ wr.heap.size) (fun _ kv _ => fb.length - (intOf kv).toNat)
  case atStart => exact ⟨0, by omega, rfl, by simp [bodyNeeds_nil]; exact World.ownsRow_nil _ _ _ _, HX0.out, Hb0.out, by omega⟩
  case round =>
    obtain ⟨k, hk, rfl, hown, hbx, hbel, hsz⟩ := hrel
    obtain ⟨na, nc, rfl⟩ := owns_shape hown
    have Hown := Lib.hid hown
    have Hbx := Lib.hid hbx
    have Hbel := Lib.hid hbel
    clear hown hbx hbel
    by_cases hlt : k < fb.length
    · have hn8 := (bodyNeeds_part (p := fp) E2.out k).2
      obtain ⟨b, off, cap, e, hD, hb, c0, c1, c2, c3, c4⟩ := Hbody.out.at_ hlt
      simp only [Value.slice.injEq] at e
      obtain ⟨rfl, hnn, rfl⟩ := e
      clear hnn
      have hos := okBody_at E2.out (List.getElem_mem hlt)
      have hml := okStm_len hos
      have d0 := (Hbel.out.cell (p := ⟨b, off + k * 5, none⟩) hb).trans c0
      have d1 := (Hbel.out.cell (p := ⟨b, off + k * 5 + 1, none⟩) hb).trans c1
      have d2 := (Hbel.out.cell (p := ⟨b, off + k * 5 + 2, none⟩) hb).trans c2
      have d3 := (Hbel.out.cell (p := ⟨b, off + k * 5 + 3, none⟩) hb).trans c3
      have d4 := (Hbel.out.cell (p := ⟨b, off + k * 5 + 4, none⟩) hb).trans c4
      clear c0 c1 c2 c3 c4
      have Hm := Lib.hid (bodyNeeds_more (p := fp) hlt)
      obtain ⟨st, hst⟩ : ∃ st, st = fb[k] := ⟨_, rfl⟩
      rw [← hst] at d0 d1 d2 d3 d4 Hm hml
      clear hst hos
      obtain ⟨sk, sm, sl, sn, sx⟩ := st
      dsimp only at d0 d1 d2 d3 d4 hml
      have x1 := Hbx.out.cell 1
      have hbxl := Hbx.out.lt
      generalize bodyNeeds fp (fb.take k) = ns at *
      by_cases hem : needBy fp ⟨sk, sm, sl, sn, sx⟩ = []
      · have Hem := Lib.hid hem
        have Hm2 := Lib.hid (show bodyNeeds fp (fb.take (k + 1)) = ns by rw [Hm.out, if_pos hem])
        clear hem
        go_wp2_with (go_at_call 161; refine (impl_neededBy sk sl sx sm sn fp _ (by omega) (by omega)).mono ?_; rintro _ w7 ⟨rfl, hb7⟩; rw [Hem.out]; have Hb7 := Lib.hid (show Below wr.heap.size wr w7 by (repeat (with_reducible first | exact Below.refl _ _ | assumption | refine ba ?_ _ | refine bd ?_ | refine bdN ?_ _ | refine bs ?_ (by first | exact Nat.le_refl _ | (dsimp only; omega) | (simp; done)) _ | refine bt ?_ (by assumption)))); clear hb7)
        go_roundw
        case rel => exact ⟨k + 1, by omega, by go_num, by rw [Hm2.out]; exact owns_below Hown.out Hb7.out, Hbx.out.step Hb7.out, Hbel.out.trans (Hb7.out.mono Hbel.out.size), by have := Hb7.out.size; omega⟩
        case measure => simp [intOf]; omega
      · have Hm2 := Lib.hid (show bodyNeeds fp (fb.take (k + 1)) = addNew ns [needBy fp ⟨sk, sm, sl, sn, sx⟩] by rw [Hm.out, if_neg hem])
        have hie : List.isEmpty (needBy fp ⟨sk, sm, sl, sn, sx⟩) = false := by simp [List.isEmpty_iff, hem]
        obtain ⟨nb, hnb⟩ : ∃ nb, nb = needBy fp ⟨sk, sm, sl, sn, sx⟩ := ⟨_, rfl⟩
        have Hnb := Lib.hid hnb
        rw [← hnb] at Hm2 hie
        clear hem hnb Hm
        go_wp2_with (go_at_call 161; refine (impl_neededBy sk sl sx sm sn fp _ (by omega) (by omega)).mono ?_; rintro _ w7 ⟨rfl, hb7⟩; rw [← Hnb.out]; have Hb7 := Lib.hid (show Below wr.heap.size wr w7 by (repeat (with_reducible first | exact Below.refl _ _ | assumption | refine ba ?_ _ | refine bd ?_ | refine bdN ?_ _ | refine bs ?_ (by first | exact Nat.le_refl _ | (dsimp only; omega) | (simp; done)) _ | refine bt ?_ (by assumption)))); clear hb7)
        have Hown7 := Lib.hid (owns_below Hown.out Hb7.out)
        have hs7 := Hb7.out.size
        have Hap := Lib.hid (show ∀ x, (Value.slice (some ⟨w7.heap.size, 0, none⟩) 1 1).ownBlock = some x → (Value.slice na ns.length nc).ownBlock ≠ some x from fun x hx e => by
          have h1 := (owns_block Hown7.out e).2
          simp only [Value.ownBlock, Option.some.injEq] at hx
          omega)
        go_wp2_with (go_at_call 136; refine (impl_withNew (w.heap.size + 1) w7.heap.size _ _ ns [nb] _ (Hown7.out.alloc _) (by simp; omega) (World.ownsRow_lit (size := 1) w7 #[.string (mk nb)] 1 (Nat.le_refl _) (by unfold maxLen; omega) rfl) Hap.out (by simp; omega)).mono ?_; rintro _ w8 ⟨v8, rfl, hown8, hg8, _⟩; have Hown8 := Lib.hid hown8; have Hg8 := Lib.hid hg8; clear hown8 hg8)
        have Hg78 := Lib.hid (gb_step (World.grownBy_alloc w7 _ (Value.slice na ns.length nc).ownBlock) Hg8.out (fun x hx => .inl hx))
        go_roundw
        case rel => exact ⟨k + 1, by omega, by go_num, by rw [Hm2.out]; exact Hown8.out, (Hbx.out.step Hb7.out).grown Hg78.out (fun e => by have := (Hown7.out.lt _ e).1; omega), (Hbel.out.trans (Hb7.out.mono Hbel.out.size)).grown Hg78.out (Hbel.out.trans (Hb7.out.mono Hbel.out.size)).size (fun x hx => by have := (Hown7.out.lt _ hx).1; omega), by have := Hg78.out.size; omega⟩
        case measure => simp [intOf]; omega
    · obtain rfl : k = fb.length := by omega
      rw [List.take_length] at Hown ⊢
      go_wp2_with fail
      go_ret
      refine ⟨_, rfl, ?_, Hbel.out⟩
      rw [E1.out]
      exact owns_mono Hown.out (Nat.le_succ _)
set_option maxRecDepth 100000 in
set_option maxHeartbeats 4000000 in
theorem impl_edges (g : Value) (fs : List Fil) (path : List Int) (D : Nat → Prop) (s : Bs) (w : World) (hg : GraphV w D fs path g) (hs : s.length ≤ 8000000) :
    Calls Tryz.prog 87 #[g, .string (mk s)] w (NewStrs 9 (edgesOf fs path s) w) := by
  have Hg := Lib.hid hg
  obtain ⟨hvn, hnd, hlen⟩ := needsOf_ok fs path s
  have Hvn := Lib.hid hvn
  have He := Lib.hid (show edgesOf fs path s = full (needsOf fs path s) from rfl)
  clear hg hvn hnd
  go_enter Tryz.func87, Tryz.ntmps87
  go_wp2_with (go_at_call 124; refine (impl_needs g fs path D s _ Hg.out hs).mono ?_; rintro _ w1 ⟨v1, rfl, hown1, hb1⟩; obtain ⟨a1, c1, rfl⟩ := owns_shape hown1; have Hown1 := Lib.hid hown1; have Hb1 := Lib.hid (show Below w.heap.size w w1 by (repeat (with_reducible first | exact Below.refl _ _ | assumption | refine ba ?_ _ | refine bd ?_ | refine bdN ?_ _ | refine bs ?_ (by first | exact Nat.le_refl _ | (dsimp only; omega) | (simp; done)) _ | refine bt ?_ (by assumption)))); clear hown1 hb1)
  generalize needsOf fs path s = ns at *
  go_loopw [5, 12] (fun nv kv wr => ∃ (k : Nat), k ≤ ns.length ∧ kv = .int .i64 k ∧ wr.ownsRow w1.heap.size 9 1 nv (full (ns.take k)).length ((full (ns.take k)).map sv) ∧ Below w1.heap.size w1 wr) (fun _ kv _ => ns.length - (intOf kv).toNat)
  case atStart => exact ⟨0, by omega, rfl, World.ownsRow_nil _ _ _ _, Below.refl _ _⟩
  case round =>
    obtain ⟨k, hk, rfl, hown, hbel⟩ := hrel
    obtain ⟨na, nc, rfl⟩ := owns_shape hown
    have Hown := Lib.hid hown
    have Hbel := Lib.hid hbel
    have hsz := hbel.size
    clear hown hbel
    by_cases hlt : k < ns.length
    · have hl24 := (full_ok (ns.take k)).2.2
      rw [List.length_take] at hl24
      obtain ⟨b, off, cap, e, _, _, hbl, hc⟩ := Reads.some (Reads.below (Reads.of_owns Hown1.out) Hbel.out) (by omega)
      simp only [Value.slice.injEq] at e
      obtain ⟨rfl, hnn, rfl⟩ := e
      have c0 := hc k hlt
      have hml : ns[k].length ≤ 8000000 := Nat.le_trans (vn_len (Hvn.out _ (List.getElem_mem hlt))) (by omega)
      have h3 := namesAbove_le3 ns[k]
      have Hm := Lib.hid (full_snoc ns k hlt)
      clear hnn hc
      generalize ns[k] = n at *
      generalize full (ns.take k) = xs at *
      go_wp2_with (go_at_call 44; refine (impl_NamesAbove n _ hml).mono ?_; rintro _ w2 ⟨v2, rfl, hown2, hb2⟩; obtain ⟨a2, c2, rfl⟩ := owns_shape hown2; have Hown2 := Lib.hid hown2; have Hb2 := Lib.hid (show Below wr.heap.size wr w2 by (repeat (with_reducible first | exact Below.refl _ _ | assumption | refine ba ?_ _ | refine bd ?_ | refine bdN ?_ _ | refine bs ?_ (by first | exact Nat.le_refl _ | (dsimp only; omega) | (simp; done)) _ | refine bt ?_ (by assumption)))); clear hown2 hb2)
      generalize namesAbove n = ys at *
      have Hown2' := Lib.hid (owns_below Hown.out Hb2.out)
      have hs2 := Hb2.out.size
      have Hap := Lib.hid (show ∀ x, (Value.slice a2 ys.length c2).ownBlock = some x → (Value.slice na xs.length nc).ownBlock ≠ some x from fun x hx e => by
        have h1 := (owns_block Hown.out e).2
        have h2 := (owns_block Hown2.out hx).1
        omega)
      go_wp2_with (go_at_call 136; refine (impl_withNew w1.heap.size wr.heap.size _ _ xs ys _ Hown2'.out (by omega) Hown2.out Hap.out (by omega)).mono ?_; rintro _ w8 ⟨v8, rfl, hown8, hg8, _⟩; have Hown8 := Lib.hid hown8; have Hg8 := Lib.hid hg8; clear hown8 hg8)
      go_roundw
      case rel => exact ⟨k + 1, by omega, by go_num, by rw [Hm.out]; exact Hown8.out, (Hbel.out.trans (Hb2.out.mono hsz)).grown Hg8.out (by omega) (fun x hx => (Hown2'.out.lt _ hx).1)⟩
      case measure => simp [intOf]; omega
    · obtain rfl : k = ns.length := by omega
      rw [List.take_length] at Hown ⊢
      go_wp2_with fail
      go_ret
      refine ⟨_, rfl, ?_, Hb1.out.trans (Hbel.out.mono Hb1.out.size)⟩
      rw [He.out]
      exact owns_mono Hown.out Hb1.out.size
/-! ### The two that are asked. -/
set_option maxRecDepth 100000 in
set_option maxHeartbeats 4000000 in
theorem impl_EdgesOf (v : Value) (fs : List Fil) (D : Nat → Prop) (pv : Value) (path : List Int) (s : Bs) (w : World) (hr : FilsIn w D v fs) (hz : ShortT 2000000 fs) (hp : IntsIn w pv path) (hsl : s.length ≤ 8000000) :
    Calls Tryz.prog 43 #[.agg #[v], pv, .string (mk s)] w (NewStrs 9 (edgesOf fs path s) w) := by
  have Hr := Lib.hid hr
  have Hz := Lib.hid hz
  have Hp := Lib.hid hp
  obtain ⟨aa, ca, rfl, hl0, hm0⟩ := hr.len
  clear hr hz hp hl0 hm0
  go_enter Tryz.func43, Tryz.ntmps43
  go_wp2_with (first
    | (go_at_call 86; refine (impl_graphOf _ fs D _ path _ (Hr.out.below (by (repeat (with_reducible first | exact Below.refl _ _ | assumption | refine ba ?_ _ | refine bd ?_ | refine bdN ?_ _ | refine bs ?_ (by first | exact Nat.le_refl _ | (dsimp only; omega) | (simp; done)) _ | refine bt ?_ (by assumption))))) Hz.out (Hp.out.below (by (repeat (with_reducible first | exact Below.refl _ _ | assumption | refine ba ?_ _ | refine bd ?_ | refine bdN ?_ _ | refine bs ?_ (by first | exact Nat.le_refl _ | (dsimp only; omega) | (simp; done)) _ | refine bt ?_ (by assumption)))))).mono ?_; rintro _ w8 ⟨g8, rfl, hg8, hb8⟩; have Hg8 := Lib.hid hg8; have Hb8 := Lib.hid (show Below w.heap.size w w8 by (repeat (with_reducible first | exact Below.refl _ _ | assumption | refine ba ?_ _ | refine bd ?_ | refine bdN ?_ _ | refine bs ?_ (by first | exact Nat.le_refl _ | (dsimp only; omega) | (simp; done)) _ | refine bt ?_ (by assumption)))); clear hg8 hb8)
    | (go_at_call 87; refine (impl_edges _ fs path _ s _ Hg8.out hsl).mono ?_; rintro _ w9 ⟨v9, rfl, hown9, hb9⟩; have Hown9 := Lib.hid hown9; have Hb9 := Lib.hid (Hb8.out.trans (hb9.mono Hb8.out.size)); clear hown9 hb9))
  go_ret
  exact ⟨_, rfl, owns_mono Hown9.out Hb8.out.size, Hb9.out⟩
end Go.Proofs.YtcmnldomcpjlcaaGreat
