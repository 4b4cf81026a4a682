/- The program's MissingOf: those of some names that are not found. -/
import Derived.Test.YtcmnldomcpjlcaaGreatRangeC
import Derived.Test.YtcmnldomcpjlcaaGreatPlainN
import Derived.Test.YtcmnldomcpjlcaaGreatSGraph
import Derived.Test.YtcmnldomcpjlcaaGreatSNames
import Derived.WalkMore
import Derived.Deep.LoopGhost
import Derived.Test.YtcmnldomcpjlcaaGreatExTools
import Derived.Test.YtcmnldomcpjlcaaGreatStrs
import Derived.Test.YtcmnldomcpjlcaaGreatVp
set_option linter.unusedVariables false
set_option linter.unusedSimpArgs false
namespace Go.Proofs.YtcmnldomcpjlcaaGreat
open Go.RowKit Go.Proofs.YtcmnldomcpjlcaaGreat.Nm

set_option maxRecDepth 100000 in
set_option maxHeartbeats 4000000 in
theorem impl_notFound (v : Value) (fs : List Fil) (D : Nat → Prop) (pv : Value) (path : List Int) (nv : Value) (xs : List Bs) (w : World) (hr : FilsIn w D v fs) (hz : ShortT 2000000 fs) (hlk : xs ≠ [] → okLook fs path = true) (hp : IntsIn w pv path) (hn : Reads w nv xs) (hxl : xs.length ≤ 400) (hv : ∀ x ∈ xs, x.length ≤ 8000000) :
    Calls Tryz.prog 70 #[.agg #[v], pv, nv] w (NewStrs 9 (xs.filter (missN fs path)) w) := by
  obtain ⟨i0, hi, hz0, hz1, hz2⟩ := info_parts infoS
  have Hi := Lib.hid hi
  have Hz0 := Lib.hid hz0
  have Hz1 := Lib.hid hz1
  have Hz2 := Lib.hid hz2
  have Hr := Lib.hid hr
  have Hz := Lib.hid hz
  have Hp := Lib.hid hp
  have Hn := Lib.hid (ReadsIn.of hn)
  have Hv := Lib.hid hv
  have Hlk := Lib.hid hlk
  obtain ⟨aa, ca, rfl, hl, hm⟩ := hr.len
  obtain ⟨na, nc, rfl, hnl, hnm, _⟩ := ReadsIn.of hn
  have hf0 := fld0
  clear hr hz hp hn hv hlk hl hm hi hz0 hz1 hz2 hnl hnm
  have Hb0 := Lib.hid (Nm.Boxed.start w #[.slice aa fs.length ca] 31)
  have Hmi := Lib.hid (fun n => (show missN fs path n = decide ((byParts fs path n).kind = 0) from rfl))
  generalize missN fs path = mp at *
  go_enter Tryz.func70, Tryz.ntmps70
  go_wp2_with fail
  go_loopw [7, 12] (fun dv kv wr => ∃ (k : Nat), k ≤ xs.length ∧ kv = .int .i64 k ∧ wr.ownsRow (w.heap.size + 1) 9 1 dv ((xs.take k).filter mp).length (((xs.take k).filter mp).map sv) ∧ Nm.Boxed w #[.slice aa fs.length ca] 31 wr) (fun _ kv _ => xs.length - (intOf kv).toNat)
  case atStart => exact ⟨0, by omega, rfl, World.ownsRow_nil _ _ _ _, Hb0.out⟩
  case round =>
    obtain ⟨k, hk, rfl, hown, hbx⟩ := hrel
    obtain ⟨da, dc, rfl⟩ := owns_shape hown
    have Hown := Lib.hid hown
    have Hbx := Lib.hid hbx
    have Hbel := Lib.hid hbx.below
    have hA : wr.cell? ⟨w.heap.size, 0, none⟩ = some (.slice aa fs.length ca) := hbx.cell 0
    have hsz := hbx.lt
    clear hown hbx Hb0
    by_cases hlt : k < xs.length
    · have Hlook := Lib.hid (Hlk.out (by intro e; rw [e] at hlt; simp at hlt))
      have h3 := okPath_len (okLook_path Hlook.out)
      obtain ⟨a, cap, e, _, _, h4⟩ := Hn.out
      obtain ⟨b, off, e1, hb, hcc⟩ := h4 (by omega)
      simp only [Value.slice.injEq] at e
      obtain ⟨rfl, hnn, rfl⟩ := e
      subst e1
      have hc := (Hbel.out.cell (p := ⟨b, off + k, none⟩) hb).trans (hcc k hlt)
      have hvl := Hv.out _ (List.getElem_mem hlt)
      have Hsn := Lib.hid (filterM_snoc mp xs k hlt)
      have Hpn := Lib.hid (Hmi.out xs[k])
      have hll : ((xs.take k).filter mp).length ≤ 400 := Nat.le_trans (List.length_filter_le _ _) (by rw [List.length_take]; omega)
      clear hcc h4 hnn
      obtain ⟨s, hs⟩ : ∃ s, s = xs[k] := ⟨_, rfl⟩
      rw [← hs] at hc hvl Hsn Hpn
      clear hs
      obtain ⟨sp, hsp⟩ : ∃ sp, sp = byParts fs path s := ⟨_, rfl⟩
      rw [← hsp] at Hpn
      have Hsp := Lib.hid hsp.symm
      clear hsp
      generalize (xs.take k).filter mp = ds at *
      by_cases h0 : sp.kind = 0
      · have Hs2 := Lib.hid (show (xs.take (k + 1)).filter mp = ds ++ [s] by rw [Hsn.out, Hpn.out, h0]; rfl)
        have H0 := Lib.hid h0
        clear h0 Hsn Hpn
        go_wp2_with (first
          | (go_at_call 105; refine (impl_findByParts _ fs D _ path s _ (Hr.out.below (bt Hbel.out (by (repeat (with_reducible first | exact Below.refl _ _ | assumption | refine ba ?_ _ | refine bd ?_ | refine bdN ?_ _ | refine bs ?_ (by first | exact Nat.le_refl _ | (dsimp only; omega) | (simp; done)) _ | refine bt ?_ (by assumption)))))) Hz.out (okLook_tree Hlook.out) (Hp.out.below (bt Hbel.out (by (repeat (with_reducible first | exact Below.refl _ _ | assumption | refine ba ?_ _ | refine bd ?_ | refine bdN ?_ _ | refine bs ?_ (by first | exact Nat.le_refl _ | (dsimp only; omega) | (simp; done)) _ | refine bt ?_ (by assumption)))))) (by omega) (by omega)).mono ?_; rintro _ w6 ⟨v6, rfl, hown6, hb6⟩; rw [Hsp.out]; rw [Hsp.out] at hown6; rw [H0.out]; obtain ⟨a6, c6, hv6⟩ := owns_shape hown6; subst hv6; have Hb6 := Lib.hid (show Below wr.heap.size wr w6 by (repeat (with_reducible first | exact Below.refl _ _ | assumption | refine ba ?_ _ | refine bd ?_ | refine bdN ?_ _ | refine bs ?_ (by first | exact Nat.le_refl _ | (dsimp only; omega) | (simp; done)) _ | refine bt ?_ (by assumption)))); have hz6 := Hb6.out.size; clear hown6 hb6)
          | (at_builtin; refine wpList_append_own_at _ rfl _ _ 27 rfl (w.heap.size + 1) 9 i0 (.string ByteArray.empty) 1 16 Tryz.underlying27 Hi.out Hz0.out Hz1.out Hz2.out rfl (by decide) _ ds.length _ rfl ((owns_below Hown.out Hb6.out).alloc _) ⟨_, 0, none⟩ 1 1 [.string (mk s)] rfl rfl (new_one (by first | rfl | simp)) (fun x hx => by simp at hx; subst hx; rfl) (by unfold maxLen; omega) (by omega) (by simp; omega) ?_; intro v8 w8 hown8 hgrow8 hnil8 hat8))
        have Hx8 := Lib.hid (below_first Hbx.out (ba Hb6.out _) hgrow8 (fun g hg => (Hown.out.lt g hg).1))
        have Hown8 := Lib.hid (show w8.ownsRow (w.heap.size + 1) 9 1 v8 (ds ++ [s]).length ((ds ++ [s]).map sv) by rw [List.length_append, List.map_append]; exact hown8)
        clear hown8 hgrow8 hnil8 hat8
        go_roundw
        case rel => exact ⟨k + 1, by omega, by go_num, by rw [Hs2.out]; exact Hown8.out, Hx8.out⟩
        case measure => simp [intOf]; omega
      · have Hs2 := Lib.hid (show (xs.take (k + 1)).filter mp = ds by rw [Hsn.out, Hpn.out, decide_eq_false h0]; simp)
        obtain ⟨sk, hsk⟩ : ∃ x, x = sp.kind := ⟨_, rfl⟩
        have Hsk := Lib.hid hsk.symm
        have hk0 : (sk == (0 : Int)) = false := by rw [hsk]; simp [h0]
        clear h0 Hsn Hpn hsk
        go_wp2_with (go_at_call 105; refine (impl_findByParts _ fs D _ path s _ (Hr.out.below (bt Hbel.out (by (repeat (with_reducible first | exact Below.refl _ _ | assumption | refine ba ?_ _ | refine bd ?_ | refine bdN ?_ _ | refine bs ?_ (by first | exact Nat.le_refl _ | (dsimp only; omega) | (simp; done)) _ | refine bt ?_ (by assumption)))))) Hz.out (okLook_tree Hlook.out) (Hp.out.below (bt Hbel.out (by (repeat (with_reducible first | exact Below.refl _ _ | assumption | refine ba ?_ _ | refine bd ?_ | refine bdN ?_ _ | refine bs ?_ (by first | exact Nat.le_refl _ | (dsimp only; omega) | (simp; done)) _ | refine bt ?_ (by assumption)))))) (by omega) (by omega)).mono ?_; rintro _ w6 ⟨v6, rfl, hown6, hb6⟩; rw [Hsp.out]; rw [Hsp.out] at hown6; rw [Hsk.out]; obtain ⟨a6, c6, hv6⟩ := owns_shape hown6; subst hv6; have Hb6 := Lib.hid (show Below wr.heap.size wr w6 by (repeat (with_reducible first | exact Below.refl _ _ | assumption | refine ba ?_ _ | refine bd ?_ | refine bdN ?_ _ | refine bs ?_ (by first | exact Nat.le_refl _ | (dsimp only; omega) | (simp; done)) _ | refine bt ?_ (by assumption)))); have hz6 := Hb6.out.size; clear hown6 hb6)
        go_roundw
        case rel => exact ⟨k + 1, by omega, by go_num, by rw [Hs2.out]; exact owns_below Hown.out Hb6.out, Hbx.out.step Hb6.out⟩
        case measure => simp [intOf]; omega
    · obtain rfl : k = xs.length := by omega
      rw [List.take_length] at Hown ⊢
      clear hA
      go_wp2_with fail
      go_ret
      exact ⟨_, rfl, owns_mono Hown.out (Nat.le_succ _), Hbel.out⟩
set_option maxRecDepth 100000 in
set_option maxHeartbeats 4000000 in
theorem impl_MissingOf (v : Value) (fs : List Fil) (D : Nat → Prop) (pv : Value) (path : List Int) (s : Bs) (w : World) (hr : FilsIn w D v fs) (hz : ShortT 2000000 fs) (hp : IntsIn w pv path) (hsl : s.length ≤ 8000000) :
    Calls Tryz.prog 18 #[.agg #[v], pv, .string (mk s)] w (NewStrs 9 (missingOf fs path s) w) := by
  have Hr := Lib.hid hr
  have Hz := Lib.hid hz
  have Hp := Lib.hid hp
  obtain ⟨aa, ca, rfl, hl, hm⟩ := hr.len
  have Hb0 := Lib.hid (Nm.Boxed.start w #[.slice aa fs.length ca] 31)
  clear hr hz hp hl hm
  obtain ⟨L, hL⟩ : ∃ L, L = reachOf fs path s := ⟨_, rfl⟩
  have Hm := Lib.hid (show missingOf fs path s = L.filter (missN fs path) by rw [hL]; rfl)
  have hf := reachOf_facts fs path s
  rw [← hL] at hf
  have hL3 := hf.1
  have Hv := Lib.hid (fun x hx => (show x.length ≤ 8000000 from Nat.le_trans (vn_len (hf.2.1 x hx)) (by omega)))
  have Hne := Lib.hid (fun h : L ≠ [] => (reachOf_ne (t := fs) (path := path) (s := s) (by rw [← hL]; exact h)).1)
  have HL := Lib.hid hL.symm
  clear hL hf
  go_enter Tryz.func18, Tryz.ntmps18
  go_wp2_with (first
    | (go_at_call 69; refine (impl_reached _ fs D _ path s _ (Hr.out.below (by (repeat (with_reducible first | exact Below.refl _ _ | assumption | refine ba ?_ _ | refine bd ?_ | refine bdN ?_ _ | refine bs ?_ (by first | exact Nat.le_refl _ | (dsimp only; omega) | (simp; done)) _ | refine bt ?_ (by assumption))))) Hz.out (Hp.out.below (by (repeat (with_reducible first | exact Below.refl _ _ | assumption | refine ba ?_ _ | refine bd ?_ | refine bdN ?_ _ | refine bs ?_ (by first | exact Nat.le_refl _ | (dsimp only; omega) | (simp; done)) _ | refine bt ?_ (by assumption))))) hsl).mono ?_; rintro _ w5 ⟨g5, v5, rfl, ⟨D5, hg5⟩, hown5, hb5⟩; rw [HL.out] at hown5; obtain ⟨o5, rfl⟩ := hg5.shape; obtain ⟨a5, c5, rfl⟩ := owns_shape hown5; have R5 := Lib.hid (Reads.of_owns hown5); have Hx5 := Lib.hid (Hb0.out.step hb5); have a0 : w5.cell? ⟨w.heap.size, 0, none⟩ = some (.slice aa fs.length ca) := Hx5.out.cell 0; have Hb5 := Lib.hid (show Below w.heap.size w w5 by (repeat (with_reducible first | exact Below.refl _ _ | assumption | refine ba ?_ _ | refine bd ?_ | refine bdN ?_ _ | refine bs ?_ (by first | exact Nat.le_refl _ | (dsimp only; omega) | (simp; done)) _ | refine bt ?_ (by assumption)))); clear hown5 hb5 hg5)
    | (go_at_call 70; refine (impl_notFound _ fs D _ path _ L _ (Hr.out.below (by have := Hb5.out; (repeat (with_reducible first | exact Below.refl _ _ | assumption | refine ba ?_ _ | refine bd ?_ | refine bdN ?_ _ | refine bs ?_ (by first | exact Nat.le_refl _ | (dsimp only; omega) | (simp; done)) _ | refine bt ?_ (by assumption))))) Hz.out Hne.out (Hp.out.below (by have := Hb5.out; (repeat (with_reducible first | exact Below.refl _ _ | assumption | refine ba ?_ _ | refine bd ?_ | refine bdN ?_ _ | refine bs ?_ (by first | exact Nat.le_refl _ | (dsimp only; omega) | (simp; done)) _ | refine bt ?_ (by assumption))))) R5.out (by omega) Hv.out).mono ?_; rintro _ w6 ⟨v6, rfl, hown6, hb6⟩; have Hown6 := Lib.hid hown6; have Hb6 := Lib.hid (Hb5.out.trans (hb6.mono Hb5.out.size)); clear hown6 hb6))
  go_ret
  refine ⟨_, rfl, ?_, Hb6.out⟩
  rw [Hm.out]
  exact owns_mono Hown6.out Hb5.out.size

/-! ### The reference's MissingOf. Written by mkmiss.py. -/
set_option maxRecDepth 100000 in
set_option maxHeartbeats 8000000 in
theorem spec_MissingOf (v : Value) (fs : List Fil) (D : Nat → Prop) (pv : Value) (path : List Int) (s : Bs) (w : World) (hr : FilsIn w D v fs) (hz : ShortT 2000000 fs) (hp : IntsIn w pv path) (hsl : s.length ≤ 8000000) :
    Calls Tryz.prog 15 #[.agg #[v], pv, .string (mk s)] w (NewStrs 9 (missingOf fs path s) w) := by
  have Hr := Lib.hid hr
  have Hz := Lib.hid hz
  have Hz3 := Lib.hid (short2 (B := 3000000) (by omega) hz)
  have Hp := Lib.hid hp
  obtain ⟨aa, ca, rfl, hl, hm⟩ := hr.len
  obtain ⟨pa, pc, rfl, hl1, hm1⟩ := hp.len
  clear hr hz hp hl hm hl1 hm1
  have Hb0 := Lib.hid (Nm.Boxed.start w #[.slice aa fs.length ca] 31)
  have Hrv := Lib.hid (show vn s = false → missingOf fs path s = [] from fun h => by unfold missingOf; rw [reachOf_no (.inr h)]; rfl)
  have hf0 := fld0
  cases h1 : okTree fs
  · have H1 := Lib.hid h1
    have Hn := Lib.hid (show missingOf fs path s = [] by unfold missingOf; rw [reachOf_no (.inl (by unfold okLook; rw [h1]; simp))]; rfl)
    clear h1
    go_enter Tryz.func15, Tryz.ntmps15
    go_wp2_with (first
      | (go_at_call 61; refine (spec_validTree _ fs D _ (Hr.out.below (by have := Hb0.out.below; (repeat (with_reducible first | exact Below.refl _ _ | assumption | refine ba ?_ _ | refine bd ?_ | refine bdN ?_ _ | refine bs ?_ (by first | exact Nat.le_refl _ | (dsimp only; omega) | (simp; done)) _ | refine bt ?_ (by assumption))))) Hz3.out).mono ?_; rintro _ w5 ⟨rfl, hb5⟩; rw [H1.out]; have Hx5 := Lib.hid (Hb0.out.step hb5); clear hb5; have a0 : w5.cell? ⟨w.heap.size, 0, none⟩ = some (.slice aa fs.length ca) := Hx5.out.cell 0))
    go_ret
    have hbw := Hx5.out.below
    exact noStrs Hn.out (by (repeat (with_reducible first | exact Below.refl _ _ | assumption | refine ba ?_ _ | refine bd ?_ | refine bdN ?_ _ | refine bs ?_ (by first | exact Nat.le_refl _ | (dsimp only; omega) | (simp; done)) _ | refine bt ?_ (by assumption))))
  cases h2 : okPath path
  · have H1 := Lib.hid h1
    have H2 := Lib.hid h2
    have Hn := Lib.hid (show missingOf fs path s = [] by unfold missingOf; rw [reachOf_no (.inl (by unfold okLook; rw [h2]; simp))]; rfl)
    clear h1 h2
    go_enter Tryz.func15, Tryz.ntmps15
    go_wp2_with (first
      | (go_at_call 61; refine (spec_validTree _ fs D _ (Hr.out.below (by have := Hb0.out.below; (repeat (with_reducible first | exact Below.refl _ _ | assumption | refine ba ?_ _ | refine bd ?_ | refine bdN ?_ _ | refine bs ?_ (by first | exact Nat.le_refl _ | (dsimp only; omega) | (simp; done)) _ | refine bt ?_ (by assumption))))) Hz3.out).mono ?_; rintro _ w5 ⟨rfl, hb5⟩; rw [H1.out]; have Hx5 := Lib.hid (Hb0.out.step hb5); clear hb5; have a0 : w5.cell? ⟨w.heap.size, 0, none⟩ = some (.slice aa fs.length ca) := Hx5.out.cell 0)
      | (go_at_call 62; refine (spec_validPath _ path _ (Hp.out.below (by have := Hx5.out.below; (repeat (with_reducible first | exact Below.refl _ _ | assumption | refine ba ?_ _ | refine bd ?_ | refine bdN ?_ _ | refine bs ?_ (by first | exact Nat.le_refl _ | (dsimp only; omega) | (simp; done)) _ | refine bt ?_ (by assumption)))))).mono ?_; rintro _ w6 ⟨rfl, hb6⟩; rw [H2.out]; have Hx6 := Lib.hid (Hx5.out.step hb6); clear hb6; clear a0; have a0 : w6.cell? ⟨w.heap.size, 0, none⟩ = some (.slice aa fs.length ca) := Hx6.out.cell 0))
    go_ret
    have hbw := Hx6.out.below
    exact noStrs Hn.out (by (repeat (with_reducible first | exact Below.refl _ _ | assumption | refine ba ?_ _ | refine bd ?_ | refine bdN ?_ _ | refine bs ?_ (by first | exact Nat.le_refl _ | (dsimp only; omega) | (simp; done)) _ | refine bt ?_ (by assumption))))
  cases h3 : vn s
  · have H1 := Lib.hid h1
    have H2 := Lib.hid h2
    have H3 := Lib.hid h3
    have Hn := Lib.hid (Hrv.out h3)
    clear h1 h2 h3
    go_enter Tryz.func15, Tryz.ntmps15
    go_wp2_with (first
      | (go_at_call 61; refine (spec_validTree _ fs D _ (Hr.out.below (by have := Hb0.out.below; (repeat (with_reducible first | exact Below.refl _ _ | assumption | refine ba ?_ _ | refine bd ?_ | refine bdN ?_ _ | refine bs ?_ (by first | exact Nat.le_refl _ | (dsimp only; omega) | (simp; done)) _ | refine bt ?_ (by assumption))))) Hz3.out).mono ?_; rintro _ w5 ⟨rfl, hb5⟩; rw [H1.out]; have Hx5 := Lib.hid (Hb0.out.step hb5); clear hb5; have a0 : w5.cell? ⟨w.heap.size, 0, none⟩ = some (.slice aa fs.length ca) := Hx5.out.cell 0)
      | (go_at_call 62; refine (spec_validPath _ path _ (Hp.out.below (by have := Hx5.out.below; (repeat (with_reducible first | exact Below.refl _ _ | assumption | refine ba ?_ _ | refine bd ?_ | refine bdN ?_ _ | refine bs ?_ (by first | exact Nat.le_refl _ | (dsimp only; omega) | (simp; done)) _ | refine bt ?_ (by assumption)))))).mono ?_; rintro _ w6 ⟨rfl, hb6⟩; rw [H2.out]; have Hx6 := Lib.hid (Hx5.out.step hb6); clear hb6; clear a0; have a0 : w6.cell? ⟨w.heap.size, 0, none⟩ = some (.slice aa fs.length ca) := Hx6.out.cell 0)
      | (go_at_call 63; refine (spec_validName s _ hsl).mono ?_; rintro _ w7 ⟨rfl, hb7⟩; rw [H3.out]; have Hx7 := Lib.hid (Hx6.out.step hb7); clear hb7; clear a0; have a0 : w7.cell? ⟨w.heap.size, 0, none⟩ = some (.slice aa fs.length ca) := Hx7.out.cell 0))
    go_ret
    have hbw := Hx7.out.below
    exact noStrs Hn.out (by (repeat (with_reducible first | exact Below.refl _ _ | assumption | refine ba ?_ _ | refine bd ?_ | refine bdN ?_ _ | refine bs ?_ (by first | exact Nat.le_refl _ | (dsimp only; omega) | (simp; done)) _ | refine bt ?_ (by assumption))))
  have H1 := Lib.hid h1
  have H2 := Lib.hid h2
  have H3 := Lib.hid h3
  have Hlk := Lib.hid (okLook_of h1 h2)
  have hna : namesAbove s = above s := by simp [namesAbove, h3]
  obtain ⟨ns, hns⟩ : ∃ ns, ns = above s := ⟨_, rfl⟩
  have Hns := Lib.hid hns
  have hn3 : ns.length ≤ 3 := by rw [hns, ← hna]; exact namesAbove_le3 s
  have hn1 : 1 ≤ ns.length := by rw [hns]; exact List.length_pos_iff.2 (above_pos s)
  have Hnd := Lib.hid (show ns.Nodup by rw [hns, ← hna]; exact namesAbove_nodup s)
  have Hnv := Lib.hid (show ∀ x ∈ ns, vn x = true by rw [hns]; exact above_vn h3)
  obtain ⟨L, hL⟩ : ∃ L, L = reachAll fs path ns := ⟨_, rfl⟩
  have hLl : L.length ≤ 291 := by rw [hL]; have := reachAll_len (t := fs) (path := path) (okLook_tree Hlk.out) Hnd.out; omega
  have HL := Lib.hid hL
  have Hre := Lib.hid (show missingOf fs path s = (L.filter (missN fs path)).foldl insTo [] by unfold missingOf reachOf; rw [if_pos Hlk.out, hna, ← hns, ← hL]; exact (sortUp_filter _ _).symm)
  have Hvl := Lib.hid (show ∀ x ∈ L, vn x = true by rw [hL]; exact reachAll_vn (fun x hx => by rw [hns] at hx; exact above_vn h3 x hx))
  have h3l := okPath_len h2
  obtain ⟨p, hpk⟩ : ∃ p : Bs → Bool, p = missN fs path := ⟨_, rfl⟩
  have Hpk := Lib.hid hpk
  rw [← hpk] at Hre
  clear h1 h2 h3 hna hns hL hpk
  go_enter Tryz.func15, Tryz.ntmps15
  go_wp2_with (first
    | (go_at_call 61; refine (spec_validTree _ fs D _ (Hr.out.below (by have := Hb0.out.below; (repeat (with_reducible first | exact Below.refl _ _ | assumption | refine ba ?_ _ | refine bd ?_ | refine bdN ?_ _ | refine bs ?_ (by first | exact Nat.le_refl _ | (dsimp only; omega) | (simp; done)) _ | refine bt ?_ (by assumption))))) Hz3.out).mono ?_; rintro _ w5 ⟨rfl, hb5⟩; rw [H1.out]; have Hx5 := Lib.hid (Hb0.out.step hb5); clear hb5; have a0 : w5.cell? ⟨w.heap.size, 0, none⟩ = some (.slice aa fs.length ca) := Hx5.out.cell 0)
    | (go_at_call 62; refine (spec_validPath _ path _ (Hp.out.below (by have := Hx5.out.below; (repeat (with_reducible first | exact Below.refl _ _ | assumption | refine ba ?_ _ | refine bd ?_ | refine bdN ?_ _ | refine bs ?_ (by first | exact Nat.le_refl _ | (dsimp only; omega) | (simp; done)) _ | refine bt ?_ (by assumption)))))).mono ?_; rintro _ w6 ⟨rfl, hb6⟩; rw [H2.out]; have Hx6 := Lib.hid (Hx5.out.step hb6); clear hb6; clear a0; have a0 : w6.cell? ⟨w.heap.size, 0, none⟩ = some (.slice aa fs.length ca) := Hx6.out.cell 0)
    | (go_at_call 63; refine (spec_validName s _ hsl).mono ?_; rintro _ w7 ⟨rfl, hb7⟩; rw [H3.out]; have Hx7 := Lib.hid (Hx6.out.step hb7); clear hb7; clear a0; have a0 : w7.cell? ⟨w.heap.size, 0, none⟩ = some (.slice aa fs.length ca) := Hx7.out.cell 0; have hlt7 := Hx7.out.lt))
  obtain ⟨W8, hW8⟩ : ∃ W, W = w7.alloc (.cells #[] 9) := ⟨_, rfl⟩
  rw [← hW8]
  have HX8 := Lib.hid (show Nm.Boxed w #[.slice aa fs.length ca] 31 W8 by rw [hW8]; exact Hx7.out.step (ba (Below.refl _ _) _))
  have HE8 := Lib.hid (show W8.ownsRow (w.heap.size + 1) 9 1 (.slice (some ⟨w7.heap.size, 0, none⟩) 0 0) 0 [] by rw [hW8]; exact World.ownsRow_lit (size := 1) w7 #[] 0 hlt7 (by unfold maxLen; omega) rfl)
  have hs8 : W8.heap.size = w7.heap.size + 1 := by rw [hW8]; simp
  have Hbel8 := Lib.hid HX8.out.below
  have lt8 := HX8.out.lt
  have hA8 : W8.cell? ⟨w.heap.size, 0, none⟩ = some (.slice aa fs.length ca) := HX8.out.cell 0
  have Hk := Lib.hid (fun (w' : World) (hC : Below W8.heap.size W8 w') => (⟨(HX8.out.step hC).cell 0, hC⟩ : w'.cell? ⟨w.heap.size, 0, none⟩ = some (.slice aa fs.length ca) ∧ Below W8.heap.size W8 w'))
  clear hW8 a0 Hx7 Hx6 Hx5
  go_region_held3 (fun w' => w'.cell? ⟨w.heap.size, 0, none⟩ = some (.slice aa fs.length ca) ∧ Below W8.heap.size W8 w')
    (first | exact Hk.out _ Hb10.out | exact Hk.out _ Hb9.out | exact Hk.out _ (by (repeat (with_reducible first | exact Below.refl _ _ | assumption | refine ba ?_ _ | refine bd ?_ | refine bdN ?_ _ | refine bs ?_ (by first | exact Nat.le_refl _ | (dsimp only; omega) | (simp; done)) _ | refine bt ?_ (by assumption)))))
    (first
      | (go_at_call 65; refine (spec_above s _ hsl).mono ?_; rintro _ w9 ⟨v9, rfl, hown9, hb9⟩; rw [← Hns.out] at hown9; obtain ⟨a9, c9, hv9⟩ := owns_shape hown9; subst hv9; have R9 := Lib.hid (Reads.of_owns hown9); have Hb9 := Lib.hid (show Below W8.heap.size W8 w9 by (repeat (with_reducible first | exact Below.refl _ _ | assumption | refine ba ?_ _ | refine bd ?_ | refine bdN ?_ _ | refine bs ?_ (by first | exact Nat.le_refl _ | (dsimp only; omega) | (simp; done)) _ | refine bt ?_ (by assumption)))); clear hown9 hb9)
      | (go_at_call 64; refine (spec_reach _ fs D _ path _ ns _ (Hr.out.below (bt Hbel8.out (by first | exact Hb9.out | (have := Hb9.out; (repeat (with_reducible first | exact Below.refl _ _ | assumption | refine ba ?_ _ | refine bd ?_ | refine bdN ?_ _ | refine bs ?_ (by first | exact Nat.le_refl _ | (dsimp only; omega) | (simp; done)) _ | refine bt ?_ (by assumption))))))) Hz.out Hlk.out (Hp.out.below (bt Hbel8.out (by first | exact Hb9.out | (have := Hb9.out; (repeat (with_reducible first | exact Below.refl _ _ | assumption | refine ba ?_ _ | refine bd ?_ | refine bdN ?_ _ | refine bs ?_ (by first | exact Nat.le_refl _ | (dsimp only; omega) | (simp; done)) _ | refine bt ?_ (by assumption))))))) (Reads.below R9.out (by (repeat (with_reducible first | exact Below.refl _ _ | assumption | refine ba ?_ _ | refine bd ?_ | refine bdN ?_ _ | refine bs ?_ (by first | exact Nat.le_refl _ | (dsimp only; omega) | (simp; done)) _ | refine bt ?_ (by assumption))))) hn1 (by omega) Hnd.out Hnv.out).mono ?_; rintro _ w10 ⟨v10, rfl, hown10, hb10⟩; rw [← HL.out] at hown10; obtain ⟨a10, c10, hv10⟩ := owns_shape hown10; subst hv10; have Hl10 := Lib.hid (owns_mono hown10 (show W8.heap.size ≤ _ from Nat.le_trans Hb9.out.size (by first | exact Nat.le_refl _ | exact (show Below _ _ _ by (repeat (with_reducible first | exact Below.refl _ _ | assumption | refine ba ?_ _ | refine bd ?_ | refine bdN ?_ _ | refine bs ?_ (by first | exact Nat.le_refl _ | (dsimp only; omega) | (simp; done)) _ | refine bt ?_ (by assumption)))).size))); have Hb10 := Lib.hid (Hb9.out.trans (hb10.mono Hb9.out.size)); clear hown10 hb10))
  have HE10 := Lib.hid (owns_below HE8.out Hb10.out)
  have HX10 := Lib.hid (HX8.out.step Hb10.out)
  have HLw := Lib.hid (owns_mono Hl10.out (show w.heap.size + 1 ≤ W8.heap.size from lt8))
  have Hdis := Lib.hid (show ∀ b, (Value.slice a10 L.length c10).ownBlock = some b → b ≠ w7.heap.size from fun b hb => by have := (owns_block Hl10.out hb).1; omega)
  clear hA8 Hl10 HE8 HX8 Hbel8 hs8
  go_wp2_with fail
  go_loopw [7, 9] (fun nv kv wr => ∃ (k g cp : Nat), k ≤ L.length ∧ kv = .int .i64 k ∧ nv = .slice (some ⟨g, 0, none⟩) (((L.take k).filter p).foldl insTo []).length cp ∧ wr.ownsRow (w.heap.size + 1) 9 1 (.slice (some ⟨g, 0, none⟩) (((L.take k).filter p).foldl insTo []).length cp) (((L.take k).filter p).foldl insTo []).length ((((L.take k).filter p).foldl insTo []).map sv) ∧ Nm.Boxed w #[.slice aa fs.length ca] 31 wr ∧ wr.ownsRow (w.heap.size + 1) 9 1 (.slice a10 L.length c10) L.length (L.map sv) ∧ (∀ b, (Value.slice a10 L.length c10).ownBlock = some b → b ≠ g)) (fun _ kv _ => L.length - (intOf kv).toNat)
  case atStart => exact ⟨0, w7.heap.size, 0, by omega, rfl, rfl, HE10.out, HX10.out, HLw.out, Hdis.out⟩
  case round =>
    obtain ⟨k, g, cp, hk, rfl, rfl, hown, hbx, hlist, hdis⟩ := hrel
    have Hown := Lib.hid hown
    have Hbx := Lib.hid hbx
    have Hdis2 := Lib.hid hdis
    have hsz := hbx.lt
    have Hup := Lib.hid (show Up (((L.take k).filter p).foldl insTo []) from foldIns_up _ (by simp [Up]))
    have hlj : (((L.take k).filter p).foldl insTo []).length ≤ 291 := Nat.le_trans (foldIns_len _ _) (by have := List.length_filter_le p (L.take k); rw [List.length_take] at this; simp; omega)
    clear hown hbx hdis HE10 HX10 HLw Hdis
    by_cases hlt : k < L.length
    · obtain ⟨gl, cl, el, hgl1, hgl2⟩ := hlist.form (by omega)
      simp only [Value.slice.injEq] at el
      obtain ⟨rfl, _, rfl⟩ := el
      have hcj : wr.cell? ⟨gl, k, none⟩ = some (.string (mk L[k])) := by
        rw [hlist.cellAt k (by omega), List.getElem?_map, List.getElem?_eq_getElem hlt]; rfl
      have Hlist := Lib.hid hlist
      have hne : gl ≠ g := Hdis2.out gl rfl
      have Hsn := Lib.hid (filterM_snoc p L k hlt)
      have Hvn := Lib.hid (Hvl.out _ (List.getElem_mem hlt))
      have hk1 : (k : Int) < (L.length : Int) := by omega
      have hk0 : (0 : Int) ≤ (k : Int) := by omega
      have hgs : gl < wr.heap.size := (Hlist.out.lt gl rfl).2
      have hA : wr.cell? ⟨w.heap.size, 0, none⟩ = some (.slice aa fs.length ca) := Hbx.out.cell 0
      have Hbel := Lib.hid Hbx.out.below
      clear hlist
      have Hpy := Lib.hid (show p L[k] = missN fs path L[k] by rw [Hpk.out])
      generalize L[k] = y at *
      have hyl := vn_len Hvn.out
      have Hk := Lib.hid (fun (w' : World) (hC : Below wr.heap.size wr w') => (⟨(hC.cell (p := ⟨w.heap.size, 0, none⟩) hsz).trans hA, (hC.cell (p := ⟨gl, k, none⟩) hgs).trans hcj, hC⟩ : w'.cell? ⟨w.heap.size, 0, none⟩ = some (.slice aa fs.length ca) ∧ w'.cell? ⟨gl, k, none⟩ = some (.string (mk y)) ∧ Below wr.heap.size wr w'))
      obtain ⟨sp, hsp⟩ : ∃ sp, sp = byParts fs path y := ⟨_, rfl⟩
      have Hpz := Lib.hid (show p y = decide (sp.kind = 0) by rw [Hpy.out, hsp]; rfl)
      have Hsp := Lib.hid hsp.symm
      clear hsp Hpy
      by_cases h0 : sp.kind = 0
      · have Hpt := Lib.hid (show p y = true by rw [Hpz.out, h0]; rfl)
        have H0 := Lib.hid h0
        clear h0
        have Hs2 := Lib.hid (show ((L.take (k + 1)).filter p).foldl insTo [] = insTo (((L.take k).filter p).foldl insTo []) y by rw [Hsn.out, Hpt.out, if_pos rfl, List.foldl_append]; rfl)
        clear Hsn
        go_wp2_with fail
        go_region_held3 (fun w' => w'.cell? ⟨w.heap.size, 0, none⟩ = some (.slice aa fs.length ca) ∧ w'.cell? ⟨gl, k, none⟩ = some (.string (mk y)) ∧ Below wr.heap.size wr w')
          (first | exact Hk.out _ Hb9.out | exact Hk.out _ (by (repeat (with_reducible first | exact Below.refl _ _ | assumption | refine ba ?_ _ | refine bd ?_ | refine bdN ?_ _ | refine bs ?_ (by first | exact Nat.le_refl _ | (dsimp only; omega) | (simp; done)) _ | refine bt ?_ (by assumption)))))
          (first
            | (go_at_call 66; refine (spec_find _ fs D _ path y _ (Hr.out.below (bt Hbel.out (by (repeat (with_reducible first | exact Below.refl _ _ | assumption | refine ba ?_ _ | refine bd ?_ | refine bdN ?_ _ | refine bs ?_ (by first | exact Nat.le_refl _ | (dsimp only; omega) | (simp; done)) _ | refine bt ?_ (by assumption)))))) Hz.out (okLook_tree Hlk.out) Hvn.out (Hp.out.below (bt Hbel.out (by (repeat (with_reducible first | exact Below.refl _ _ | assumption | refine ba ?_ _ | refine bd ?_ | refine bdN ?_ _ | refine bs ?_ (by first | exact Nat.le_refl _ | (dsimp only; omega) | (simp; done)) _ | refine bt ?_ (by assumption)))))) (by omega)).mono ?_; rintro _ w9 ⟨v9, rfl, hown9, hb9⟩; rw [Hsp.out]; rw [Hsp.out] at hown9; rw [H0.out]; obtain ⟨a9, k9, hv9⟩ := owns_shape hown9; subst hv9; have Hb9 := Lib.hid (show Below wr.heap.size wr w9 by (repeat (with_reducible first | exact Below.refl _ _ | assumption | refine ba ?_ _ | refine bd ?_ | refine bdN ?_ _ | refine bs ?_ (by first | exact Nat.le_refl _ | (dsimp only; omega) | (simp; done)) _ | refine bt ?_ (by assumption)))); clear hown9 hb9))
        all_goals
          obtain ⟨hA9, hcj9, _⟩ := Hk.out w9 Hb9.out
          have Hown9' := Lib.hid (owns_below Hown.out Hb9.out)
          have Hl9 := Lib.hid (owns_below Hlist.out Hb9.out)
          have Hx9 := Lib.hid (Hbx.out.step Hb9.out)
          have hz9 := Hb9.out.size
          clear hA hcj
          generalize ((L.take k).filter p).foldl insTo [] = M at *
          go_wp2_with (go_at_call 67; refine (spec_insertText (w.heap.size + 1) g cp M y _ Hown9'.out Hup.out (by omega) (by omega)).mono ?_; rintro _ w12 ⟨g7, c7, rfl, hown7, hb7, ht7, hq7⟩)
          have Hown7 := Lib.hid hown7
          have Hx7 := Lib.hid (boxed_low Hx9.out hb7)
          have Hl7 := Lib.hid (owns_turned Hl9.out ht7 (fun b hb e => hne (by cases hb; exact e)))
          have hglw : gl < wr.heap.size := (Hlist.out.lt gl rfl).2
          have hne7 : gl ≠ g7 := by omega
          clear hown7 hb7 ht7
          go_roundw
          case rel => exact ⟨k + 1, g7, c7, by omega, by go_num, by rw [Hs2.out], by rw [Hs2.out]; exact Hown7.out, Hx7.out, Hl7.out, fun b hb => by cases hb; exact hne7⟩
          case measure => simp [intOf]; omega
      · have Hpt := Lib.hid (show p y = false by rw [Hpz.out]; exact decide_eq_false h0)
        obtain ⟨sk, hsk⟩ : ∃ x, x = sp.kind := ⟨_, rfl⟩
        have Hsk := Lib.hid hsk.symm
        have hk0 : (sk == (0 : Int)) = false := by rw [hsk]; simp [h0]
        clear h0 hsk
        have Hs2 := Lib.hid (show (L.take (k + 1)).filter p = (L.take k).filter p by rw [Hsn.out, Hpt.out]; simp)
        clear Hsn
        go_wp2_with fail
        go_region_held3 (fun w' => w'.cell? ⟨w.heap.size, 0, none⟩ = some (.slice aa fs.length ca) ∧ w'.cell? ⟨gl, k, none⟩ = some (.string (mk y)) ∧ Below wr.heap.size wr w')
          (first | exact Hk.out _ Hb9.out | exact Hk.out _ (by (repeat (with_reducible first | exact Below.refl _ _ | assumption | refine ba ?_ _ | refine bd ?_ | refine bdN ?_ _ | refine bs ?_ (by first | exact Nat.le_refl _ | (dsimp only; omega) | (simp; done)) _ | refine bt ?_ (by assumption)))))
          (first
            | (go_at_call 66; refine (spec_find _ fs D _ path y _ (Hr.out.below (bt Hbel.out (by (repeat (with_reducible first | exact Below.refl _ _ | assumption | refine ba ?_ _ | refine bd ?_ | refine bdN ?_ _ | refine bs ?_ (by first | exact Nat.le_refl _ | (dsimp only; omega) | (simp; done)) _ | refine bt ?_ (by assumption)))))) Hz.out (okLook_tree Hlk.out) Hvn.out (Hp.out.below (bt Hbel.out (by (repeat (with_reducible first | exact Below.refl _ _ | assumption | refine ba ?_ _ | refine bd ?_ | refine bdN ?_ _ | refine bs ?_ (by first | exact Nat.le_refl _ | (dsimp only; omega) | (simp; done)) _ | refine bt ?_ (by assumption)))))) (by omega)).mono ?_; rintro _ w9 ⟨v9, rfl, hown9, hb9⟩; rw [Hsp.out]; rw [Hsp.out] at hown9; rw [Hsk.out]; obtain ⟨a9, k9, hv9⟩ := owns_shape hown9; subst hv9; have Hb9 := Lib.hid (show Below wr.heap.size wr w9 by (repeat (with_reducible first | exact Below.refl _ _ | assumption | refine ba ?_ _ | refine bd ?_ | refine bdN ?_ _ | refine bs ?_ (by first | exact Nat.le_refl _ | (dsimp only; omega) | (simp; done)) _ | refine bt ?_ (by assumption)))); clear hown9 hb9))
        all_goals
          go_wp2_with fail
          go_roundw
          case rel => exact ⟨k + 1, g, cp, by omega, by go_num, by rw [Hs2.out], by rw [Hs2.out]; exact owns_below Hown.out Hb9.out, Hbx.out.step Hb9.out, owns_below Hlist.out Hb9.out, Hdis2.out⟩
          case measure => simp [intOf]; omega
    · obtain rfl : k = L.length := by omega
      clear hlist
      rw [List.take_length] at Hown ⊢
      go_wp2_with fail
      go_ret
      refine ⟨_, rfl, ?_, Hbx.out.below⟩
      rw [Hre.out]
      exact owns_mono Hown.out (Nat.le_succ _)

/-! ### The program's look for rings among names: contracts. -/
attribute [local go_sem] Oper.semAt_some
/-- The dmarks that ranges over functions leave among the deferred calls. -/
def dmarks (Ds : List Nat) : List Deferred := Ds.map (fun d => { target := .collected d, args := #[] })
def MarksIn (B : Nat) (w : World) (Ds : List Nat) : Prop := Ds.Nodup ∧ ∀ d ∈ Ds, B ≤ d ∧ w.heap[d]? = some (.deferred (some []))
theorem MarksIn.kept {B : Nat} {w w' : World} {Ds : List Nat} (h : MarksIn B w Ds) (hb : Below w.heap.size w w') : MarksIn B w' Ds :=
  ⟨h.1, fun d hd => ⟨(h.2 d hd).1, (hb.block d (Array.getElem?_eq_some_iff.1 (h.2 d hd).2).1).trans (h.2 d hd).2⟩⟩
theorem leaves_marks {F : Fence} {n : Nat} {P : Program} {fn : Func} {tmps : Array Value} {R : Ending → World → Prop} {B : Nat} : ∀ (Ds : List Nat) (w : World), MarksIn B w Ds →
    (∀ w', Below B w w' → (∀ b, b ∉ Ds → w'.heap[b]? = w.heap[b]?) → LeavesIn F n P fn tmps R [] .returning w') → LeavesInM F n P fn tmps R (dmarks Ds) .returning w
  | [], w, _, h => h w (Below.refl _ _) (fun _ _ => rfl)
  | d :: Ds, w, hm, h => by
    obtain ⟨hn, hd⟩ := hm
    obtain ⟨hn1, hn2⟩ := List.nodup_cons.1 hn
    obtain ⟨hB, hdd⟩ := hd d (by simp)
    refine ⟨by simp, .inl ⟨_, _, rfl, run_takeDeferred hdd, ?_⟩⟩
    have hother : ∀ b, b ≠ d → (w.putObj d (.deferred none)).heap[b]? = w.heap[b]? := fun b hb => World.putObj_heap_other (fun e => hb e)
    have hbel : Below B w (w.putObj d (.deferred none)) := ⟨rfl, rfl, rfl, by simp, fun b hb => hother b (by omega)⟩
    refine leaves_marks Ds _ ⟨hn2, fun x hx => ⟨(hd x (by simp [hx])).1, (hother x (fun e => hn1 (e ▸ hx))).trans (hd x (by simp [hx])).2⟩⟩ (fun w' hb' ho => h w' (hbel.trans hb') (fun b hb => ?_))
    rw [List.mem_cons, not_or] at hb
    exact (ho b hb.2).trans (hother b hb.1)
theorem wp_loop_K {P : Program} {c : Code} {Q : Exit → Act → World → Prop} {a : Act} {w : World} (I : Act → World → Prop) (μ : Act → World → Nat) (h0 : I a w)
    (round : ∀ a w, I a w → ∃ K : Act → World → Prop, (∀ a' w', K a' w' → I a' w' ∧ μ a' w' < μ a w) ∧ c.wp P (Exit.then K Q) a w) : (Code.loop c).wp P Q a w :=
  wp_loop I μ h0 fun a w h => by
    obtain ⟨K, hK, h1⟩ := round a w h
    exact Code.wp_mono (fun e a w q => by cases e <;> first | exact hK _ _ q | exact q) h1
/-- What a round keeps: the names so far in their box, the name that is asked for in its own. -/
def RingIn (B X : Nat) (s : Bs) (rs : List Bs) (C : Nat → Prop) (w : World) : Prop :=
  ∃ v, HB w B 27 #[v] ∧ w.ownsRow (B + 1) 9 1 v rs.length (rs.map sv) ∧ HB w X 9 #[.string (mk s)] ∧ (∀ b, C b ↔ b = B ∨ b = X ∨ v.ownBlock = some b) ∧ v.ownBlock ≠ some X
theorem RingIn.same {B X : Nat} {s : Bs} {rs : List Bs} {C : Nat → Prop} {W W' : World} (h : RingIn B X s rs C W) (hs : SameC C W W') : RingIn B X s rs C W' := by
  obtain ⟨v, h1, h2, h3, h4, h5⟩ := h
  exact ⟨v, (hs.block B ((h4 B).2 (.inl rfl)) h1.lt).trans h1, owns_heap h2 (fun b hb => hs.block b ((h4 b).2 (.inr (.inr hb))) (owns_block h2 hb).2), (hs.block X ((h4 X).2 (.inr (.inl rfl))) h3.lt).trans h3, h4, h5⟩
set_option maxRecDepth 100000 in
set_option maxHeartbeats 4000000 in
theorem impl_rings (g nv : Value) (fs : List Fil) (path : List Int) (D : Nat → Prop) (xs : List Bs) (w : World) (ht : xs ≠ [] → okTree fs = true) (hg : GraphV w D fs path g) (hn : Reads w nv xs) (hxl : xs.length ≤ 400) (hv : ∀ x ∈ xs, vn x = true) :
    Calls Tryz.prog 75 #[g, nv] w (NewStrs 9 (xs.filter (onRing fs path)) w) := by
  obtain ⟨i0, hi, hz0, hz1, hz2⟩ := info_parts infoS
  have Hi := Lib.hid hi
  have Hz0 := Lib.hid hz0
  have Hz1 := Lib.hid hz1
  have Hz2 := Lib.hid hz2
  have Hg := Lib.hid hg
  have Ht := Lib.hid ht
  have Hv := Lib.hid hv
  have Hn := Lib.hid (ReadsIn.of hn)
  obtain ⟨o, rfl⟩ := hg.shape
  obtain ⟨na, nc, rfl, hnl, hnm, hnx⟩ := ReadsIn.of hn
  obtain ⟨p, hpk⟩ : ∃ p : Bs → Bool, p = onRing fs path := ⟨_, rfl⟩
  rw [← hpk]
  have Hpk := Lib.hid hpk
  clear hi hz0 hz1 hz2 hg ht hv hn hnl hnm hnx hpk
  refine (callsIn_wide (n := 5)).1 ?_
  refine callsIn_of_wp_marks Tryz.func75 rfl trivial ?_ rfl
  simp only [Tryz.ntmps75, List.size_toArray, List.length_cons, List.length_nil, Nat.reduceAdd, Nat.reduceSub, Array.replicate_succ, Array.replicate_zero, List.push_toArray, List.append_toArray, List.nil_append, List.cons_append]
  refine wpIn_wide.2 ?_
  go_wp2
  go_step3
  go_wp2
  go_step3
  go_wp2
  obtain ⟨I, hI⟩ : ∃ I : Nat → Act → World → Prop, I = fun k a wr => ∃ (v : Value) (Ds : List Nat) (u7 u8 u12 u13 u14 u15 u16 u17 u18 u19 u20 u21 u22 u23 u24 u25 u26 u27 u28 : Value), (k ≤ xs.length ∧ wr.ownsRow (w.heap.size + 1) 9 1 v ((xs.take k).filter p).length (((xs.take k).filter p).map sv) ∧ HB wr w.heap.size 27 #[v] ∧ Below w.heap.size w wr ∧ MarksIn (w.heap.size + 1) wr Ds) ∧ a = ⟨#[.map o, .slice na xs.length nc, undef, undef, .slice none 0 0, .pointer (some ⟨w.heap.size, 0, none⟩), undef, u7, u8, .slice na xs.length nc, .int .i64 xs.length, .int .i64 k, u12, u13, u14, u15, u16, u17, u18, u19, u20, u21, u22, u23, u24, u25, u26, u27, u28, undef], dmarks Ds⟩ := ⟨_, rfl⟩
  refine wp_loop_K (fun a wr => ∃ k, I k a wr) (fun a _ => xs.length - (intOf (a.tmps.getD 11 undef)).toNat) ?_ ?_
  · refine ⟨0, ?_⟩
    rw [hI]
    exact ⟨.slice none 0 0, [], undef, undef, undef, undef, undef, undef, undef, undef, undef, undef, undef, undef, undef, undef, undef, undef, undef, undef, undef, ⟨by omega, World.ownsRow_nil _ _ _ _, HB.new _ _ _, ba (Below.refl _ _) _, by simp, by simp⟩, rfl⟩
  · intro aa wr hinv
    obtain ⟨k, hinv⟩ := hinv
    rw [hI] at hinv
    obtain ⟨v, Ds, u7, u8, u12, u13, u14, u15, u16, u17, u18, u19, u20, u21, u22, u23, u24, u25, u26, u27, u28, ⟨hk, hown, hbx, hbel, hmk⟩, rfl⟩ := hinv
    obtain ⟨K, hK⟩ : ∃ K : Act → World → Prop, K = fun a' w' => (∃ k, I k a' w') ∧ xs.length - (intOf (a'.tmps.getD 11 undef)).toNat < xs.length - k := ⟨_, rfl⟩
    refine ⟨K, fun a' w' q => by rw [hK] at q; refine ⟨q.1, ?_⟩; have := q.2; simpa [intOf] using this, ?_⟩
    have HK := Lib.hid (show ∀ (v : Value) (Ds : List Nat) (u7 u8 u12 u13 u14 u15 u16 u17 u18 u19 u20 u21 u22 u23 u24 u25 u26 u27 u28 : Value) (wr : World), k < xs.length → wr.ownsRow (w.heap.size + 1) 9 1 v ((xs.take (k + 1)).filter p).length (((xs.take (k + 1)).filter p).map sv) → HB wr w.heap.size 27 #[v] → Below w.heap.size w wr → MarksIn (w.heap.size + 1) wr Ds → K ⟨#[.map o, .slice na xs.length nc, undef, undef, .slice none 0 0, .pointer (some ⟨w.heap.size, 0, none⟩), undef, u7, u8, .slice na xs.length nc, .int .i64 xs.length, .int .i64 ((k : Int) + 1), u12, u13, u14, u15, u16, u17, u18, u19, u20, u21, u22, u23, u24, u25, u26, u27, u28, undef], dmarks Ds⟩ wr from fun v Ds u7 u8 u12 u13 u14 u15 u16 u17 u18 u19 u20 u21 u22 u23 u24 u25 u26 u27 u28 wr hlt h1 h2 h3 h4 => by
      rw [hK, hI]
      exact ⟨⟨k + 1, v, Ds, u7, u8, u12, u13, u14, u15, u16, u17, u18, u19, u20, u21, u22, u23, u24, u25, u26, u27, u28, ⟨by omega, h1, h2, h3, h4⟩, rfl⟩, by simp [intOf]; omega⟩)
    clear hK hI
    have Hown := Lib.hid hown
    have Hbx := Lib.hid hbx
    have Hbel := Lib.hid hbel
    have Hmk := Lib.hid hmk
    have hsz := hbx.lt
    clear hown hbx hbel hmk
    by_cases hlt : k < xs.length
    · have Htr := Lib.hid (Ht.out (by intro e; rw [e] at hlt; simp at hlt))
      obtain ⟨a, cap, e, _, _, h4⟩ := Hn.out
      obtain ⟨b, off, e1, hb, hcc⟩ := h4 (by omega)
      simp only [Value.slice.injEq] at e
      obtain ⟨rfl, hnn, rfl⟩ := e
      subst e1
      have hc := (Hbel.out.cell (p := ⟨b, off + k, none⟩) hb).trans (hcc k hlt)
      have hvn := Hv.out _ (List.getElem_mem hlt)
      have hsl : xs[k].length ≤ 8000000 := Nat.le_trans (vn_len hvn) (by omega)
      have Hsn := Lib.hid (filterM_snoc p xs k hlt)
      clear hcc h4 hnn hvn
      obtain ⟨s, hs⟩ : ∃ s, s = xs[k] := ⟨_, rfl⟩
      rw [← hs] at hc hsl Hsn
      clear hs
      obtain ⟨es, hes⟩ : ∃ es, es = edgesOf fs path s := ⟨_, rfl⟩
      have hE := edgesOf_ok fs path s
      rw [← hes] at hE
      have HE := Lib.hid hE
      have hEl := hE.2.2
      have Hes := Lib.hid hes.symm
      have Hps := Lib.hid (show p s = decide (s ∈ reachAll fs path es) by rw [Hpk.out, hes]; rfl)
      clear hes hE
      go_upto_region 5 with fail
      obtain ⟨X, hX⟩ : ∃ X, X = wr.heap.size := ⟨_, rfl⟩
      obtain ⟨W4, hW4⟩ : ∃ W, W = wr.alloc (.cells #[.string (mk s)] 9) := ⟨_, rfl⟩
      have HX4 := Lib.hid (show HB W4 X 9 #[.string (mk s)] by rw [hW4, hX]; exact HB.new _ _ _)
      have Hb4 := Lib.hid (show Below wr.heap.size wr W4 by rw [hW4]; exact ba (Below.refl _ _) _)
      have hXw : w.heap.size + 1 ≤ X := by omega
      rw [← hW4, ← hX]
      have hX0 : W4.cell? ⟨X, 0, none⟩ = some (.string (mk s)) := HX4.out.cell 0
      have HX := Lib.hid hX
      clear hW4 hc hX
      go_wp2_with (go_at_call 87; refine (impl_edges (.map o) fs path D s _ (Hg.out.below (bt Hbel.out (bt Hb4.out (by (repeat (with_reducible first | exact Below.refl _ _ | assumption | refine ba ?_ _ | refine bd ?_ | refine bdN ?_ _ | refine bs ?_ (by first | exact Nat.le_refl _ | (dsimp only; omega) | (simp; done)) _ | refine bt ?_ (by assumption))))))) hsl).mono ?_; rintro _ w5 ⟨v5, rfl, hown5, hb5⟩; rw [Hes.out] at hown5; obtain ⟨a5, c5, rfl⟩ := owns_shape hown5; have Hown5 := Lib.hid hown5; have Hb5 := Lib.hid (show Below W4.heap.size W4 w5 by (repeat (with_reducible first | exact Below.refl _ _ | assumption | refine ba ?_ _ | refine bd ?_ | refine bdN ?_ _ | refine bs ?_ (by first | exact Nat.le_refl _ | (dsimp only; omega) | (simp; done)) _ | refine bt ?_ (by assumption)))); clear hown5 hb5)
      refine (impl_ways _ _ _ ⟨_, rfl⟩ ⟨_, _, _, rfl⟩).mono ?_
      rintro _ w7 ⟨rfl, hw7⟩
      have Hw7 := Lib.hid hw7
      have hb7 : Below w5.heap.size w5 w7 := by rw [hw7]; exact ba (ba (Below.refl _ _) _) _
      have H2 := Lib.hid (show HB w7 w5.heap.size 68 #[.map o] by rw [hw7]; exact (HB.new _ _ _).alloc _)
      have H1 := Lib.hid (show HB w7 (w5.heap.size + 1) 27 #[.slice a5 es.length c5] by
        have h := HB.new (w5.alloc (.cells #[.map o] 68)) #[.slice a5 es.length c5] 27
        rw [← hw7] at h; simpa using h)
      have Hb7 := Lib.hid hb7
      have Hb47 := Lib.hid (Hb5.out.trans (hb7.mono Hb5.out.size))
      have Hbw7 := Lib.hid (show Below w.heap.size w w7 from bt Hbel.out (bt Hb4.out Hb47.out))
      have hz5 := Hb5.out.size
      have hz7 := hb7.size
      have hz4 := Hb4.out.size
      have hXl := HX4.out.lt
      clear hw7 hb7
      go_wp2_with fail
      obtain ⟨R, hRd⟩ : ∃ R : Nat → Prop, R = fun b => b < w.heap.size ∨ b = w5.heap.size + 1 ∨ b = w5.heap.size ∨ (Value.slice a5 es.length c5).ownBlock = some b := ⟨_, rfl⟩
      have HA : WaysAt w7 D fs path w.heap.size (.map o) (.slice a5 es.length c5) es (w5.heap.size + 1) w5.heap.size R := ⟨Hbw7.out.size, ⟨w, rfl, Hg.out, Hbw7.out⟩, H1.out, H2.out, ⟨_, owns_below Hown5.out Hb7.out⟩, by rw [hRd]; exact fun _ => Iff.rfl⟩
      have Hseq := ways_seq (.map o) (.slice a5 es.length c5) fs path D w.heap.size (w5.heap.size + 1) w5.heap.size es R 400 w7 Htr.out HE.out.2.1 HE.out.1 (by omega) (by omega) HA
      have HRl := HA.lt
      have HRd := Lib.hid hRd
      obtain ⟨C0, hC0d⟩ : ∃ C : Nat → Prop, C = fun b => b = w.heap.size ∨ b = X ∨ v.ownBlock = some b := ⟨_, rfl⟩
      have HC0 := Lib.hid hC0d
      have Hrs := Lib.hid (show ∃ rs, rs = (xs.take k).filter p from ⟨_, rfl⟩)
      obtain ⟨rs, hrs⟩ := Hrs.out
      have Hr0 := Lib.hid hrs
      have hrl : rs.length ≤ 400 := by rw [hrs]; exact Nat.le_trans (List.length_filter_le _ _) (by rw [List.length_take]; omega)
      have HI0 : RingIn w.heap.size X s rs C0 w7 := ⟨v, Hbx.out.step (bt Hb4.out Hb47.out), by rw [hrs]; exact owns_below Hown.out (bt Hb4.out Hb47.out), HX4.out.step Hb47.out, by rw [hC0d]; exact fun _ => Iff.rfl, fun e => by have := (owns_block Hown.out e).2; have := HX.out; omega⟩
      clear hRd hC0d hrs hX0
      refine (wpIn_wide (n := 4)).1 ?_
      refine wpIn_rangeFunc_C (n := 4) (F := Fence.wide) rfl (by omega) (gf := 158) (lb := #[.pointer (some ⟨w5.heap.size + 1, 0, none⟩), .pointer (some ⟨w5.heap.size, 0, none⟩)]) rfl trivial ways_enters Hseq (.refl _ _) HRl (fun _ => rfl)
        (fun pre C W => RingIn w.heap.size X s rs C W ∧ s ∉ pre) (fun c pre C W => c = Code.exit 1 ∧ RingIn w.heap.size X s (rs ++ [s]) C W ∧ s ∈ pre) ?hI ?hIx C0 ?hC0 ⟨HI0, by simp⟩ (fun x => { tmps := #[.map o, .slice (some ⟨b, off, none⟩) xs.length nc, undef, undef, .slice none 0 0, .pointer (some ⟨w.heap.size, 0, none⟩), undef, .pointer (some ⟨X, 0, none⟩), .string (mk x), .slice (some ⟨b, off, none⟩) xs.length nc, .int .i64 xs.length, .int .i64 k, .bool true, .pointer (some ⟨b, off + k, none⟩), .string (mk s), .map o, .map o, .string (mk s), .slice a5 es.length c5, .func (.func 158) #[] #[.pointer (some ⟨w5.heap.size + 1, 0, none⟩), .pointer (some ⟨w5.heap.size, 0, none⟩)], .string (mk x), u21, u22, u23, u24, u25, u26, u27, u28, undef], defers := [] }) ?assign ?body ?done ?stop
      case hI => exact fun pre C W W' h hs => ⟨h.1.same hs, h.2⟩
      case hIx => exact fun c pre C W W' h hs => ⟨h.1, h.2.1.same hs, h.2.2⟩
      case hC0 =>
        intro b hb
        have h5 : ∀ x, (Value.slice a5 es.length c5).ownBlock = some x → W4.heap.size ≤ x := fun x hx => (owns_block Hown5.out hx).1
        have hv1 : ∀ x, v.ownBlock = some x → w.heap.size + 1 ≤ x ∧ x < wr.heap.size := fun x hx => owns_block Hown.out hx
        have hX := HX.out
        rw [HC0.out] at hb
        rw [HRd.out]
        have key : w.heap.size ≤ b ∧ b < W4.heap.size := by
          rcases hb with rfl | rfl | hb
          · omega
          · omega
          · have := hv1 b hb; omega
        refine ⟨?_, by omega⟩
        rintro (h | h | h | h)
        · omega
        · omega
        · omega
        · have := h5 b h; omega
      case assign =>
        intro l x W K2 hK2
        clear HI0 Hseq HRl HA Hrs
        gi_wp2
        exact hK2
      case body =>
        intro l pre x C W hin hCl hlen
        obtain ⟨⟨v1, hb1, hown1, hx1, hC1, hvX⟩, hns⟩ := hin
        have x0 : W.cell? ⟨X, 0, none⟩ = some (.string (mk s)) := hx1.cell 0
        have y0 : W.cell? ⟨w.heap.size, 0, none⟩ = some v1 := hb1.cell 0
        have yf := hb1.frozen 0
        have hBl := hb1.lt
        have hapart : v1.ownBlock ≠ some w.heap.size := fun e => by have := (owns_block hown1 e).1; omega
        by_cases he : s = x
        · subst he
          gi_wp2_with (gi_at_builtin; refine wpListIn_append_at _ rfl _ _ 27 rfl (w.heap.size + 1) 9 i0 (.string ByteArray.empty) 1 16 Tryz.underlying27 Hi.out Hz0.out Hz1.out Hz2.out rfl (by decide) _ rs.length _ rfl (hown1.alloc _) ⟨W.heap.size, 0, none⟩ 1 1 [.string (mk s)] rfl rfl (cell_one_new _ _ _) (fun u hu => by simp at hu; subst hu; rfl) (by unfold maxLen; omega) (by omega) (by simp; omega) ?_; intro v9 w9 hown9 hg9 hat9; obtain ⟨g9, c9, rfl⟩ := ownsRow_succ hown9; have hb9 : HB w9 w.heap.size 27 #[v1] := (hb1.alloc _).grown hg9 hapart; have z0 := hb9.cell 0; have zf := hb9.frozen 0; have zl := hb9.lt)
          have hgB : g9 ≠ w.heap.size := fun e => by have h1 : w.heap.size + 1 ≤ g9 := (owns_block hown9 rfl).1; omega
          have hg9l : g9 < w9.heap.size := (owns_block hown9 rfl).2
          have hX9 : HB w9 X 9 #[.string (mk s)] := (hx1.alloc _).grown hg9 hvX
          have hkeep : ∀ b, b ≠ w.heap.size → (w9.setCell ⟨w.heap.size, 0, none⟩ (.slice (some ⟨g9, 0, none⟩) (rs.length + 1) c9)).heap[b]? = w9.heap[b]? := fun b hb => Below.heap_setCell _ _ _ _ hb
          have hsz : w9.heap.size = (w9.setCell ⟨w.heap.size, 0, none⟩ (.slice (some ⟨g9, 0, none⟩) (rs.length + 1) c9)).heap.size := by simp [World.setCell]
          refine ⟨fun b => b = w.heap.size ∨ b = X ∨ b = g9, ⟨hg9.os, hg9.tape, hg9.output, by rw [← hsz]; have := hg9.size; simp at this; omega, fun b hbl hn => ?_, fun b hb => ?_⟩, fun b hb => ?_, rfl, ⟨_, hb9.put 0 _, ?_, ?_, fun b => by simp [Value.ownBlock, eq_comm], fun e => ?_⟩, by simp⟩
          · have hnB : b ≠ w.heap.size := fun e => hn ((hC1 b).2 (.inl e))
            rw [hkeep b hnB, hg9.block b (by simp; omega) (fun e => hn ((hC1 b).2 (.inr (.inr e.symm))))]
            exact Below.heap_alloc _ _ _ hbl
          · rcases hb with rfl | rfl | rfl
            · exact .inl ((hC1 _).2 (.inl rfl))
            · exact .inl ((hC1 _).2 (.inr (.inl rfl)))
            · rcases hat9 with e | e
              · exact .inl ((hC1 _).2 (.inr (.inr (e.symm.trans rfl))))
              · right
                simp only [Value.ownBlock, Option.some.injEq, World.size_alloc] at e
                omega
          · rw [← hsz]
            rcases hb with rfl | rfl | rfl
            · exact zl
            · exact hX9.lt
            · exact hg9l
          · have h := owns_heap (w' := w9.setCell ⟨w.heap.size, 0, none⟩ (.slice (some ⟨g9, 0, none⟩) (rs.length + 1) c9)) hown9 (fun b hb => hkeep b (fun e => by simp only [Value.ownBlock, Option.some.injEq] at hb; exact hgB (hb.trans e)))
            rw [List.length_append, List.map_append]
            exact h
          · exact (hkeep X (by omega)).trans hX9
          · rcases hat9 with h | h
            · exact hvX (h.symm.trans e)
            · rw [h] at e
              have := hx1.lt
              simp at e
              omega
        · have hne : (x == s) = false := by rw [beq_eq_false_iff_ne]; exact fun e => he e.symm
          gi_wp2
          exact ⟨C, StepC.refl _ _, hCl, ⟨v1, hb1, hown1, hx1, hC1, hvX⟩, by simp [hns, he]⟩
      case done =>
        intro D2 ys C W hD hS hin hnD hst hK2
        obtain ⟨hr, hns⟩ := hin
        have Hf := Lib.hid (show (xs.take (k + 1)).filter p = rs by
          rw [Hsn.out, Hps.out, Hr0.out, decide_eq_false (by rw [← hS]; exact hns)]; simp)
        clear hS hns
        obtain ⟨v1, hb1, hown1, hx1, hC1, hvX⟩ := hr
        have hbw : Below w.heap.size w W := ⟨hst.os.trans Hbw7.out.os, hst.tape.trans Hbw7.out.tape, hst.output.trans Hbw7.out.output, Nat.le_trans Hbw7.out.size hst.size, fun b hb => (hst.block b (Nat.lt_of_lt_of_le hb Hbw7.out.size) (fun hc => by
          rw [HC0.out] at hc
          rcases hc with h | h | h
          · omega
          · omega
          · have := (owns_block Hown.out h).1; omega)).trans (Hbw7.out.block b hb)⟩
        have hmk : MarksIn (w.heap.size + 1) W (D2 :: Ds) := by
          refine ⟨List.nodup_cons.2 ⟨fun h => ?_, Hmk.out.1⟩, fun d hd => ?_⟩
          · have h1 := (Array.getElem?_eq_some_iff.1 (Hmk.out.2 D2 h).2).1
            have := HX.out; omega
          · rcases List.mem_cons.1 hd with rfl | hd
            · exact ⟨by omega, hK2⟩
            · obtain ⟨h1, h2⟩ := Hmk.out.2 d hd
              have hdl := (Array.getElem?_eq_some_iff.1 h2).1
              have hdX : d ≠ X := by have := HX.out; omega
              have hdv : v.ownBlock ≠ some d := fun e => by
                rcases Hown.out.2 with ⟨rfl, _⟩ | ⟨g, cap, cur, rfl, _, hg, _⟩
                · cases e
                · cases e; rw [h2] at hg; cases hg
              refine ⟨h1, (hst.block d (by have := HX.out; omega) (fun hc => ?_)).trans ((Hb47.out.block d (by have := HX.out; omega)).trans ((Hb4.out.block d hdl).trans h2))⟩
              rw [HC0.out] at hc
              rcases hc with h | h | h
              · omega
              · exact hdX h
              · exact hdv h
        clear hst hD hnD hK2 hC1 hx1
        clear HI0 Hseq HRl HA
        go_wp2
        exact HK.out v1 (D2 :: Ds) _ _ _ _ _ _ _ _ _ _ _ _ _ _ _ _ _ _ _ W hlt (by rw [Hf.out]; exact hown1) hb1 hbw hmk
      case stop =>
        intro D2 c pre C W hD hSp hin hnD hst hK2
        obtain ⟨rfl, hr, hmem⟩ := hin
        have Hf := Lib.hid (show (xs.take (k + 1)).filter p = rs ++ [s] by
          rw [Hsn.out, Hps.out, Hr0.out, decide_eq_true (hSp.subset hmem)]; simp)
        clear hSp hmem
        obtain ⟨v1, hb1, hown1, hx1, hC1, hvX⟩ := hr
        have hbw : Below w.heap.size w W := ⟨hst.os.trans Hbw7.out.os, hst.tape.trans Hbw7.out.tape, hst.output.trans Hbw7.out.output, Nat.le_trans Hbw7.out.size hst.size, fun b hb => (hst.block b (Nat.lt_of_lt_of_le hb Hbw7.out.size) (fun hc => by
          rw [HC0.out] at hc
          rcases hc with h | h | h
          · omega
          · omega
          · have := (owns_block Hown.out h).1; omega)).trans (Hbw7.out.block b hb)⟩
        have hmk : MarksIn (w.heap.size + 1) W (D2 :: Ds) := by
          refine ⟨List.nodup_cons.2 ⟨fun h => ?_, Hmk.out.1⟩, fun d hd => ?_⟩
          · have h1 := (Array.getElem?_eq_some_iff.1 (Hmk.out.2 D2 h).2).1
            have := HX.out; omega
          · rcases List.mem_cons.1 hd with rfl | hd
            · exact ⟨by omega, hK2⟩
            · obtain ⟨h1, h2⟩ := Hmk.out.2 d hd
              have hdl := (Array.getElem?_eq_some_iff.1 h2).1
              have hdX : d ≠ X := by have := HX.out; omega
              have hdv : v.ownBlock ≠ some d := fun e => by
                rcases Hown.out.2 with ⟨rfl, _⟩ | ⟨g, cap, cur, rfl, _, hg, _⟩
                · cases e
                · cases e; rw [h2] at hg; cases hg
              refine ⟨h1, (hst.block d (by have := HX.out; omega) (fun hc => ?_)).trans ((Hb47.out.block d (by have := HX.out; omega)).trans ((Hb4.out.block d hdl).trans h2))⟩
              rw [HC0.out] at hc
              rcases hc with h | h | h
              · omega
              · exact hdX h
              · exact hdv h
        clear hst hD hnD hK2 hC1 hx1
        clear HI0 Hseq HRl HA
        gi_wp2
        go_wp2
        exact HK.out v1 (D2 :: Ds) _ _ _ _ _ _ _ _ _ _ _ _ _ _ _ _ _ _ _ W hlt (by rw [Hf.out]; exact hown1) hb1 hbw hmk
    · obtain rfl : k = xs.length := by omega
      rw [List.take_length] at Hown
      have x0 := Hbx.out.cell 0
      go_wp2
      rw [Exit.noGoto_ret]
      refine leaves_marks Ds _ Hmk.out (fun w' hb' ho => ?_)
      have hbn : ∀ b, v.ownBlock = some b → b ∉ Ds := fun b hb hd => by
        have h1 := (Hmk.out.2 b hd).2
        rcases Hown.out.2 with ⟨rfl, _⟩ | ⟨g, cap, cur, rfl, _, hg, _⟩
        · cases hb
        · cases hb
          rw [h1] at hg
          cases hg
      refine ⟨_, results_tmp rfl _ _ _, v, rfl, owns_mono (owns_heap Hown.out (fun b hb => ho b (hbn b hb))) (Nat.le_succ _), Hbel.out.trans (hb'.mono (Nat.le_succ _))⟩
set_option maxRecDepth 100000 in
set_option maxHeartbeats 4000000 in
theorem impl_RingsOf (v : Value) (fs : List Fil) (D : Nat → Prop) (pv : Value) (path : List Int) (s : Bs) (w : World) (hr : FilsIn w D v fs) (hz : ShortT 2000000 fs) (hp : IntsIn w pv path) (hsl : s.length ≤ 8000000) :
    Calls Tryz.prog 27 #[.agg #[v], pv, .string (mk s)] w (NewStrs 9 (ringsOf fs path s) w) := by
  have Hr := Lib.hid hr
  have Hz := Lib.hid hz
  have Hp := Lib.hid hp
  obtain ⟨aa, ca, rfl, hl, hm⟩ := hr.len
  clear hr hz hp hl hm
  obtain ⟨L, hL⟩ : ∃ L, L = reachOf fs path s := ⟨_, rfl⟩
  have Hm := Lib.hid (show ringsOf fs path s = L.filter (onRing fs path) by rw [hL]; rfl)
  have hf := reachOf_facts fs path s
  rw [← hL] at hf
  have hL3 := hf.1
  have Hv := Lib.hid hf.2.1
  have Hne := Lib.hid (fun h : L ≠ [] => okLook_tree (reachOf_ne (t := fs) (path := path) (s := s) (by rw [← hL]; exact h)).1)
  have HL := Lib.hid hL.symm
  clear hL hf
  go_enter Tryz.func27, Tryz.ntmps27
  go_wp2_with (first
    | (go_at_call 69; refine (impl_reached _ fs D _ path s _ (Hr.out.below (by (repeat (with_reducible first | exact Below.refl _ _ | assumption | refine ba ?_ _ | refine bd ?_ | refine bdN ?_ _ | refine bs ?_ (by first | exact Nat.le_refl _ | (dsimp only; omega) | (simp; done)) _ | refine bt ?_ (by assumption))))) Hz.out (Hp.out.below (by (repeat (with_reducible first | exact Below.refl _ _ | assumption | refine ba ?_ _ | refine bd ?_ | refine bdN ?_ _ | refine bs ?_ (by first | exact Nat.le_refl _ | (dsimp only; omega) | (simp; done)) _ | refine bt ?_ (by assumption))))) hsl).mono ?_; rintro _ w5 ⟨g5, v5, rfl, ⟨D5, hg5⟩, hown5, hb5⟩; rw [HL.out] at hown5; obtain ⟨o5, rfl⟩ := hg5.shape; obtain ⟨a5, c5, rfl⟩ := owns_shape hown5; have R5 := Lib.hid (Reads.of_owns hown5); have Hg5 := Lib.hid hg5; have Hb5 := Lib.hid (show Below w.heap.size w w5 by (repeat (with_reducible first | exact Below.refl _ _ | assumption | refine ba ?_ _ | refine bd ?_ | refine bdN ?_ _ | refine bs ?_ (by first | exact Nat.le_refl _ | (dsimp only; omega) | (simp; done)) _ | refine bt ?_ (by assumption)))); clear hown5 hb5 hg5)
    | (go_at_call 75; refine (impl_rings _ _ fs path _ L _ Hne.out Hg5.out R5.out (by omega) Hv.out).mono ?_; rintro _ w6 ⟨v6, rfl, hown6, hb6⟩; have Hown6 := Lib.hid hown6; have Hb6 := Lib.hid (Hb5.out.trans (hb6.mono Hb5.out.size)); clear hown6 hb6))
  go_ret
  refine ⟨_, rfl, ?_, Hb6.out⟩
  rw [Hm.out]
  exact owns_mono Hown6.out Hb5.out.size

/-! ### The reference's RingsOf. Written by mkmiss.py. -/
set_option maxRecDepth 100000 in
set_option maxHeartbeats 8000000 in
theorem spec_RingsOf (v : Value) (fs : List Fil) (D : Nat → Prop) (pv : Value) (path : List Int) (s : Bs) (w : World) (hr : FilsIn w D v fs) (hz : ShortT 2000000 fs) (hp : IntsIn w pv path) (hsl : s.length ≤ 8000000) :
    Calls Tryz.prog 26 #[.agg #[v], pv, .string (mk s)] w (NewStrs 9 (ringsOf fs path s) w) := by
  have Hr := Lib.hid hr
  have Hz := Lib.hid hz
  have Hz3 := Lib.hid (short2 (B := 3000000) (by omega) hz)
  have Hp := Lib.hid hp
  obtain ⟨aa, ca, rfl, hl, hm⟩ := hr.len
  obtain ⟨pa, pc, rfl, hl1, hm1⟩ := hp.len
  clear hr hz hp hl hm hl1 hm1
  have Hb0 := Lib.hid (Nm.Boxed.start w #[.slice aa fs.length ca] 31)
  have Hrv := Lib.hid (show vn s = false → ringsOf fs path s = [] from fun h => by unfold ringsOf; rw [reachOf_no (.inr h)]; rfl)
  cases h1 : okTree fs
  · have H1 := Lib.hid h1
    have Hn := Lib.hid (show ringsOf fs path s = [] by unfold ringsOf; rw [reachOf_no (.inl (by unfold okLook; rw [h1]; simp))]; rfl)
    clear h1
    go_enter Tryz.func26, Tryz.ntmps26
    go_wp2_with (first
      | (go_at_call 61; refine (spec_validTree _ fs D _ (Hr.out.below (by have := Hb0.out.below; (repeat (with_reducible first | exact Below.refl _ _ | assumption | refine ba ?_ _ | refine bd ?_ | refine bdN ?_ _ | refine bs ?_ (by first | exact Nat.le_refl _ | (dsimp only; omega) | (simp; done)) _ | refine bt ?_ (by assumption))))) Hz3.out).mono ?_; rintro _ w5 ⟨rfl, hb5⟩; rw [H1.out]; have Hx5 := Lib.hid (Hb0.out.step hb5); clear hb5; have a0 : w5.cell? ⟨w.heap.size, 0, none⟩ = some (.slice aa fs.length ca) := Hx5.out.cell 0))
    go_ret
    have hbw := Hx5.out.below
    exact noStrs Hn.out (by (repeat (with_reducible first | exact Below.refl _ _ | assumption | refine ba ?_ _ | refine bd ?_ | refine bdN ?_ _ | refine bs ?_ (by first | exact Nat.le_refl _ | (dsimp only; omega) | (simp; done)) _ | refine bt ?_ (by assumption))))
  cases h2 : okPath path
  · have H1 := Lib.hid h1
    have H2 := Lib.hid h2
    have Hn := Lib.hid (show ringsOf fs path s = [] by unfold ringsOf; rw [reachOf_no (.inl (by unfold okLook; rw [h2]; simp))]; rfl)
    clear h1 h2
    go_enter Tryz.func26, Tryz.ntmps26
    go_wp2_with (first
      | (go_at_call 61; refine (spec_validTree _ fs D _ (Hr.out.below (by have := Hb0.out.below; (repeat (with_reducible first | exact Below.refl _ _ | assumption | refine ba ?_ _ | refine bd ?_ | refine bdN ?_ _ | refine bs ?_ (by first | exact Nat.le_refl _ | (dsimp only; omega) | (simp; done)) _ | refine bt ?_ (by assumption))))) Hz3.out).mono ?_; rintro _ w5 ⟨rfl, hb5⟩; rw [H1.out]; have Hx5 := Lib.hid (Hb0.out.step hb5); clear hb5; have a0 : w5.cell? ⟨w.heap.size, 0, none⟩ = some (.slice aa fs.length ca) := Hx5.out.cell 0)
      | (go_at_call 62; refine (spec_validPath _ path _ (Hp.out.below (by have := Hx5.out.below; (repeat (with_reducible first | exact Below.refl _ _ | assumption | refine ba ?_ _ | refine bd ?_ | refine bdN ?_ _ | refine bs ?_ (by first | exact Nat.le_refl _ | (dsimp only; omega) | (simp; done)) _ | refine bt ?_ (by assumption)))))).mono ?_; rintro _ w6 ⟨rfl, hb6⟩; rw [H2.out]; have Hx6 := Lib.hid (Hx5.out.step hb6); clear hb6; clear a0; have a0 : w6.cell? ⟨w.heap.size, 0, none⟩ = some (.slice aa fs.length ca) := Hx6.out.cell 0))
    go_ret
    have hbw := Hx6.out.below
    exact noStrs Hn.out (by (repeat (with_reducible first | exact Below.refl _ _ | assumption | refine ba ?_ _ | refine bd ?_ | refine bdN ?_ _ | refine bs ?_ (by first | exact Nat.le_refl _ | (dsimp only; omega) | (simp; done)) _ | refine bt ?_ (by assumption))))
  cases h3 : vn s
  · have H1 := Lib.hid h1
    have H2 := Lib.hid h2
    have H3 := Lib.hid h3
    have Hn := Lib.hid (Hrv.out h3)
    clear h1 h2 h3
    go_enter Tryz.func26, Tryz.ntmps26
    go_wp2_with (first
      | (go_at_call 61; refine (spec_validTree _ fs D _ (Hr.out.below (by have := Hb0.out.below; (repeat (with_reducible first | exact Below.refl _ _ | assumption | refine ba ?_ _ | refine bd ?_ | refine bdN ?_ _ | refine bs ?_ (by first | exact Nat.le_refl _ | (dsimp only; omega) | (simp; done)) _ | refine bt ?_ (by assumption))))) Hz3.out).mono ?_; rintro _ w5 ⟨rfl, hb5⟩; rw [H1.out]; have Hx5 := Lib.hid (Hb0.out.step hb5); clear hb5; have a0 : w5.cell? ⟨w.heap.size, 0, none⟩ = some (.slice aa fs.length ca) := Hx5.out.cell 0)
      | (go_at_call 62; refine (spec_validPath _ path _ (Hp.out.below (by have := Hx5.out.below; (repeat (with_reducible first | exact Below.refl _ _ | assumption | refine ba ?_ _ | refine bd ?_ | refine bdN ?_ _ | refine bs ?_ (by first | exact Nat.le_refl _ | (dsimp only; omega) | (simp; done)) _ | refine bt ?_ (by assumption)))))).mono ?_; rintro _ w6 ⟨rfl, hb6⟩; rw [H2.out]; have Hx6 := Lib.hid (Hx5.out.step hb6); clear hb6; clear a0; have a0 : w6.cell? ⟨w.heap.size, 0, none⟩ = some (.slice aa fs.length ca) := Hx6.out.cell 0)
      | (go_at_call 63; refine (spec_validName s _ hsl).mono ?_; rintro _ w7 ⟨rfl, hb7⟩; rw [H3.out]; have Hx7 := Lib.hid (Hx6.out.step hb7); clear hb7; clear a0; have a0 : w7.cell? ⟨w.heap.size, 0, none⟩ = some (.slice aa fs.length ca) := Hx7.out.cell 0))
    go_ret
    have hbw := Hx7.out.below
    exact noStrs Hn.out (by (repeat (with_reducible first | exact Below.refl _ _ | assumption | refine ba ?_ _ | refine bd ?_ | refine bdN ?_ _ | refine bs ?_ (by first | exact Nat.le_refl _ | (dsimp only; omega) | (simp; done)) _ | refine bt ?_ (by assumption))))
  have H1 := Lib.hid h1
  have H2 := Lib.hid h2
  have H3 := Lib.hid h3
  have Hlk := Lib.hid (okLook_of h1 h2)
  have hna : namesAbove s = above s := by simp [namesAbove, h3]
  obtain ⟨ns, hns⟩ : ∃ ns, ns = above s := ⟨_, rfl⟩
  have Hns := Lib.hid hns
  have hn3 : ns.length ≤ 3 := by rw [hns, ← hna]; exact namesAbove_le3 s
  have hn1 : 1 ≤ ns.length := by rw [hns]; exact List.length_pos_iff.2 (above_pos s)
  have Hnd := Lib.hid (show ns.Nodup by rw [hns, ← hna]; exact namesAbove_nodup s)
  have Hnv := Lib.hid (show ∀ x ∈ ns, vn x = true by rw [hns]; exact above_vn h3)
  obtain ⟨L, hL⟩ : ∃ L, L = reachAll fs path ns := ⟨_, rfl⟩
  have hLl : L.length ≤ 291 := by rw [hL]; have := reachAll_len (t := fs) (path := path) (okLook_tree Hlk.out) Hnd.out; omega
  have HL := Lib.hid hL
  have Hre := Lib.hid (show ringsOf fs path s = (L.filter (onRing fs path)).foldl insTo [] by unfold ringsOf reachOf; rw [if_pos Hlk.out, hna, ← hns, ← hL]; exact (sortUp_filter _ _).symm)
  have Hvl := Lib.hid (show ∀ x ∈ L, vn x = true by rw [hL]; exact reachAll_vn (fun x hx => by rw [hns] at hx; exact above_vn h3 x hx))
  have h3l := okPath_len h2
  obtain ⟨p, hpk⟩ : ∃ p : Bs → Bool, p = onRing fs path := ⟨_, rfl⟩
  have Hpk := Lib.hid hpk
  rw [← hpk] at Hre
  clear h1 h2 h3 hna hns hL hpk
  go_enter Tryz.func26, Tryz.ntmps26
  go_wp2_with (first
    | (go_at_call 61; refine (spec_validTree _ fs D _ (Hr.out.below (by have := Hb0.out.below; (repeat (with_reducible first | exact Below.refl _ _ | assumption | refine ba ?_ _ | refine bd ?_ | refine bdN ?_ _ | refine bs ?_ (by first | exact Nat.le_refl _ | (dsimp only; omega) | (simp; done)) _ | refine bt ?_ (by assumption))))) Hz3.out).mono ?_; rintro _ w5 ⟨rfl, hb5⟩; rw [H1.out]; have Hx5 := Lib.hid (Hb0.out.step hb5); clear hb5; have a0 : w5.cell? ⟨w.heap.size, 0, none⟩ = some (.slice aa fs.length ca) := Hx5.out.cell 0)
    | (go_at_call 62; refine (spec_validPath _ path _ (Hp.out.below (by have := Hx5.out.below; (repeat (with_reducible first | exact Below.refl _ _ | assumption | refine ba ?_ _ | refine bd ?_ | refine bdN ?_ _ | refine bs ?_ (by first | exact Nat.le_refl _ | (dsimp only; omega) | (simp; done)) _ | refine bt ?_ (by assumption)))))).mono ?_; rintro _ w6 ⟨rfl, hb6⟩; rw [H2.out]; have Hx6 := Lib.hid (Hx5.out.step hb6); clear hb6; clear a0; have a0 : w6.cell? ⟨w.heap.size, 0, none⟩ = some (.slice aa fs.length ca) := Hx6.out.cell 0)
    | (go_at_call 63; refine (spec_validName s _ hsl).mono ?_; rintro _ w7 ⟨rfl, hb7⟩; rw [H3.out]; have Hx7 := Lib.hid (Hx6.out.step hb7); clear hb7; clear a0; have a0 : w7.cell? ⟨w.heap.size, 0, none⟩ = some (.slice aa fs.length ca) := Hx7.out.cell 0; have hlt7 := Hx7.out.lt))
  obtain ⟨W8, hW8⟩ : ∃ W, W = w7.alloc (.cells #[] 9) := ⟨_, rfl⟩
  rw [← hW8]
  have HX8 := Lib.hid (show Nm.Boxed w #[.slice aa fs.length ca] 31 W8 by rw [hW8]; exact Hx7.out.step (ba (Below.refl _ _) _))
  have HE8 := Lib.hid (show W8.ownsRow (w.heap.size + 1) 9 1 (.slice (some ⟨w7.heap.size, 0, none⟩) 0 0) 0 [] by rw [hW8]; exact World.ownsRow_lit (size := 1) w7 #[] 0 hlt7 (by unfold maxLen; omega) rfl)
  have hs8 : W8.heap.size = w7.heap.size + 1 := by rw [hW8]; simp
  have Hbel8 := Lib.hid HX8.out.below
  have lt8 := HX8.out.lt
  have hA8 : W8.cell? ⟨w.heap.size, 0, none⟩ = some (.slice aa fs.length ca) := HX8.out.cell 0
  have Hk := Lib.hid (fun (w' : World) (hC : Below W8.heap.size W8 w') => (⟨(HX8.out.step hC).cell 0, hC⟩ : w'.cell? ⟨w.heap.size, 0, none⟩ = some (.slice aa fs.length ca) ∧ Below W8.heap.size W8 w'))
  clear hW8 a0 Hx7 Hx6 Hx5
  go_region_held3 (fun w' => w'.cell? ⟨w.heap.size, 0, none⟩ = some (.slice aa fs.length ca) ∧ Below W8.heap.size W8 w')
    (first | exact Hk.out _ Hb10.out | exact Hk.out _ Hb9.out | exact Hk.out _ (by (repeat (with_reducible first | exact Below.refl _ _ | assumption | refine ba ?_ _ | refine bd ?_ | refine bdN ?_ _ | refine bs ?_ (by first | exact Nat.le_refl _ | (dsimp only; omega) | (simp; done)) _ | refine bt ?_ (by assumption)))))
    (first
      | (go_at_call 65; refine (spec_above s _ hsl).mono ?_; rintro _ w9 ⟨v9, rfl, hown9, hb9⟩; rw [← Hns.out] at hown9; obtain ⟨a9, c9, hv9⟩ := owns_shape hown9; subst hv9; have R9 := Lib.hid (Reads.of_owns hown9); have Hb9 := Lib.hid (show Below W8.heap.size W8 w9 by (repeat (with_reducible first | exact Below.refl _ _ | assumption | refine ba ?_ _ | refine bd ?_ | refine bdN ?_ _ | refine bs ?_ (by first | exact Nat.le_refl _ | (dsimp only; omega) | (simp; done)) _ | refine bt ?_ (by assumption)))); clear hown9 hb9)
      | (go_at_call 64; refine (spec_reach _ fs D _ path _ ns _ (Hr.out.below (bt Hbel8.out (by first | exact Hb9.out | (have := Hb9.out; (repeat (with_reducible first | exact Below.refl _ _ | assumption | refine ba ?_ _ | refine bd ?_ | refine bdN ?_ _ | refine bs ?_ (by first | exact Nat.le_refl _ | (dsimp only; omega) | (simp; done)) _ | refine bt ?_ (by assumption))))))) Hz.out Hlk.out (Hp.out.below (bt Hbel8.out (by first | exact Hb9.out | (have := Hb9.out; (repeat (with_reducible first | exact Below.refl _ _ | assumption | refine ba ?_ _ | refine bd ?_ | refine bdN ?_ _ | refine bs ?_ (by first | exact Nat.le_refl _ | (dsimp only; omega) | (simp; done)) _ | refine bt ?_ (by assumption))))))) (Reads.below R9.out (by (repeat (with_reducible first | exact Below.refl _ _ | assumption | refine ba ?_ _ | refine bd ?_ | refine bdN ?_ _ | refine bs ?_ (by first | exact Nat.le_refl _ | (dsimp only; omega) | (simp; done)) _ | refine bt ?_ (by assumption))))) hn1 (by omega) Hnd.out Hnv.out).mono ?_; rintro _ w10 ⟨v10, rfl, hown10, hb10⟩; rw [← HL.out] at hown10; obtain ⟨a10, c10, hv10⟩ := owns_shape hown10; subst hv10; have Hl10 := Lib.hid (owns_mono hown10 (show W8.heap.size ≤ _ from Nat.le_trans Hb9.out.size (by first | exact Nat.le_refl _ | exact (show Below _ _ _ by (repeat (with_reducible first | exact Below.refl _ _ | assumption | refine ba ?_ _ | refine bd ?_ | refine bdN ?_ _ | refine bs ?_ (by first | exact Nat.le_refl _ | (dsimp only; omega) | (simp; done)) _ | refine bt ?_ (by assumption)))).size))); have Hb10 := Lib.hid (Hb9.out.trans (hb10.mono Hb9.out.size)); clear hown10 hb10))
  have HE10 := Lib.hid (owns_below HE8.out Hb10.out)
  have HX10 := Lib.hid (HX8.out.step Hb10.out)
  have HLw := Lib.hid (owns_mono Hl10.out (show w.heap.size + 1 ≤ W8.heap.size from lt8))
  have Hdis := Lib.hid (show ∀ b, (Value.slice a10 L.length c10).ownBlock = some b → b ≠ w7.heap.size from fun b hb => by have := (owns_block Hl10.out hb).1; omega)
  clear hA8 Hl10 HE8 HX8 Hbel8 hs8
  go_wp2_with fail
  go_loopw [7, 9] (fun nv kv wr => ∃ (k g cp : Nat), k ≤ L.length ∧ kv = .int .i64 k ∧ nv = .slice (some ⟨g, 0, none⟩) (((L.take k).filter p).foldl insTo []).length cp ∧ wr.ownsRow (w.heap.size + 1) 9 1 (.slice (some ⟨g, 0, none⟩) (((L.take k).filter p).foldl insTo []).length cp) (((L.take k).filter p).foldl insTo []).length ((((L.take k).filter p).foldl insTo []).map sv) ∧ Nm.Boxed w #[.slice aa fs.length ca] 31 wr ∧ wr.ownsRow (w.heap.size + 1) 9 1 (.slice a10 L.length c10) L.length (L.map sv) ∧ (∀ b, (Value.slice a10 L.length c10).ownBlock = some b → b ≠ g)) (fun _ kv _ => L.length - (intOf kv).toNat)
  case atStart => exact ⟨0, w7.heap.size, 0, by omega, rfl, rfl, HE10.out, HX10.out, HLw.out, Hdis.out⟩
  case round =>
    obtain ⟨k, g, cp, hk, rfl, rfl, hown, hbx, hlist, hdis⟩ := hrel
    have Hown := Lib.hid hown
    have Hbx := Lib.hid hbx
    have Hdis2 := Lib.hid hdis
    have hsz := hbx.lt
    have Hup := Lib.hid (show Up (((L.take k).filter p).foldl insTo []) from foldIns_up _ (by simp [Up]))
    have hlj : (((L.take k).filter p).foldl insTo []).length ≤ 291 := Nat.le_trans (foldIns_len _ _) (by have := List.length_filter_le p (L.take k); rw [List.length_take] at this; simp; omega)
    clear hown hbx hdis HE10 HX10 HLw Hdis
    by_cases hlt : k < L.length
    · obtain ⟨gl, cl, el, hgl1, hgl2⟩ := hlist.form (by omega)
      simp only [Value.slice.injEq] at el
      obtain ⟨rfl, _, rfl⟩ := el
      have hcj : wr.cell? ⟨gl, k, none⟩ = some (.string (mk L[k])) := by
        rw [hlist.cellAt k (by omega), List.getElem?_map, List.getElem?_eq_getElem hlt]; rfl
      have Hlist := Lib.hid hlist
      have hne : gl ≠ g := Hdis2.out gl rfl
      have Hsn := Lib.hid (filterM_snoc p L k hlt)
      have Hvn := Lib.hid (Hvl.out _ (List.getElem_mem hlt))
      have hk1 : (k : Int) < (L.length : Int) := by omega
      have hk0 : (0 : Int) ≤ (k : Int) := by omega
      have hgs : gl < wr.heap.size := (Hlist.out.lt gl rfl).2
      have hA : wr.cell? ⟨w.heap.size, 0, none⟩ = some (.slice aa fs.length ca) := Hbx.out.cell 0
      have Hbel := Lib.hid Hbx.out.below
      clear hlist
      have Hpy := Lib.hid (show p L[k] = onRing fs path L[k] by rw [Hpk.out])
      generalize L[k] = y at *
      have hyl := vn_len Hvn.out
      have Hk := Lib.hid (fun (w' : World) (hC : Below wr.heap.size wr w') => (⟨(hC.cell (p := ⟨w.heap.size, 0, none⟩) hsz).trans hA, (hC.cell (p := ⟨gl, k, none⟩) hgs).trans hcj, hC⟩ : w'.cell? ⟨w.heap.size, 0, none⟩ = some (.slice aa fs.length ca) ∧ w'.cell? ⟨gl, k, none⟩ = some (.string (mk y)) ∧ Below wr.heap.size wr w'))
      rcases (show p y = true ∨ p y = false by cases p y <;> simp) with hpt | hpt
      · have Hpt := Lib.hid hpt
        have Hpf := Lib.hid (show onRing fs path y = true from Hpy.out.symm.trans hpt)
        clear hpt
        have Hs2 := Lib.hid (show ((L.take (k + 1)).filter p).foldl insTo [] = insTo (((L.take k).filter p).foldl insTo []) y by rw [Hsn.out, Hpt.out, if_pos rfl, List.foldl_append]; rfl)
        clear Hsn
        go_wp2_with fail
        go_region_held3 (fun w' => w'.cell? ⟨w.heap.size, 0, none⟩ = some (.slice aa fs.length ca) ∧ w'.cell? ⟨gl, k, none⟩ = some (.string (mk y)) ∧ Below wr.heap.size wr w')
          (first | exact Hk.out _ Hb9.out | exact Hk.out _ (by (repeat (with_reducible first | exact Below.refl _ _ | assumption | refine ba ?_ _ | refine bd ?_ | refine bdN ?_ _ | refine bs ?_ (by first | exact Nat.le_refl _ | (dsimp only; omega) | (simp; done)) _ | refine bt ?_ (by assumption)))))
          (first
            | (go_at_call 74; refine (spec_onRing _ fs D _ path y _ (Hr.out.below (bt Hbel.out (by (repeat (with_reducible first | exact Below.refl _ _ | assumption | refine ba ?_ _ | refine bd ?_ | refine bdN ?_ _ | refine bs ?_ (by first | exact Nat.le_refl _ | (dsimp only; omega) | (simp; done)) _ | refine bt ?_ (by assumption)))))) Hz.out Hlk.out Hvn.out (Hp.out.below (bt Hbel.out (by (repeat (with_reducible first | exact Below.refl _ _ | assumption | refine ba ?_ _ | refine bd ?_ | refine bdN ?_ _ | refine bs ?_ (by first | exact Nat.le_refl _ | (dsimp only; omega) | (simp; done)) _ | refine bt ?_ (by assumption))))))).mono ?_; rintro _ w9 ⟨rfl, hb9⟩; rw [Hpf.out]; have Hb9 := Lib.hid (show Below wr.heap.size wr w9 by (repeat (with_reducible first | exact Below.refl _ _ | assumption | refine ba ?_ _ | refine bd ?_ | refine bdN ?_ _ | refine bs ?_ (by first | exact Nat.le_refl _ | (dsimp only; omega) | (simp; done)) _ | refine bt ?_ (by assumption)))); clear hb9))
        all_goals
          obtain ⟨hA9, hcj9, _⟩ := Hk.out w9 Hb9.out
          have Hown9' := Lib.hid (owns_below Hown.out Hb9.out)
          have Hl9 := Lib.hid (owns_below Hlist.out Hb9.out)
          have Hx9 := Lib.hid (Hbx.out.step Hb9.out)
          have hz9 := Hb9.out.size
          clear hA hcj
          generalize ((L.take k).filter p).foldl insTo [] = M at *
          go_wp2_with (go_at_call 67; refine (spec_insertText (w.heap.size + 1) g cp M y _ Hown9'.out Hup.out (by omega) (by omega)).mono ?_; rintro _ w12 ⟨g7, c7, rfl, hown7, hb7, ht7, hq7⟩)
          have Hown7 := Lib.hid hown7
          have Hx7 := Lib.hid (boxed_low Hx9.out hb7)
          have Hl7 := Lib.hid (owns_turned Hl9.out ht7 (fun b hb e => hne (by cases hb; exact e)))
          have hglw : gl < wr.heap.size := (Hlist.out.lt gl rfl).2
          have hne7 : gl ≠ g7 := by omega
          clear hown7 hb7 ht7
          go_roundw
          case rel => exact ⟨k + 1, g7, c7, by omega, by go_num, by rw [Hs2.out], by rw [Hs2.out]; exact Hown7.out, Hx7.out, Hl7.out, fun b hb => by cases hb; exact hne7⟩
          case measure => simp [intOf]; omega
      · have Hpt := Lib.hid hpt
        have Hpf := Lib.hid (show onRing fs path y = false from Hpy.out.symm.trans hpt)
        clear hpt
        have Hs2 := Lib.hid (show (L.take (k + 1)).filter p = (L.take k).filter p by rw [Hsn.out, Hpt.out]; simp)
        clear Hsn
        go_wp2_with fail
        go_region_held3 (fun w' => w'.cell? ⟨w.heap.size, 0, none⟩ = some (.slice aa fs.length ca) ∧ w'.cell? ⟨gl, k, none⟩ = some (.string (mk y)) ∧ Below wr.heap.size wr w')
          (first | exact Hk.out _ Hb9.out | exact Hk.out _ (by (repeat (with_reducible first | exact Below.refl _ _ | assumption | refine ba ?_ _ | refine bd ?_ | refine bdN ?_ _ | refine bs ?_ (by first | exact Nat.le_refl _ | (dsimp only; omega) | (simp; done)) _ | refine bt ?_ (by assumption)))))
          (first
            | (go_at_call 74; refine (spec_onRing _ fs D _ path y _ (Hr.out.below (bt Hbel.out (by (repeat (with_reducible first | exact Below.refl _ _ | assumption | refine ba ?_ _ | refine bd ?_ | refine bdN ?_ _ | refine bs ?_ (by first | exact Nat.le_refl _ | (dsimp only; omega) | (simp; done)) _ | refine bt ?_ (by assumption)))))) Hz.out Hlk.out Hvn.out (Hp.out.below (bt Hbel.out (by (repeat (with_reducible first | exact Below.refl _ _ | assumption | refine ba ?_ _ | refine bd ?_ | refine bdN ?_ _ | refine bs ?_ (by first | exact Nat.le_refl _ | (dsimp only; omega) | (simp; done)) _ | refine bt ?_ (by assumption))))))).mono ?_; rintro _ w9 ⟨rfl, hb9⟩; rw [Hpf.out]; have Hb9 := Lib.hid (show Below wr.heap.size wr w9 by (repeat (with_reducible first | exact Below.refl _ _ | assumption | refine ba ?_ _ | refine bd ?_ | refine bdN ?_ _ | refine bs ?_ (by first | exact Nat.le_refl _ | (dsimp only; omega) | (simp; done)) _ | refine bt ?_ (by assumption)))); clear hb9))
        all_goals
          go_wp2_with fail
          go_roundw
          case rel => exact ⟨k + 1, g, cp, by omega, by go_num, by rw [Hs2.out], by rw [Hs2.out]; exact owns_below Hown.out Hb9.out, Hbx.out.step Hb9.out, owns_below Hlist.out Hb9.out, Hdis2.out⟩
          case measure => simp [intOf]; omega
    · obtain rfl : k = L.length := by omega
      clear hlist
      rw [List.take_length] at Hown ⊢
      go_wp2_with fail
      go_ret
      refine ⟨_, rfl, ?_, Hbx.out.below⟩
      rw [Hre.out]
      exact owns_mono Hown.out (Nat.le_succ _)

/-! ### The plain order: contracts of the program's visits and of the reference's. -/
theorem fold_ordered {t : List Fil} {path : List Int} {R : List Bs} (hR : PlainIn t path R) : ∀ (l : List Bs) {o : List Bs}, (∀ x ∈ l, x ∈ R) → Ordered R o → Ordered R (l.foldl (visit t path) o)
  | [], _, _, h => h
  | x :: r, o, hl, h => fold_ordered hR r (fun y hy => hl y (by simp [hy])) (visit_ordered hR (hl x (by simp)) h)
/-- The graph lies below B. -/
def GraphB (w : World) (B : Nat) (D : Nat → Prop) (fs : List Fil) (path : List Int) (g : Value) : Prop := ∃ wg : World, wg.heap.size ≤ B ∧ GraphV wg D fs path g ∧ Below wg.heap.size wg w
theorem GraphB.graph {w : World} {B : Nat} {D : Nat → Prop} {fs : List Fil} {path : List Int} {g : Value} (h : GraphB w B D fs path g) : GraphV w D fs path g := by
  obtain ⟨wg, _, h1, h2⟩ := h
  exact h1.below h2
theorem GraphB.grown {w w' : World} {B : Nat} {D : Nat → Prop} {fs : List Fil} {path : List Int} {g : Value} (h : GraphB w B D fs path g) {v : Value} (hg : w.grownBy w' v.ownBlock) (hv : ∀ b, v.ownBlock = some b → B ≤ b) : GraphB w' B D fs path g := by
  obtain ⟨wg, h0, h1, h2⟩ := h
  exact ⟨wg, h0, h1, h2.grown hg h2.size (fun b hb => Nat.le_trans h0 (hv b hb))⟩
theorem GraphB.below {w w' : World} {B : Nat} {D : Nat → Prop} {fs : List Fil} {path : List Int} {g : Value} (h : GraphB w B D fs path g) (hb : Below w.heap.size w w') : GraphB w' B D fs path g := by
  obtain ⟨wg, h0, h1, h2⟩ := h
  exact ⟨wg, h0, h1, h2.trans (hb.mono h2.size)⟩
theorem gb_any {w w' : World} (h : Below w.heap.size w w') (r : Option Nat) : w.grownBy w' r := ⟨h.os, h.tape, h.output, h.size, fun i hi _ => h.block i hi⟩
set_option maxRecDepth 100000 in
set_option maxHeartbeats 1000000 in
theorem impl_visit_stay (g v : Value) (fs : List Fil) (path : List Int) (B : Nat) (o : List Bs) (s : Bs) (w : World) (hg : ∃ m, g = .map m) (hv : w.ownsRow B 9 1 v o.length (o.map sv)) (hol : o.length ≤ 400) (hs : s = [] ∨ s ∈ o) :
    Calls Tryz.prog 77 #[g, v, .string (mk s)] w (NewOnto B v o w) := by
  have Hv := Lib.hid hv
  obtain ⟨m, rfl⟩ := hg
  obtain ⟨va, vc, rfl⟩ := owns_shape hv
  clear hv
  by_cases h0 : s = []
  · subst h0
    go_enter Tryz.func77, Tryz.ntmps77
    go_wp2_with fail
    go_ret
    exact ⟨_, rfl, Hv.out, dk_reflG w _, fun b hb => .inl hb⟩
  · have hie : List.isEmpty s = false := by simp [List.isEmpty_iff, h0]
    have Hm := Lib.hid (show decide (s ∈ o) = true from decide_eq_true (hs.resolve_left h0))
    clear hs h0
    go_enter Tryz.func77, Tryz.ntmps77
    go_wp2_with (go_at_call 97; refine (slices_ContainsT _ o s _ (Reads.of_owns Hv.out) (by omega)).mono ?_; rintro _ _ ⟨rfl, rfl⟩; rw [Hm.out])
    go_ret
    exact ⟨_, rfl, Hv.out, dk_reflG w _, fun b hb => .inl hb⟩
set_option maxRecDepth 100000 in
set_option maxHeartbeats 4000000 in
theorem impl_visit (g : Value) (fs : List Fil) (path : List Int) (D : Nat → Prop) (R : List Bs) (hR : PlainIn fs path R) : ∀ (n : Nat) (s : Bs) (o : List Bs) (v : Value) (B : Nat) (w : World), (s = [] ∨ (s ∈ R ∧ rank fs path R s < n)) →
    GraphB w B D fs path g → w.ownsRow B 9 1 v o.length (o.map sv) → B ≤ w.heap.size → Ordered R o →
    Calls Tryz.prog 77 #[g, v, .string (mk s)] w (NewOnto B v (visit fs path o s) w) := by
  intro n
  induction n with
  | zero =>
    intro s o v B w hs hg hv hB ho
    have h0 : s = [] := by
      rcases hs with h | ⟨_, h⟩
      · exact h
      · omega
    subst h0
    rw [visit_nil]
    exact impl_visit_stay g v fs path B o [] w hg.graph.shape hv (Nat.le_trans (ho.len hR) (by omega)) (.inl rfl)
  | succ n ih =>
    intro s o v B w hs hg hv hB ho
    by_cases h0 : s = []
    · subst h0
      rw [visit_nil]
      exact impl_visit_stay g v fs path B o [] w hg.graph.shape hv (Nat.le_trans (ho.len hR) (by omega)) (.inl rfl)
    obtain ⟨hsR, hrk⟩ := hs.resolve_left h0
    by_cases hm : s ∈ o
    · rw [visit_step hR hsR, if_pos hm]
      exact impl_visit_stay g v fs path B o s w hg.graph.shape hv (Nat.le_trans (ho.len hR) (by omega)) (.inr hm)
    obtain ⟨i0, hi, hz0, hz1, hz2⟩ := info_parts infoS
    have Hi := Lib.hid hi
    have Hz0 := Lib.hid hz0
    have Hz1 := Lib.hid hz1
    have Hz2 := Lib.hid hz2
    have hvn := hR.vn s hsR
    have hsl : s.length ≤ 8000000 := Nat.le_trans (vn_len hvn) (by omega)
    have hstep := visit_step hR hsR o
    rw [if_neg hm] at hstep
    have down : ∀ y, y ∈ dep fs path s → y ∈ R ∧ rank fs path R y < n := fun y hy => ⟨hR.dep s hsR y hy, by have := rank_lt hR hsR hy; omega⟩
    obtain ⟨p, hp⟩ : ∃ p, p = parentOf s := ⟨_, rfl⟩
    have Hp := Lib.hid hp.symm
    have Hpd := Lib.hid (show p = [] ∨ (p ∈ R ∧ rank fs path R p < n) by
      by_cases h : p = []
      · exact .inl h
      · right
        exact down p (mem_dep.2 (.inl ⟨hp, by rw [← hp]; exact h⟩)))
    rw [← hp] at hstep
    obtain ⟨ms, hms⟩ : ∃ ms, ms = needsOf fs path s := ⟨_, rfl⟩
    have Hms := Lib.hid hms.symm
    have Hmd := Lib.hid (show ∀ y ∈ ms, y ∈ R ∧ rank fs path R y < n from fun y hy => down y (mem_dep.2 (.inr (by rw [← hms]; exact hy))))
    have hml : ms.length ≤ 8 := by rw [hms]; exact (needsOf_ok fs path s).2.2
    rw [← hms] at hstep
    have ho1 : Ordered R (visit fs path o p) := by
      rcases Hpd.out with h | h
      · rw [h, visit_nil]; exact ho
      · exact visit_ordered hR h.1 ho
    obtain ⟨o1, ho1e⟩ : ∃ o1, o1 = visit fs path o p := ⟨_, rfl⟩
    have Ho1e := Lib.hid ho1e.symm
    rw [← ho1e] at hstep ho1
    have Hstep := Lib.hid hstep
    have Ho := Lib.hid ho
    have Ho1 := Lib.hid ho1
    have hol := ho.len hR
    have hol1 := ho1.len hR
    obtain ⟨V, hV⟩ : ∃ V, V = visit fs path := ⟨_, rfl⟩
    have HV := Lib.hid hV
    have Hfo := Lib.hid (show ∀ j, Ordered R ((ms.take j).foldl V o1) from fun j => by
      rw [hV]; exact fold_ordered hR _ (fun x hx => (Hmd.out x (List.mem_of_mem_take hx)).1) ho1)
    have hfl : ∀ j, ((ms.take j).foldl V o1).length ≤ 291 := fun j => (Hfo.out j).len hR
    have Hfs := Lib.hid (show ∀ j (h : j < ms.length), (ms.take (j + 1)).foldl V o1 = V ((ms.take j).foldl V o1) ms[j] from fun j h => by
      rw [List.take_succ_eq_append_getElem h, List.foldl_append]; rfl)
    have HfE := Lib.hid (show visit fs path o s = (ms.take ms.length).foldl V o1 ++ [s] by rw [List.take_length, hV]; exact hstep)
    have Hm := Lib.hid (show decide (s ∈ o) = false from decide_eq_false hm)
    have hie : List.isEmpty s = false := by simp [List.isEmpty_iff, h0]
    have Hg := Lib.hid hg
    have Hv := Lib.hid hv
    have HR := Lib.hid hR
    have IH := Lib.hid ih
    obtain ⟨mo, rfl⟩ := hg.graph.shape
    obtain ⟨va, vc, rfl⟩ := owns_shape hv
    clear hi hz0 hz1 hz2 hg hv hR ih hs hm h0 hstep ho1e hms hp down ho ho1 hsR hrk hvn hV
    go_enter Tryz.func77, Tryz.ntmps77
    go_wp2_with (first
      | (go_at_call 97; refine (slices_ContainsT _ o s _ (Reads.of_owns Hv.out) (by omega)).mono ?_; rintro _ _ ⟨rfl, rfl⟩; rw [Hm.out])
      | (go_at_call 123; refine (impl_ParentOf s _ (by omega)).mono ?_; rintro _ w5 ⟨rfl, hb5⟩; rw [Hp.out]; have Hb5 := Lib.hid (show Below w.heap.size w w5 by (repeat (with_reducible first | exact Below.refl _ _ | assumption | refine ba ?_ _ | refine bd ?_ | refine bdN ?_ _ | refine bs ?_ (by first | exact Nat.le_refl _ | (dsimp only; omega) | (simp; done)) _ | refine bt ?_ (by assumption)))); clear hb5))
    have Hv5 := Lib.hid (owns_below Hv.out Hb5.out)
    refine (IH.out p o (.slice va o.length vc) B _ Hpd.out (Hg.out.below Hb5.out) Hv5.out (Nat.le_trans hB Hb5.out.size) Ho.out).mono ?_
    rintro _ w6 ⟨v6, rfl, hown6, hg6, hat6⟩
    rw [Ho1e.out] at hown6
    obtain ⟨a6, c6, rfl⟩ := owns_shape hown6
    have Hown6 := Lib.hid hown6
    have hlv : ∀ b, (Value.slice va o.length vc).ownBlock = some b → B ≤ b := fun b hb => (owns_block Hv.out hb).1
    have Hgr6 := Lib.hid (gb_step (gb_any Hb5.out (Value.slice va o.length vc).ownBlock) hg6 (fun x hx => .inl hx))
    have Hat6 := Lib.hid (show ∀ b, (Value.slice a6 o1.length c6).ownBlock = some b → (Value.slice va o.length vc).ownBlock = some b ∨ w.heap.size ≤ b from fun b hb => by
      rcases hat6 b hb with h | h
      · exact .inl h
      · exact .inr (Nat.le_trans Hb5.out.size h))
    have HG6 := Lib.hid (Hg.out.grown Hgr6.out hlv)
    have hB6 : B ≤ w6.heap.size := Nat.le_trans hB Hgr6.out.size
    clear hown6 hg6 hat6 hlv Hb5 Hv5
    go_wp2_with (go_at_call 124; refine (impl_needs _ fs path D s _ HG6.out.graph hsl).mono ?_; rintro _ w7 ⟨v7, rfl, hown7, hb7⟩; rw [Hms.out] at hown7; obtain ⟨a7, c7, rfl⟩ := owns_shape hown7; have Hown7 := Lib.hid hown7; have Hb7 := Lib.hid (show Below w6.heap.size w6 w7 by (repeat (with_reducible first | exact Below.refl _ _ | assumption | refine ba ?_ _ | refine bd ?_ | refine bdN ?_ _ | refine bs ?_ (by first | exact Nat.le_refl _ | (dsimp only; omega) | (simp; done)) _ | refine bt ?_ (by assumption)))); clear hown7 hb7)
    have Hap7 := Lib.hid (show ∀ b, (Value.slice a7 ms.length c7).ownBlock = some b → (Value.slice a6 o1.length c6).ownBlock ≠ some b from fun b hb e => by
      have h1 := (owns_block Hown7.out hb).1
      have h2 := (owns_block Hown6.out e).2
      omega)
    have Hv7 := Lib.hid (owns_below Hown6.out Hb7.out)
    have HG7 := Lib.hid (HG6.out.below Hb7.out)
    have Hgr7 := Lib.hid (gb_step Hgr6.out (gb_any Hb7.out none) (fun _ e => by cases e))
    have hz7 := Hb7.out.size
    go_loopw [1, 26] (fun dv kv wr => ∃ (j : Nat), j ≤ ms.length ∧ kv = .int .i64 j ∧ wr.ownsRow B 9 1 dv ((ms.take j).foldl V o1).length (((ms.take j).foldl V o1).map sv) ∧ w.grownBy wr (Value.slice va o.length vc).ownBlock ∧ (∀ b, dv.ownBlock = some b → (Value.slice va o.length vc).ownBlock = some b ∨ w.heap.size ≤ b) ∧ GraphB wr B D fs path (.map mo) ∧ wr.ownsRow w6.heap.size 9 1 (.slice a7 ms.length c7) ms.length (ms.map sv) ∧ (∀ b, (Value.slice a7 ms.length c7).ownBlock = some b → dv.ownBlock ≠ some b)) (fun _ kv _ => ms.length - (intOf kv).toNat)
    case atStart => exact ⟨0, by omega, rfl, Hv7.out, Hgr7.out, Hat6.out, HG7.out, Hown7.out, Hap7.out⟩
    case round =>
      obtain ⟨j, hj, rfl, hown, hgr, hat, hgb, hneed, hap⟩ := hrel
      obtain ⟨da, dc, rfl⟩ := owns_shape hown
      have Hown := Lib.hid hown
      have Hgr := Lib.hid hgr
      have Hat := Lib.hid hat
      have Hgb := Lib.hid hgb
      have Hneed := Lib.hid hneed
      have Hap := Lib.hid hap
      have hdl := hfl j
      have hzr := hgr.size
      clear hown hgr hat hgb hap Hv7 Hgr7 HG7 Hap7 Hown7
      by_cases hlt : j < ms.length
      · obtain ⟨gl, cl, el, hgl1, hgl2⟩ := hneed.form (by omega)
        simp only [Value.slice.injEq] at el
        obtain ⟨rfl, _, rfl⟩ := el
        have hcj : wr.cell? ⟨gl, j, none⟩ = some (.string (mk ms[j])) := by
          rw [hneed.cellAt j (by omega), List.getElem?_map, List.getElem?_eq_getElem hlt]; rfl
        have Hyd := Lib.hid (Hmd.out _ (List.getElem_mem hlt))
        have Hsn := Lib.hid (Hfs.out j hlt)
        have Hdo := Lib.hid (Hfo.out j)
        clear hneed hgl1 hgl2
        obtain ⟨y, hy⟩ : ∃ y, y = ms[j] := ⟨_, rfl⟩
        rw [← hy] at hcj Hyd Hsn
        clear hy
        have Hvy := Lib.hid (show V ((ms.take j).foldl V o1) y = visit fs path ((ms.take j).foldl V o1) y by rw [HV.out])
        generalize (ms.take j).foldl V o1 = ds at *
        go_upto_region 7 with fail
        go_wp2_with fail
        refine (IH.out y ds (.slice da ds.length dc) B _ (.inr Hyd.out) Hgb.out Hown.out (Nat.le_trans hB hzr) Hdo.out).mono ?_
        rintro _ w8 ⟨v8, rfl, hown8, hg8, hat8⟩
        rw [← Hvy.out, ← Hsn.out] at hown8
        have Hown8 := Lib.hid hown8
        have Hgr8 := Lib.hid (gb_step Hgr.out hg8 (fun x hx => Hat.out x hx))
        have Hat8 := Lib.hid (show ∀ b, v8.ownBlock = some b → (Value.slice va o.length vc).ownBlock = some b ∨ w.heap.size ≤ b from fun b hb => by
          rcases hat8 b hb with h | h
          · exact Hat.out b h
          · exact .inr (Nat.le_trans hzr h))
        have Hgb8 := Lib.hid (Hgb.out.grown hg8 (fun b hb => (owns_block Hown.out hb).1))
        have Hneed8 := Lib.hid (owns_heap Hneed.out (fun b hb => hg8.block b (owns_block Hneed.out hb).2 (fun e => Hap.out b hb e.symm)))
        have Hap8 := Lib.hid (show ∀ b, (Value.slice (some ⟨gl, 0, none⟩) ms.length c7).ownBlock = some b → v8.ownBlock ≠ some b from fun b hb e => by
          rcases hat8 b e with h | h
          · exact Hap.out b hb h
          · have := (owns_block Hneed.out hb).2; omega)
        clear hown8 hg8 hat8
        go_wp2_with fail
        go_roundw
        case rel => exact ⟨j + 1, by omega, by go_num, Hown8.out, Hgr8.out, Hat8.out, Hgb8.out, Hneed8.out, Hap8.out⟩
        case measure => simp [intOf]; omega
      · obtain rfl : j = ms.length := by omega
        clear hneed
        generalize (ms.take ms.length).foldl V o1 = ds at *
        have hBr := Nat.le_trans hB hzr
        go_wp2_with (at_builtin; refine wpList_append_own_at _ rfl _ _ 27 rfl B 9 i0 (.string ByteArray.empty) 1 16 Tryz.underlying27 Hi.out Hz0.out Hz1.out Hz2.out rfl (by decide) _ ds.length _ rfl (Hown.out.alloc _) ⟨_, 0, none⟩ 1 1 [.string (mk s)] rfl rfl (new_one (by first | rfl | simp)) (fun x hx => by simp at hx; subst hx; rfl) (by unfold maxLen; omega) (by omega) (by simp; omega) ?_; intro v10 w10 hown10 hgrow10 hnil10 hat10)
        go_ret
        refine ⟨_, rfl, ?_, gb_step (gb_step Hgr.out (World.grownBy_alloc wr _ none) (fun _ e => by cases e)) hgrow10 (fun x hx => Hat.out x hx), fun b hb => ?_⟩
        · rw [HfE.out, List.length_append, List.map_append]; exact hown10
        · rcases hat10 with h | h
          · have h' : v10.ownBlock = (Value.slice da ds.length dc).ownBlock := h
            have hb2 : v10.ownBlock = some b := hb
            exact Hat.out b (by rw [← h']; exact hb2)
          · have hb2 : v10.ownBlock = some b := hb
            rw [h] at hb2; cases hb2; right; simp; omega
/-- An order and whether there is one. -/
def NewOrder (xs : List Bs) (ok : Bool) (w : World) (e : Ending) (w' : World) : Prop :=
  ∃ v, e = .returned (.tuple #[v, .bool ok]) ∧ w'.ownsRow w.heap.size 9 1 v xs.length (xs.map sv) ∧ Below w.heap.size w w'
theorem noOrder {w w' : World} {t : List Fil} {path : List Int} {s : Bs} (h : okPlain t path s = false) (hb : Below w.heap.size w w') : NewOrder (plainOrder t path s) (okPlain t path s) w (.returned (.tuple #[.slice none 0 0, .bool false])) w' := by
  unfold plainOrder; rw [h]
  exact ⟨_, rfl, World.ownsRow_nil _ _ _ _, hb⟩
theorem okPlain_no {t : List Fil} {path : List Int} {s : Bs} (h : reachOf t path s = [] ∨ ringsOf t path s ≠ [] ∨ missingOf t path s ≠ []) : okPlain t path s = false := by
  cases e : okPlain t path s
  · rfl
  · obtain ⟨h1, h2, h3, h4⟩ := plain_facts e
    rcases h with h | h | h
    · have := (reachOf_mem (s := s) h1).2 (self_reach h2)
      rw [h] at this; simp at this
    · exact absurd h3 h
    · exact absurd h4 h
theorem okPlain_yes {t : List Fil} {path : List Int} {s : Bs} (h0 : reachOf t path s ≠ []) (h1 : ringsOf t path s = []) (h2 : missingOf t path s = []) : okPlain t path s = true := by
  obtain ⟨a, b⟩ := reachOf_ne h0
  unfold okPlain; rw [a, b, h1, h2]; rfl
set_option maxRecDepth 100000 in
set_option maxHeartbeats 4000000 in
theorem impl_PlainOrder (v : Value) (fs : List Fil) (D : Nat → Prop) (pv : Value) (path : List Int) (s : Bs) (w : World) (hr : FilsIn w D v fs) (hz : ShortT 2000000 fs) (hp : IntsIn w pv path) (hsl : s.length ≤ 8000000) :
    Calls Tryz.prog 29 #[.agg #[v], pv, .string (mk s)] w (NewOrder (plainOrder fs path s) (okPlain fs path s) w) := by
  have Hr := Lib.hid hr
  have Hz := Lib.hid hz
  have Hp := Lib.hid hp
  obtain ⟨aa, ca, rfl, hl, hm⟩ := hr.len
  have Hb0 := Lib.hid (Nm.Boxed.start w #[.slice aa fs.length ca] 31)
  clear hr hz hp hl hm
  obtain ⟨L, hL⟩ : ∃ L, L = reachOf fs path s := ⟨_, rfl⟩
  have Hm := Lib.hid (show L.filter (missN fs path) = missingOf fs path s by rw [hL]; rfl)
  have Hri := Lib.hid (show L.filter (onRing fs path) = ringsOf fs path s by rw [hL]; rfl)
  have hf := reachOf_facts fs path s
  rw [← hL] at hf
  have hL3 := hf.1
  have Hvn := Lib.hid hf.2.1
  have Hv := Lib.hid (fun x hx => (show x.length ≤ 8000000 from Nat.le_trans (vn_len (hf.2.1 x hx)) (by omega)))
  have Hne := Lib.hid (fun h : L ≠ [] => (reachOf_ne (t := fs) (path := path) (s := s) (by rw [← hL]; exact h)))
  have HL := Lib.hid hL.symm
  clear hL hf
  by_cases h0 : L = []
  · have Hno := Lib.hid (okPlain_no (t := fs) (path := path) (s := s) (.inl (HL.out.trans h0)))
    subst h0
    go_enter Tryz.func29, Tryz.ntmps29
    go_wp2_with (first
      | (go_at_call 69; refine (impl_reached _ fs D _ path s _ (Hr.out.below (by (repeat (with_reducible first | exact Below.refl _ _ | assumption | refine ba ?_ _ | refine bd ?_ | refine bdN ?_ _ | refine bs ?_ (by first | exact Nat.le_refl _ | (dsimp only; omega) | (simp; done)) _ | refine bt ?_ (by assumption))))) Hz.out (Hp.out.below (by (repeat (with_reducible first | exact Below.refl _ _ | assumption | refine ba ?_ _ | refine bd ?_ | refine bdN ?_ _ | refine bs ?_ (by first | exact Nat.le_refl _ | (dsimp only; omega) | (simp; done)) _ | refine bt ?_ (by assumption))))) hsl).mono ?_; rintro _ w5 ⟨g5, v5, rfl, ⟨D5, hg5⟩, hown5, hb5⟩; rw [HL.out] at hown5; obtain ⟨o5, rfl⟩ := hg5.shape; obtain ⟨a5, c5, rfl⟩ := owns_shape hown5; have Hb5 := Lib.hid (show Below w.heap.size w w5 by (repeat (with_reducible first | exact Below.refl _ _ | assumption | refine ba ?_ _ | refine bd ?_ | refine bdN ?_ _ | refine bs ?_ (by first | exact Nat.le_refl _ | (dsimp only; omega) | (simp; done)) _ | refine bt ?_ (by assumption)))); clear hown5 hb5 hg5))
    go_ret2
    exact noOrder Hno.out Hb5.out
  have hlp : 0 < L.length := List.length_pos_iff.2 h0
  have hl0 : ((L.length : Int) == 0) = false := by rw [beq_eq_false_iff_ne]; omega
  have Hlk := Lib.hid (Hne.out h0)
  have H0 := Lib.hid h0
  by_cases h1 : ringsOf fs path s = []
  · by_cases h2 : missingOf fs path s = []
    · have Hyes := Lib.hid (okPlain_yes (t := fs) (path := path) (s := s) (by rw [HL.out]; exact h0) h1 h2)
      have HPl := Lib.hid (plain_in (s := s) Hlk.out.1 h1)
      have Hse := Lib.hid (self_reach (t := fs) (path := path) Hlk.out.2)
      have Hri1 := Lib.hid (Hri.out.trans h1)
      have Hm1 := Lib.hid (Hm.out.trans h2)
      clear h0 h1 h2
      go_enter Tryz.func29, Tryz.ntmps29
      go_wp2_with (first
        | (go_at_call 69; refine (impl_reached _ fs D _ path s _ (Hr.out.below (by (repeat (with_reducible first | exact Below.refl _ _ | assumption | refine ba ?_ _ | refine bd ?_ | refine bdN ?_ _ | refine bs ?_ (by first | exact Nat.le_refl _ | (dsimp only; omega) | (simp; done)) _ | refine bt ?_ (by assumption))))) Hz.out (Hp.out.below (by (repeat (with_reducible first | exact Below.refl _ _ | assumption | refine ba ?_ _ | refine bd ?_ | refine bdN ?_ _ | refine bs ?_ (by first | exact Nat.le_refl _ | (dsimp only; omega) | (simp; done)) _ | refine bt ?_ (by assumption))))) hsl).mono ?_; rintro _ w5 ⟨g5, v5, rfl, ⟨D5, hg5⟩, hown5, hb5⟩; rw [HL.out] at hown5; obtain ⟨o5, rfl⟩ := hg5.shape; obtain ⟨a5, c5, rfl⟩ := owns_shape hown5; have R5 := Lib.hid (Reads.of_owns hown5); have Hg5 := Lib.hid hg5; have Hx5 := Lib.hid (Hb0.out.step hb5); have a0 : w5.cell? ⟨w.heap.size, 0, none⟩ = some (.slice aa fs.length ca) := Hx5.out.cell 0; have Hb5 := Lib.hid (show Below w.heap.size w w5 by (repeat (with_reducible first | exact Below.refl _ _ | assumption | refine ba ?_ _ | refine bd ?_ | refine bdN ?_ _ | refine bs ?_ (by first | exact Nat.le_refl _ | (dsimp only; omega) | (simp; done)) _ | refine bt ?_ (by assumption)))); clear hown5 hb5 hg5)
        | (go_at_call 75; refine (impl_rings _ _ fs path _ L _ (fun _ => okLook_tree Hlk.out.1) Hg5.out R5.out (by omega) Hvn.out).mono ?_; rintro _ w6 ⟨v6, rfl, hown6, hb6⟩; rw [Hri1.out] at hown6; obtain ⟨a6, c6, rfl⟩ := owns_shape hown6; have Hx6 := Lib.hid (Hx5.out.step hb6); have b0 : w6.cell? ⟨w.heap.size, 0, none⟩ = some (.slice aa fs.length ca) := Hx6.out.cell 0; have R6 := Lib.hid (Reads.below R5.out hb6); have Hg6 := Lib.hid (Hg5.out.below hb6); have Hb6 := Lib.hid (Hb5.out.trans (hb6.mono Hb5.out.size)); clear hown6 hb6 a0)
        | (go_at_call 70; refine (impl_notFound _ fs D _ path _ L _ (Hr.out.below (by have := Hb6.out; (repeat (with_reducible first | exact Below.refl _ _ | assumption | refine ba ?_ _ | refine bd ?_ | refine bdN ?_ _ | refine bs ?_ (by first | exact Nat.le_refl _ | (dsimp only; omega) | (simp; done)) _ | refine bt ?_ (by assumption))))) Hz.out (fun _ => Hlk.out.1) (Hp.out.below (by have := Hb6.out; (repeat (with_reducible first | exact Below.refl _ _ | assumption | refine ba ?_ _ | refine bd ?_ | refine bdN ?_ _ | refine bs ?_ (by first | exact Nat.le_refl _ | (dsimp only; omega) | (simp; done)) _ | refine bt ?_ (by assumption))))) R6.out (by omega) Hv.out).mono ?_; rintro _ w7 ⟨v7, rfl, hown7, hb7⟩; rw [Hm1.out] at hown7; obtain ⟨a7, c7, rfl⟩ := owns_shape hown7; have Hg7 := Lib.hid (Hg6.out.below hb7); have Hb7 := Lib.hid (Hb6.out.trans (hb7.mono Hb6.out.size)); clear hown7 hb7))
      refine (impl_visit _ fs path _ _ HPl.out 300 s [] (.slice none 0 0) _ _ (.inr ⟨Hse.out, Nat.lt_of_le_of_lt (rank_le HPl.out s) (by omega)⟩) ⟨_, Nat.le_refl _, Hg7.out, Below.refl _ _⟩ (World.ownsRow_nil _ _ _ _) (Nat.le_refl _) ⟨by simp, by simp⟩).mono ?_
      rintro _ w8 ⟨v8, rfl, hown8, hg8, _⟩
      have Hown8 := Lib.hid hown8
      have Hb8 := Lib.hid (show Below w.heap.size w w8 from Hb7.out.grown hg8 Hb7.out.size (fun x hx => by simp [Value.ownBlock] at hx))
      clear hown8 hg8
      go_wp2_with fail
      go_ret2
      refine ⟨v8, by rw [Hyes.out]; rfl, ?_, Hb8.out⟩
      unfold plainOrder
      rw [Hyes.out]
      exact owns_mono Hown8.out Hb7.out.size
    · have Hno := Lib.hid (okPlain_no (t := fs) (path := path) (s := s) (.inr (.inr h2)))
      have Hri1 := Lib.hid (Hri.out.trans h1)
      obtain ⟨M, hM⟩ : ∃ M, M = missingOf fs path s := ⟨_, rfl⟩
      have Hm1 := Lib.hid (Hm.out.trans hM.symm)
      have hMl : 0 < M.length := List.length_pos_iff.2 (by rw [hM]; exact h2)
      clear h0 h1 h2 hM
      go_enter Tryz.func29, Tryz.ntmps29
      go_wp2_with (first
        | (go_at_call 69; refine (impl_reached _ fs D _ path s _ (Hr.out.below (by (repeat (with_reducible first | exact Below.refl _ _ | assumption | refine ba ?_ _ | refine bd ?_ | refine bdN ?_ _ | refine bs ?_ (by first | exact Nat.le_refl _ | (dsimp only; omega) | (simp; done)) _ | refine bt ?_ (by assumption))))) Hz.out (Hp.out.below (by (repeat (with_reducible first | exact Below.refl _ _ | assumption | refine ba ?_ _ | refine bd ?_ | refine bdN ?_ _ | refine bs ?_ (by first | exact Nat.le_refl _ | (dsimp only; omega) | (simp; done)) _ | refine bt ?_ (by assumption))))) hsl).mono ?_; rintro _ w5 ⟨g5, v5, rfl, ⟨D5, hg5⟩, hown5, hb5⟩; rw [HL.out] at hown5; obtain ⟨o5, rfl⟩ := hg5.shape; obtain ⟨a5, c5, rfl⟩ := owns_shape hown5; have R5 := Lib.hid (Reads.of_owns hown5); have Hg5 := Lib.hid hg5; have Hx5 := Lib.hid (Hb0.out.step hb5); have a0 : w5.cell? ⟨w.heap.size, 0, none⟩ = some (.slice aa fs.length ca) := Hx5.out.cell 0; have Hb5 := Lib.hid (show Below w.heap.size w w5 by (repeat (with_reducible first | exact Below.refl _ _ | assumption | refine ba ?_ _ | refine bd ?_ | refine bdN ?_ _ | refine bs ?_ (by first | exact Nat.le_refl _ | (dsimp only; omega) | (simp; done)) _ | refine bt ?_ (by assumption)))); clear hown5 hb5 hg5)
        | (go_at_call 75; refine (impl_rings _ _ fs path _ L _ (fun _ => okLook_tree Hlk.out.1) Hg5.out R5.out (by omega) Hvn.out).mono ?_; rintro _ w6 ⟨v6, rfl, hown6, hb6⟩; rw [Hri1.out] at hown6; obtain ⟨a6, c6, rfl⟩ := owns_shape hown6; have Hx6 := Lib.hid (Hx5.out.step hb6); have b0 : w6.cell? ⟨w.heap.size, 0, none⟩ = some (.slice aa fs.length ca) := Hx6.out.cell 0; have R6 := Lib.hid (Reads.below R5.out hb6); have Hb6 := Lib.hid (Hb5.out.trans (hb6.mono Hb5.out.size)); clear hown6 hb6 a0)
        | (go_at_call 70; refine (impl_notFound _ fs D _ path _ L _ (Hr.out.below (by have := Hb6.out; (repeat (with_reducible first | exact Below.refl _ _ | assumption | refine ba ?_ _ | refine bd ?_ | refine bdN ?_ _ | refine bs ?_ (by first | exact Nat.le_refl _ | (dsimp only; omega) | (simp; done)) _ | refine bt ?_ (by assumption))))) Hz.out (fun _ => Hlk.out.1) (Hp.out.below (by have := Hb6.out; (repeat (with_reducible first | exact Below.refl _ _ | assumption | refine ba ?_ _ | refine bd ?_ | refine bdN ?_ _ | refine bs ?_ (by first | exact Nat.le_refl _ | (dsimp only; omega) | (simp; done)) _ | refine bt ?_ (by assumption))))) R6.out (by omega) Hv.out).mono ?_; rintro _ w7 ⟨v7, rfl, hown7, hb7⟩; rw [Hm1.out] at hown7; obtain ⟨a7, c7, rfl⟩ := owns_shape hown7; have Hb7 := Lib.hid (Hb6.out.trans (hb7.mono Hb6.out.size)); clear hown7 hb7))
      go_ret2
      exact noOrder Hno.out Hb7.out
  · have Hno := Lib.hid (okPlain_no (t := fs) (path := path) (s := s) (.inr (.inl h1)))
    obtain ⟨M, hM⟩ : ∃ M, M = ringsOf fs path s := ⟨_, rfl⟩
    have Hri1 := Lib.hid (Hri.out.trans hM.symm)
    have hMl : 0 < M.length := List.length_pos_iff.2 (by rw [hM]; exact h1)
    clear h0 h1 hM
    go_enter Tryz.func29, Tryz.ntmps29
    go_wp2_with (first
      | (go_at_call 69; refine (impl_reached _ fs D _ path s _ (Hr.out.below (by (repeat (with_reducible first | exact Below.refl _ _ | assumption | refine ba ?_ _ | refine bd ?_ | refine bdN ?_ _ | refine bs ?_ (by first | exact Nat.le_refl _ | (dsimp only; omega) | (simp; done)) _ | refine bt ?_ (by assumption))))) Hz.out (Hp.out.below (by (repeat (with_reducible first | exact Below.refl _ _ | assumption | refine ba ?_ _ | refine bd ?_ | refine bdN ?_ _ | refine bs ?_ (by first | exact Nat.le_refl _ | (dsimp only; omega) | (simp; done)) _ | refine bt ?_ (by assumption))))) hsl).mono ?_; rintro _ w5 ⟨g5, v5, rfl, ⟨D5, hg5⟩, hown5, hb5⟩; rw [HL.out] at hown5; obtain ⟨o5, rfl⟩ := hg5.shape; obtain ⟨a5, c5, rfl⟩ := owns_shape hown5; have R5 := Lib.hid (Reads.of_owns hown5); have Hg5 := Lib.hid hg5; have Hb5 := Lib.hid (show Below w.heap.size w w5 by (repeat (with_reducible first | exact Below.refl _ _ | assumption | refine ba ?_ _ | refine bd ?_ | refine bdN ?_ _ | refine bs ?_ (by first | exact Nat.le_refl _ | (dsimp only; omega) | (simp; done)) _ | refine bt ?_ (by assumption)))); clear hown5 hb5 hg5)
      | (go_at_call 75; refine (impl_rings _ _ fs path _ L _ (fun _ => okLook_tree Hlk.out.1) Hg5.out R5.out (by omega) Hvn.out).mono ?_; rintro _ w6 ⟨v6, rfl, hown6, hb6⟩; rw [Hri1.out] at hown6; obtain ⟨a6, c6, rfl⟩ := owns_shape hown6; have Hb6 := Lib.hid (Hb5.out.trans (hb6.mono Hb5.out.size)); clear hown6 hb6))
    go_ret2
    exact noOrder Hno.out Hb6.out

/-! ### The plain order: contracts of the reference's visits. -/
/-- What a visit of the reference comes to: a row from B on. -/
def NewFrom (B : Nat) (xs : List Bs) (w : World) (e : Ending) (w' : World) : Prop :=
  ∃ v, e = .returned v ∧ w'.ownsRow B 9 1 v xs.length (xs.map sv) ∧ Below w.heap.size w w'
set_option maxRecDepth 100000 in
set_option maxHeartbeats 1000000 in
theorem spec_visit_stay (v : Value) (fs : List Fil) (D : Nat → Prop) (pv : Value) (path : List Int) (ov : Value) (B : Nat) (o : List Bs) (s : Bs) (w : World) (hr : FilsIn w D v fs) (hp : IntsIn w pv path) (hv : w.ownsRow B 9 1 ov o.length (o.map sv)) (hol : o.length ≤ 400) (hs : s ∈ o) :
    Calls Tryz.prog 76 #[.agg #[v], pv, .string (mk s), ov] w (NewFrom B o w) := by
  have Hv := Lib.hid hv
  obtain ⟨aa, ca, rfl, hl, hm⟩ := hr.len
  obtain ⟨pa, pc, rfl, hl1, hm1⟩ := hp.len
  obtain ⟨va, vc, rfl⟩ := owns_shape hv
  have Hm := Lib.hid (show decide (s ∈ o) = true from decide_eq_true hs)
  clear hv hs hr hp hl hm hl1 hm1
  go_enter Tryz.func76, Tryz.ntmps76
  go_wp2_with (go_at_call 80; refine (spec_hasText _ o s _ (Reads.of_owns (owns_below Hv.out (by (repeat (with_reducible first | exact Below.refl _ _ | assumption | refine ba ?_ _ | refine bd ?_ | refine bdN ?_ _ | refine bs ?_ (by first | exact Nat.le_refl _ | (dsimp only; omega) | (simp; done)) _ | refine bt ?_ (by assumption)))))) (by omega)).mono ?_; rintro _ _ ⟨rfl, rfl⟩; rw [Hm.out])
  go_ret
  exact ⟨_, rfl, owns_below Hv.out (by (repeat (with_reducible first | exact Below.refl _ _ | assumption | refine ba ?_ _ | refine bd ?_ | refine bdN ?_ _ | refine bs ?_ (by first | exact Nat.le_refl _ | (dsimp only; omega) | (simp; done)) _ | refine bt ?_ (by assumption)))), by (repeat (with_reducible first | exact Below.refl _ _ | assumption | refine ba ?_ _ | refine bd ?_ | refine bdN ?_ _ | refine bs ?_ (by first | exact Nat.le_refl _ | (dsimp only; omega) | (simp; done)) _ | refine bt ?_ (by assumption)))⟩
set_option maxRecDepth 100000 in
set_option maxHeartbeats 4000000 in
theorem spec_visit (v : Value) (fs : List Fil) (D : Nat → Prop) (pv : Value) (path : List Int) (R : List Bs) (hR : PlainIn fs path R) (hlk : okLook fs path = true) (hz : ShortT 2000000 fs) : ∀ (n : Nat) (s : Bs) (o : List Bs) (ov : Value) (B : Nat) (w : World), s ∈ R → rank fs path R s < n →
    FilsIn w D v fs → IntsIn w pv path → w.ownsRow B 9 1 ov o.length (o.map sv) → B ≤ w.heap.size → Ordered R o →
    Calls Tryz.prog 76 #[.agg #[v], pv, .string (mk s), ov] w (NewFrom B (visit fs path o s) w) := by
  intro n
  induction n with
  | zero => intro s o ov B w _ h; omega
  | succ n ih =>
    intro s o ov B w hsR hrk hr hp hv hB ho
    by_cases hm : s ∈ o
    · rw [visit_step hR hsR, if_pos hm]
      exact spec_visit_stay v fs D pv path ov B o s w hr hp hv (Nat.le_trans (ho.len hR) (by omega)) hm
    obtain ⟨i0, hi, hz0, hz1, hz2⟩ := info_parts infoS
    have Hi := Lib.hid hi
    have Hz0 := Lib.hid hz0
    have Hz1 := Lib.hid hz1
    have Hz2 := Lib.hid hz2
    have hvn := hR.vn s hsR
    have Hvn := Lib.hid hvn
    have hsl : s.length ≤ 8000000 := Nat.le_trans (vn_len hvn) (by omega)
    have hstep := visit_step hR hsR o
    rw [if_neg hm] at hstep
    have down : ∀ y, y ∈ dep fs path s → y ∈ R ∧ rank fs path R y < n := fun y hy => ⟨hR.dep s hsR y hy, by have := rank_lt hR hsR hy; omega⟩
    obtain ⟨p, hp0⟩ : ∃ p, p = parent s := ⟨_, rfl⟩
    have hpo : parentOf s = p := by rw [hp0]; exact parentOf_of hvn
    have Hp := Lib.hid hp0.symm
    rw [hpo] at hstep
    have Hpd := Lib.hid (show p ≠ [] → (p ∈ R ∧ rank fs path R p < n) from fun h => down p (mem_dep.2 (.inl ⟨hpo.symm, by rw [hpo]; exact h⟩)))
    have hpn : p = [] ∨ p ≠ [] := by by_cases h : p = []; exact .inl h; exact .inr h
    obtain ⟨ms, hms⟩ : ∃ ms, ms = needsOf fs path s := ⟨_, rfl⟩
    have Hms := Lib.hid hms.symm
    have Hmd := Lib.hid (show ∀ y ∈ ms, y ∈ R ∧ rank fs path R y < n from fun y hy => down y (mem_dep.2 (.inr (by rw [← hms]; exact hy))))
    have hml : ms.length ≤ 8 := by rw [hms]; exact (needsOf_ok fs path s).2.2
    rw [← hms] at hstep
    have ho1 : Ordered R (visit fs path o p) := by
      rcases hpn with h | h
      · rw [h, visit_nil]; exact ho
      · exact visit_ordered hR (Hpd.out h).1 ho
    have hmo1 : s ∉ visit fs path o p := by
      rcases hpn with h | h
      · rw [h, visit_nil]; exact hm
      · intro hx
        have hd : p ∈ dep fs path s := mem_dep.2 (.inl ⟨hpo.symm, by rw [hpo]; exact h⟩)
        rcases (visit_mem hR (Hpd.out h).1 o).2.2 s hx with h1 | h1 | h1
        · exact hm h1
        · exact hR.no s hsR (.single (by rw [h1] at hd ⊢; exact hd))
        · exact hR.no s hsR (Relation.TransGen.trans (.single hd) h1)
    obtain ⟨o1, ho1e⟩ : ∃ o1, o1 = visit fs path o p := ⟨_, rfl⟩
    have Ho1e := Lib.hid ho1e.symm
    rw [← ho1e] at hstep ho1 hmo1
    have Ho := Lib.hid ho
    have hol := ho.len hR
    have hol1 := ho1.len hR
    obtain ⟨V, hV⟩ : ∃ V, V = visit fs path := ⟨_, rfl⟩
    have HV := Lib.hid hV
    have Hfo := Lib.hid (show ∀ j, Ordered R ((ms.take j).foldl V o1) from fun j => by
      rw [hV]; exact fold_ordered hR _ (fun x hx => (Hmd.out x (List.mem_of_mem_take hx)).1) ho1)
    have hfl : ∀ j, ((ms.take j).foldl V o1).length ≤ 291 := fun j => (Hfo.out j).len hR
    have Hfs := Lib.hid (show ∀ j (h : j < ms.length), (ms.take (j + 1)).foldl V o1 = V ((ms.take j).foldl V o1) ms[j] from fun j h => by
      rw [List.take_succ_eq_append_getElem h, List.foldl_append]; rfl)
    have HfE := Lib.hid (show visit fs path o s = (ms.take ms.length).foldl V o1 ++ [s] by rw [List.take_length, hV]; exact hstep)
    have Hm := Lib.hid (show decide (s ∈ o) = false from decide_eq_false hm)
    have Hm1 := Lib.hid (show decide (s ∈ o1) = false from decide_eq_false hmo1)
    have Hr := Lib.hid hr
    have Hz := Lib.hid hz
    have Hlk := Lib.hid hlk
    have HI := Lib.hid hp
    have Hv := Lib.hid hv
    have IH := Lib.hid ih
    obtain ⟨aa, ca, rfl, hl, hm0⟩ := hr.len
    obtain ⟨pa, pc, rfl, hl1, hm1⟩ := hp.len
    obtain ⟨va, vc, rfl⟩ := owns_shape hv
    clear hi hz0 hz1 hz2 hr hp hz hlk hl hm0 hl1 hm1 hv ih hm hstep ho1e hms hp0 hpo down ho ho1 hmo1 hsR hrk hvn hV
    -- behind the visit of the parent (written by mksorder.py)
    rcases hpn with h0 | h0
    · subst h0
      have Ho1 := Lib.hid (Ho1e.out.symm.trans (visit_nil fs path o))
      obtain rfl : o = o1 := Ho1.out.symm
      go_enter Tryz.func76, Tryz.ntmps76
      go_upto_region 3 with (go_at_call 80; refine (spec_hasText _ o s _ (Reads.of_owns (owns_below Hv.out (by (repeat (with_reducible first | exact Below.refl _ _ | assumption | refine ba ?_ _ | refine bd ?_ | refine bdN ?_ _ | refine bs ?_ (by first | exact Nat.le_refl _ | (dsimp only; omega) | (simp; done)) _ | refine bt ?_ (by assumption)))))) (by omega)).mono ?_; rintro _ _ ⟨rfl, rfl⟩; rw [Hm.out])
      go_upto_region 5 with (go_at_call 121; refine (spec_parent s _ hsl).mono ?_; rintro _ w5 ⟨rfl, hb5⟩; rw [Hp.out]; have Hx5 := Lib.hid ((HB.new w #[.slice aa fs.length ca] 31).step hb5); have Hb5 := Lib.hid (show Below w.heap.size w w5 by (repeat (with_reducible first | exact Below.refl _ _ | assumption | refine ba ?_ _ | refine bd ?_ | refine bdN ?_ _ | refine bs ?_ (by first | exact Nat.le_refl _ | (dsimp only; omega) | (simp; done)) _ | refine bt ?_ (by assumption)))); have x5 : w5.cell? ⟨w.heap.size, 0, none⟩ = some (.slice aa fs.length ca) := Hx5.out.cell 0; clear hb5)
      have Hown6 := Lib.hid (owns_below Hv.out Hb5.out)
      obtain ⟨w6, hw6⟩ : ∃ W, W = w5 := ⟨_, rfl⟩
      subst hw6
      have Hx6 := Lib.hid Hx5.out
      have Hb6 := Lib.hid Hb5.out
      clear x5 Hx5 Hb5 Ho1
      have x6 : w6.cell? ⟨w.heap.size, 0, none⟩ = some (.slice aa fs.length ca) := Hx6.out.cell 0
      have hB6 : B ≤ w6.heap.size := Nat.le_trans hB Hb6.out.size
      go_wp2_with (first
        | (go_at_call 80; refine (spec_hasText _ o s _ (Reads.of_owns Hown6.out) (by omega)).mono ?_; rintro _ _ ⟨rfl, rfl⟩; rw [Hm1.out])
        | (go_at_call 122; refine (spec_needsOf _ fs D _ path s _ (Hr.out.below Hb6.out) Hz.out Hlk.out Hvn.out (HI.out.below Hb6.out)).mono ?_; rintro _ w7 ⟨v7, rfl, hown7, hb7⟩; rw [Hms.out] at hown7; obtain ⟨a7, c7, rfl⟩ := owns_shape hown7; have Hown7 := Lib.hid hown7; have Hx7 := Lib.hid (Hx6.out.step hb7); have Hv7 := Lib.hid (owns_below Hown6.out hb7); have Hb7 := Lib.hid (Hb6.out.trans (hb7.mono Hb6.out.size)); have hz7 := hb7.size; clear hown7 hb7))
      clear x6
      go_loopw [3, 10] (fun dv kv wr => ∃ (j : Nat), j ≤ ms.length ∧ kv = .int .i64 j ∧ wr.ownsRow B 9 1 dv ((ms.take j).foldl V o).length (((ms.take j).foldl V o).map sv) ∧ HB wr w.heap.size 31 #[.slice aa fs.length ca] ∧ Below w.heap.size w wr ∧ wr.ownsRow w6.heap.size 9 1 (.slice a7 ms.length c7) ms.length (ms.map sv)) (fun _ kv _ => ms.length - (intOf kv).toNat)
      case atStart => exact ⟨0, by omega, rfl, Hv7.out, Hx7.out, Hb7.out, Hown7.out⟩
      case round =>
        obtain ⟨j, hj, rfl, hown, hbx, hbel, hneed⟩ := hrel
        obtain ⟨da, dc, rfl⟩ := owns_shape hown
        have Hown := Lib.hid hown
        have Hbx := Lib.hid hbx
        have Hbel := Lib.hid hbel
        have Hneed := Lib.hid hneed
        have hdl := hfl j
        have hzr := hbel.size
        have hA : wr.cell? ⟨w.heap.size, 0, none⟩ = some (.slice aa fs.length ca) := hbx.cell 0
        have hxl := hbx.lt
        clear hown hbx hbel Hv7 Hx7 Hb7 Hown7
        by_cases hlt : j < ms.length
        · obtain ⟨gl, cl, el, hgl1, hgl2⟩ := hneed.form (by omega)
          simp only [Value.slice.injEq] at el
          obtain ⟨rfl, _, rfl⟩ := el
          have hcj : wr.cell? ⟨gl, j, none⟩ = some (.string (mk ms[j])) := by
            rw [hneed.cellAt j (by omega), List.getElem?_map, List.getElem?_eq_getElem hlt]; rfl
          have hgs : gl < wr.heap.size := (hneed.lt gl rfl).2
          have Hyd := Lib.hid (Hmd.out _ (List.getElem_mem hlt))
          have Hsn := Lib.hid (Hfs.out j hlt)
          have Hdo := Lib.hid (Hfo.out j)
          have hk1 : (j : Int) < (ms.length : Int) := by omega
          have hk0 : (0 : Int) ≤ (j : Int) := by omega
          clear hneed hgl1 hgl2
          obtain ⟨y, hy⟩ : ∃ y, y = ms[j] := ⟨_, rfl⟩
          rw [← hy] at hcj Hyd Hsn
          clear hy
          have Hvy := Lib.hid (show V ((ms.take j).foldl V o) y = visit fs path ((ms.take j).foldl V o) y by rw [HV.out])
          generalize (ms.take j).foldl V o = ds at *
          have Hk := Lib.hid (fun (w' : World) (hC : Below wr.heap.size wr w') => (⟨(hC.cell (p := ⟨w.heap.size, 0, none⟩) hxl).trans hA, (hC.cell (p := ⟨gl, j, none⟩) hgs).trans hcj, hC⟩ : w'.cell? ⟨w.heap.size, 0, none⟩ = some (.slice aa fs.length ca) ∧ w'.cell? ⟨gl, j, none⟩ = some (.string (mk y)) ∧ Below wr.heap.size wr w'))
          go_wp2_with fail
          go_region_held3 (fun w' => w'.cell? ⟨w.heap.size, 0, none⟩ = some (.slice aa fs.length ca) ∧ w'.cell? ⟨gl, j, none⟩ = some (.string (mk y)) ∧ Below wr.heap.size wr w')
            (first | exact Hk.out _ Hb8.out | exact Hk.out _ (by (repeat (with_reducible first | exact Below.refl _ _ | assumption | refine ba ?_ _ | refine bd ?_ | refine bdN ?_ _ | refine bs ?_ (by first | exact Nat.le_refl _ | (dsimp only; omega) | (simp; done)) _ | refine bt ?_ (by assumption)))))
            (first
              | (go_at_call 76; refine (IH.out y ds (.slice da ds.length dc) B _ Hyd.out.1 Hyd.out.2 (Hr.out.below (bt Hbel.out (by (repeat (with_reducible first | exact Below.refl _ _ | assumption | refine ba ?_ _ | refine bd ?_ | refine bdN ?_ _ | refine bs ?_ (by first | exact Nat.le_refl _ | (dsimp only; omega) | (simp; done)) _ | refine bt ?_ (by assumption)))))) (HI.out.below (bt Hbel.out (by (repeat (with_reducible first | exact Below.refl _ _ | assumption | refine ba ?_ _ | refine bd ?_ | refine bdN ?_ _ | refine bs ?_ (by first | exact Nat.le_refl _ | (dsimp only; omega) | (simp; done)) _ | refine bt ?_ (by assumption)))))) (owns_below Hown.out (by (repeat (with_reducible first | exact Below.refl _ _ | assumption | refine ba ?_ _ | refine bd ?_ | refine bdN ?_ _ | refine bs ?_ (by first | exact Nat.le_refl _ | (dsimp only; omega) | (simp; done)) _ | refine bt ?_ (by assumption))))) (Nat.le_trans hB (Nat.le_trans hzr (show Below wr.heap.size wr _ by (repeat (with_reducible first | exact Below.refl _ _ | assumption | refine ba ?_ _ | refine bd ?_ | refine bdN ?_ _ | refine bs ?_ (by first | exact Nat.le_refl _ | (dsimp only; omega) | (simp; done)) _ | refine bt ?_ (by assumption)))).size)) Hdo.out).mono ?_; rintro _ w8 ⟨v8, rfl, hown8, hb8⟩; rw [← Hvy.out, ← Hsn.out] at hown8; have Hown8 := Lib.hid hown8; have Hb8 := Lib.hid (show Below wr.heap.size wr w8 by (repeat (with_reducible first | exact Below.refl _ _ | assumption | refine ba ?_ _ | refine bd ?_ | refine bdN ?_ _ | refine bs ?_ (by first | exact Nat.le_refl _ | (dsimp only; omega) | (simp; done)) _ | refine bt ?_ (by assumption)))); clear hown8 hb8))
          all_goals
            go_wp2_with fail
            go_roundw
            case rel => exact ⟨j + 1, by omega, by go_num, Hown8.out, Hbx.out.step Hb8.out, bt Hbel.out Hb8.out, owns_below Hneed.out Hb8.out⟩
            case measure => simp [intOf]; omega
        · obtain rfl : j = ms.length := by omega
          clear hneed hA
          generalize (ms.take ms.length).foldl V o = ds at *
          have Hsv := Lib.hid (show ∀ u ∈ ds.map sv, u.oneCell' = true from fun u hu => by obtain ⟨b, _, rfl⟩ := List.mem_map.1 hu; rfl)
          have HE := Lib.hid (show (wr.alloc (.cells #[] 9)).ownsRow wr.heap.size 9 1 (.slice (some ⟨wr.heap.size, 0, none⟩) 0 0) 0 [] from World.ownsRow_lit (size := 1) wr #[] 0 (Nat.le_refl _) (by unfold maxLen; omega) rfl)
          go_wp2_with (first
            | (at_builtin; refine wpList_append_own_at _ rfl _ _ 27 rfl wr.heap.size 9 i0 (.string ByteArray.empty) 1 16 Tryz.underlying27 Hi.out Hz0.out Hz1.out Hz2.out rfl (by decide) _ ds.length _ rfl (Hown9.out.alloc _) ⟨_, 0, none⟩ 1 1 [.string (mk s)] rfl rfl (new_one (by first | rfl | simp)) (fun x hx => by simp at hx; subst hx; rfl) (by unfold maxLen; omega) (by omega) (by simp; omega) ?_; intro v10 w10 hown10 hgrow10 hnil10 hat10)
            | (at_builtin; refine wpList_append_both rfl _ _ 27 rfl wr.heap.size 9 i0 (.string ByteArray.empty) 1 16 Tryz.underlying27 Hi.out Hz0.out Hz1.out Hz2.out rfl (by decide) _ 0 _ rfl HE.out B _ ds.length _ rfl (Hown.out.alloc _) Hsv.out (by unfold maxLen; omega) (by omega) (by simp) ?_; intro v9 w9 hown9 hgrow9; rw [Nat.zero_add, List.nil_append] at hown9; obtain ⟨a9, c9, hv9⟩ := owns_shape hown9; subst hv9; have Hown9 := Lib.hid hown9; have hg9 : (wr.alloc (.cells #[] 9)).grownBy w9 (some wr.heap.size) := hgrow9; have hb9 : Below w.heap.size w w9 := (ba Hbel.out (.cells #[] 9)).grown hg9 (by simp; omega) (fun x hx => by cases hx; omega); have Hb9 := Lib.hid hb9; have hz9 := hb9.size; have hz99 := hgrow9.size; rw [World.size_alloc] at hz99; clear hown9 hgrow9 hb9 hg9))
          go_ret
          refine ⟨v10, rfl, ?_, (ba Hb9.out (.cells #[.string (mk s)] 9)).grown hgrow10 (by simp; omega) (fun x hx => by have := (owns_block Hown9.out hx).1; omega)⟩
          rw [HfE.out, List.length_append, List.map_append]
          exact owns_mono hown10 (Nat.le_trans hB hzr)
    · have hie : List.isEmpty p = false := by simp [List.isEmpty_iff, h0]
      have Hpd2 := Lib.hid (Hpd.out h0)
      clear h0
      go_enter Tryz.func76, Tryz.ntmps76
      go_upto_region 3 with (go_at_call 80; refine (spec_hasText _ o s _ (Reads.of_owns (owns_below Hv.out (by (repeat (with_reducible first | exact Below.refl _ _ | assumption | refine ba ?_ _ | refine bd ?_ | refine bdN ?_ _ | refine bs ?_ (by first | exact Nat.le_refl _ | (dsimp only; omega) | (simp; done)) _ | refine bt ?_ (by assumption)))))) (by omega)).mono ?_; rintro _ _ ⟨rfl, rfl⟩; rw [Hm.out])
      go_upto_region 4 with (go_at_call 121; refine (spec_parent s _ hsl).mono ?_; rintro _ w5 ⟨rfl, hb5⟩; rw [Hp.out]; have Hx5 := Lib.hid ((HB.new w #[.slice aa fs.length ca] 31).step hb5); have Hb5 := Lib.hid (show Below w.heap.size w w5 by (repeat (with_reducible first | exact Below.refl _ _ | assumption | refine ba ?_ _ | refine bd ?_ | refine bdN ?_ _ | refine bs ?_ (by first | exact Nat.le_refl _ | (dsimp only; omega) | (simp; done)) _ | refine bt ?_ (by assumption)))); have x5 : w5.cell? ⟨w.heap.size, 0, none⟩ = some (.slice aa fs.length ca) := Hx5.out.cell 0; clear hb5)
      have hx5l := Hx5.out.lt
      have Hv5 := Lib.hid (owns_below Hv.out Hb5.out)
      have Hk5 := Lib.hid (fun (w' : World) (hC : Below w5.heap.size w5 w') => (⟨(hC.cell (p := ⟨w.heap.size, 0, none⟩) hx5l).trans x5, hC⟩ : w'.cell? ⟨w.heap.size, 0, none⟩ = some (.slice aa fs.length ca) ∧ Below w5.heap.size w5 w'))
      go_region_held3 (fun w' => w'.cell? ⟨w.heap.size, 0, none⟩ = some (.slice aa fs.length ca) ∧ Below w5.heap.size w5 w')
        (first | exact Hk5.out _ Hb6p.out | exact Hk5.out _ Hb55.out | exact Hk5.out _ (by (repeat (with_reducible first | exact Below.refl _ _ | assumption | refine ba ?_ _ | refine bd ?_ | refine bdN ?_ _ | refine bs ?_ (by first | exact Nat.le_refl _ | (dsimp only; omega) | (simp; done)) _ | refine bt ?_ (by assumption)))))
        (first
          | (go_at_call 121; refine (spec_parent s _ hsl).mono ?_; rintro _ w55 ⟨rfl, hb55⟩; rw [Hp.out]; have Hb55 := Lib.hid (show Below w5.heap.size w5 w55 by (repeat (with_reducible first | exact Below.refl _ _ | assumption | refine ba ?_ _ | refine bd ?_ | refine bdN ?_ _ | refine bs ?_ (by first | exact Nat.le_refl _ | (dsimp only; omega) | (simp; done)) _ | refine bt ?_ (by assumption)))); clear hb55)
          | (go_at_call 76; refine (IH.out p o (.slice va o.length vc) B _ Hpd2.out.1 Hpd2.out.2 (Hr.out.below (bt Hb5.out (by first | exact Hb55.out | (have := Hb55.out; (repeat (with_reducible first | exact Below.refl _ _ | assumption | refine ba ?_ _ | refine bd ?_ | refine bdN ?_ _ | refine bs ?_ (by first | exact Nat.le_refl _ | (dsimp only; omega) | (simp; done)) _ | refine bt ?_ (by assumption))))))) (HI.out.below (bt Hb5.out (by first | exact Hb55.out | (have := Hb55.out; (repeat (with_reducible first | exact Below.refl _ _ | assumption | refine ba ?_ _ | refine bd ?_ | refine bdN ?_ _ | refine bs ?_ (by first | exact Nat.le_refl _ | (dsimp only; omega) | (simp; done)) _ | refine bt ?_ (by assumption))))))) (owns_below Hv5.out (by first | exact Hb55.out | (have := Hb55.out; (repeat (with_reducible first | exact Below.refl _ _ | assumption | refine ba ?_ _ | refine bd ?_ | refine bdN ?_ _ | refine bs ?_ (by first | exact Nat.le_refl _ | (dsimp only; omega) | (simp; done)) _ | refine bt ?_ (by assumption)))))) (Nat.le_trans hB (Nat.le_trans Hb5.out.size (show Below w5.heap.size w5 _ by first | exact Hb55.out | (have := Hb55.out; (repeat (with_reducible first | exact Below.refl _ _ | assumption | refine ba ?_ _ | refine bd ?_ | refine bdN ?_ _ | refine bs ?_ (by first | exact Nat.le_refl _ | (dsimp only; omega) | (simp; done)) _ | refine bt ?_ (by assumption))))).size)) Ho.out).mono ?_; rintro _ w6 ⟨v6, rfl, hown6, hb6⟩; rw [Ho1e.out] at hown6; obtain ⟨a6, c6, hv6⟩ := owns_shape hown6; subst hv6; have Hown6 := Lib.hid hown6; have Hb6p := Lib.hid (show Below w5.heap.size w5 w6 from by have := Hb55.out; (repeat (with_reducible first | exact Below.refl _ _ | assumption | refine ba ?_ _ | refine bd ?_ | refine bdN ?_ _ | refine bs ?_ (by first | exact Nat.le_refl _ | (dsimp only; omega) | (simp; done)) _ | refine bt ?_ (by assumption)))); clear hown6 hb6))
      have Hx6 := Lib.hid (Hx5.out.step Hb6p.out)
      have Hb6 := Lib.hid (bt Hb5.out Hb6p.out)
      clear x5 Hk5 hx5l Hv5
      have x6 : w6.cell? ⟨w.heap.size, 0, none⟩ = some (.slice aa fs.length ca) := Hx6.out.cell 0
      have hB6 : B ≤ w6.heap.size := Nat.le_trans hB Hb6.out.size
      go_wp2_with (first
        | (go_at_call 80; refine (spec_hasText _ o1 s _ (Reads.of_owns Hown6.out) (by omega)).mono ?_; rintro _ _ ⟨rfl, rfl⟩; rw [Hm1.out])
        | (go_at_call 122; refine (spec_needsOf _ fs D _ path s _ (Hr.out.below Hb6.out) Hz.out Hlk.out Hvn.out (HI.out.below Hb6.out)).mono ?_; rintro _ w7 ⟨v7, rfl, hown7, hb7⟩; rw [Hms.out] at hown7; obtain ⟨a7, c7, rfl⟩ := owns_shape hown7; have Hown7 := Lib.hid hown7; have Hx7 := Lib.hid (Hx6.out.step hb7); have Hv7 := Lib.hid (owns_below Hown6.out hb7); have Hb7 := Lib.hid (Hb6.out.trans (hb7.mono Hb6.out.size)); have hz7 := hb7.size; clear hown7 hb7))
      clear x6
      go_loopw [3, 10] (fun dv kv wr => ∃ (j : Nat), j ≤ ms.length ∧ kv = .int .i64 j ∧ wr.ownsRow B 9 1 dv ((ms.take j).foldl V o1).length (((ms.take j).foldl V o1).map sv) ∧ HB wr w.heap.size 31 #[.slice aa fs.length ca] ∧ Below w.heap.size w wr ∧ wr.ownsRow w6.heap.size 9 1 (.slice a7 ms.length c7) ms.length (ms.map sv)) (fun _ kv _ => ms.length - (intOf kv).toNat)
      case atStart => exact ⟨0, by omega, rfl, Hv7.out, Hx7.out, Hb7.out, Hown7.out⟩
      case round =>
        obtain ⟨j, hj, rfl, hown, hbx, hbel, hneed⟩ := hrel
        obtain ⟨da, dc, rfl⟩ := owns_shape hown
        have Hown := Lib.hid hown
        have Hbx := Lib.hid hbx
        have Hbel := Lib.hid hbel
        have Hneed := Lib.hid hneed
        have hdl := hfl j
        have hzr := hbel.size
        have hA : wr.cell? ⟨w.heap.size, 0, none⟩ = some (.slice aa fs.length ca) := hbx.cell 0
        have hxl := hbx.lt
        clear hown hbx hbel Hv7 Hx7 Hb7 Hown7
        by_cases hlt : j < ms.length
        · obtain ⟨gl, cl, el, hgl1, hgl2⟩ := hneed.form (by omega)
          simp only [Value.slice.injEq] at el
          obtain ⟨rfl, _, rfl⟩ := el
          have hcj : wr.cell? ⟨gl, j, none⟩ = some (.string (mk ms[j])) := by
            rw [hneed.cellAt j (by omega), List.getElem?_map, List.getElem?_eq_getElem hlt]; rfl
          have hgs : gl < wr.heap.size := (hneed.lt gl rfl).2
          have Hyd := Lib.hid (Hmd.out _ (List.getElem_mem hlt))
          have Hsn := Lib.hid (Hfs.out j hlt)
          have Hdo := Lib.hid (Hfo.out j)
          have hk1 : (j : Int) < (ms.length : Int) := by omega
          have hk0 : (0 : Int) ≤ (j : Int) := by omega
          clear hneed hgl1 hgl2
          obtain ⟨y, hy⟩ : ∃ y, y = ms[j] := ⟨_, rfl⟩
          rw [← hy] at hcj Hyd Hsn
          clear hy
          have Hvy := Lib.hid (show V ((ms.take j).foldl V o1) y = visit fs path ((ms.take j).foldl V o1) y by rw [HV.out])
          generalize (ms.take j).foldl V o1 = ds at *
          have Hk := Lib.hid (fun (w' : World) (hC : Below wr.heap.size wr w') => (⟨(hC.cell (p := ⟨w.heap.size, 0, none⟩) hxl).trans hA, (hC.cell (p := ⟨gl, j, none⟩) hgs).trans hcj, hC⟩ : w'.cell? ⟨w.heap.size, 0, none⟩ = some (.slice aa fs.length ca) ∧ w'.cell? ⟨gl, j, none⟩ = some (.string (mk y)) ∧ Below wr.heap.size wr w'))
          go_wp2_with fail
          go_region_held3 (fun w' => w'.cell? ⟨w.heap.size, 0, none⟩ = some (.slice aa fs.length ca) ∧ w'.cell? ⟨gl, j, none⟩ = some (.string (mk y)) ∧ Below wr.heap.size wr w')
            (first | exact Hk.out _ Hb8.out | exact Hk.out _ (by (repeat (with_reducible first | exact Below.refl _ _ | assumption | refine ba ?_ _ | refine bd ?_ | refine bdN ?_ _ | refine bs ?_ (by first | exact Nat.le_refl _ | (dsimp only; omega) | (simp; done)) _ | refine bt ?_ (by assumption)))))
            (first
              | (go_at_call 76; refine (IH.out y ds (.slice da ds.length dc) B _ Hyd.out.1 Hyd.out.2 (Hr.out.below (bt Hbel.out (by (repeat (with_reducible first | exact Below.refl _ _ | assumption | refine ba ?_ _ | refine bd ?_ | refine bdN ?_ _ | refine bs ?_ (by first | exact Nat.le_refl _ | (dsimp only; omega) | (simp; done)) _ | refine bt ?_ (by assumption)))))) (HI.out.below (bt Hbel.out (by (repeat (with_reducible first | exact Below.refl _ _ | assumption | refine ba ?_ _ | refine bd ?_ | refine bdN ?_ _ | refine bs ?_ (by first | exact Nat.le_refl _ | (dsimp only; omega) | (simp; done)) _ | refine bt ?_ (by assumption)))))) (owns_below Hown.out (by (repeat (with_reducible first | exact Below.refl _ _ | assumption | refine ba ?_ _ | refine bd ?_ | refine bdN ?_ _ | refine bs ?_ (by first | exact Nat.le_refl _ | (dsimp only; omega) | (simp; done)) _ | refine bt ?_ (by assumption))))) (Nat.le_trans hB (Nat.le_trans hzr (show Below wr.heap.size wr _ by (repeat (with_reducible first | exact Below.refl _ _ | assumption | refine ba ?_ _ | refine bd ?_ | refine bdN ?_ _ | refine bs ?_ (by first | exact Nat.le_refl _ | (dsimp only; omega) | (simp; done)) _ | refine bt ?_ (by assumption)))).size)) Hdo.out).mono ?_; rintro _ w8 ⟨v8, rfl, hown8, hb8⟩; rw [← Hvy.out, ← Hsn.out] at hown8; have Hown8 := Lib.hid hown8; have Hb8 := Lib.hid (show Below wr.heap.size wr w8 by (repeat (with_reducible first | exact Below.refl _ _ | assumption | refine ba ?_ _ | refine bd ?_ | refine bdN ?_ _ | refine bs ?_ (by first | exact Nat.le_refl _ | (dsimp only; omega) | (simp; done)) _ | refine bt ?_ (by assumption)))); clear hown8 hb8))
          all_goals
            go_wp2_with fail
            go_roundw
            case rel => exact ⟨j + 1, by omega, by go_num, Hown8.out, Hbx.out.step Hb8.out, bt Hbel.out Hb8.out, owns_below Hneed.out Hb8.out⟩
            case measure => simp [intOf]; omega
        · obtain rfl : j = ms.length := by omega
          clear hneed hA
          generalize (ms.take ms.length).foldl V o1 = ds at *
          have Hsv := Lib.hid (show ∀ u ∈ ds.map sv, u.oneCell' = true from fun u hu => by obtain ⟨b, _, rfl⟩ := List.mem_map.1 hu; rfl)
          have HE := Lib.hid (show (wr.alloc (.cells #[] 9)).ownsRow wr.heap.size 9 1 (.slice (some ⟨wr.heap.size, 0, none⟩) 0 0) 0 [] from World.ownsRow_lit (size := 1) wr #[] 0 (Nat.le_refl _) (by unfold maxLen; omega) rfl)
          go_wp2_with (first
            | (at_builtin; refine wpList_append_own_at _ rfl _ _ 27 rfl wr.heap.size 9 i0 (.string ByteArray.empty) 1 16 Tryz.underlying27 Hi.out Hz0.out Hz1.out Hz2.out rfl (by decide) _ ds.length _ rfl (Hown9.out.alloc _) ⟨_, 0, none⟩ 1 1 [.string (mk s)] rfl rfl (new_one (by first | rfl | simp)) (fun x hx => by simp at hx; subst hx; rfl) (by unfold maxLen; omega) (by omega) (by simp; omega) ?_; intro v10 w10 hown10 hgrow10 hnil10 hat10)
            | (at_builtin; refine wpList_append_both rfl _ _ 27 rfl wr.heap.size 9 i0 (.string ByteArray.empty) 1 16 Tryz.underlying27 Hi.out Hz0.out Hz1.out Hz2.out rfl (by decide) _ 0 _ rfl HE.out B _ ds.length _ rfl (Hown.out.alloc _) Hsv.out (by unfold maxLen; omega) (by omega) (by simp) ?_; intro v9 w9 hown9 hgrow9; rw [Nat.zero_add, List.nil_append] at hown9; obtain ⟨a9, c9, hv9⟩ := owns_shape hown9; subst hv9; have Hown9 := Lib.hid hown9; have hg9 : (wr.alloc (.cells #[] 9)).grownBy w9 (some wr.heap.size) := hgrow9; have hb9 : Below w.heap.size w w9 := (ba Hbel.out (.cells #[] 9)).grown hg9 (by simp; omega) (fun x hx => by cases hx; omega); have Hb9 := Lib.hid hb9; have hz9 := hb9.size; have hz99 := hgrow9.size; rw [World.size_alloc] at hz99; clear hown9 hgrow9 hb9 hg9))
          go_ret
          refine ⟨v10, rfl, ?_, (ba Hb9.out (.cells #[.string (mk s)] 9)).grown hgrow10 (by simp; omega) (fun x hx => by have := (owns_block Hown9.out hx).1; omega)⟩
          rw [HfE.out, List.length_append, List.map_append]
          exact owns_mono hown10 (Nat.le_trans hB hzr)
theorem okPlain_bad {t : List Fil} {path : List Int} {s : Bs} (h : okTree t = false ∨ okPath path = false ∨ vn s = false) : okPlain t path s = false := by
  unfold okPlain okLook
  rcases h with h | h | h <;> rw [h] <;> simp
set_option maxRecDepth 100000 in
set_option maxHeartbeats 4000000 in
theorem spec_PlainOrder (v : Value) (fs : List Fil) (D : Nat → Prop) (pv : Value) (path : List Int) (s : Bs) (w : World) (hr : FilsIn w D v fs) (hz : ShortT 2000000 fs) (hp : IntsIn w pv path) (hsl : s.length ≤ 8000000) :
    Calls Tryz.prog 28 #[.agg #[v], pv, .string (mk s)] w (NewOrder (plainOrder fs path s) (okPlain fs path s) w) := by
  have Hr := Lib.hid hr
  have Hz := Lib.hid hz
  have Hz3 := Lib.hid (short2 (B := 3000000) (by omega) hz)
  have Hp := Lib.hid hp
  obtain ⟨aa, ca, rfl, hl, hm⟩ := hr.len
  obtain ⟨pa, pc, rfl, hl1, hm1⟩ := hp.len
  clear hr hz hp hl hm hl1 hm1
  have Hb0 := Lib.hid (Nm.Boxed.start w #[.slice aa fs.length ca] 31)
  cases h1 : okTree fs
  · have H1 := Lib.hid h1
    have Hno := Lib.hid (okPlain_bad (t := fs) (path := path) (s := s) (.inl h1))
    clear h1
    go_enter Tryz.func28, Tryz.ntmps28
    go_wp2_with (first
      | (go_at_call 61; refine (spec_validTree _ fs D _ (Hr.out.below (by have := Hb0.out.below; (repeat (with_reducible first | exact Below.refl _ _ | assumption | refine ba ?_ _ | refine bd ?_ | refine bdN ?_ _ | refine bs ?_ (by first | exact Nat.le_refl _ | (dsimp only; omega) | (simp; done)) _ | refine bt ?_ (by assumption))))) Hz3.out).mono ?_; rintro _ w5 ⟨rfl, hb5⟩; rw [H1.out]; have Hx5 := Lib.hid (Hb0.out.step hb5); clear hb5; have a0 : w5.cell? ⟨w.heap.size, 0, none⟩ = some (.slice aa fs.length ca) := Hx5.out.cell 0))
    go_ret2
    have hbw := Hx5.out.below
    exact noOrder Hno.out (by (repeat (with_reducible first | exact Below.refl _ _ | assumption | refine ba ?_ _ | refine bd ?_ | refine bdN ?_ _ | refine bs ?_ (by first | exact Nat.le_refl _ | (dsimp only; omega) | (simp; done)) _ | refine bt ?_ (by assumption))))
  cases h2 : okPath path
  · have H1 := Lib.hid h1
    have H2 := Lib.hid h2
    have Hno := Lib.hid (okPlain_bad (t := fs) (path := path) (s := s) (.inr (.inl h2)))
    clear h1 h2
    go_enter Tryz.func28, Tryz.ntmps28
    go_wp2_with (first
      | (go_at_call 61; refine (spec_validTree _ fs D _ (Hr.out.below (by have := Hb0.out.below; (repeat (with_reducible first | exact Below.refl _ _ | assumption | refine ba ?_ _ | refine bd ?_ | refine bdN ?_ _ | refine bs ?_ (by first | exact Nat.le_refl _ | (dsimp only; omega) | (simp; done)) _ | refine bt ?_ (by assumption))))) Hz3.out).mono ?_; rintro _ w5 ⟨rfl, hb5⟩; rw [H1.out]; have Hx5 := Lib.hid (Hb0.out.step hb5); clear hb5; have a0 : w5.cell? ⟨w.heap.size, 0, none⟩ = some (.slice aa fs.length ca) := Hx5.out.cell 0)
      | (go_at_call 62; refine (spec_validPath _ path _ (Hp.out.below (by have := Hx5.out.below; (repeat (with_reducible first | exact Below.refl _ _ | assumption | refine ba ?_ _ | refine bd ?_ | refine bdN ?_ _ | refine bs ?_ (by first | exact Nat.le_refl _ | (dsimp only; omega) | (simp; done)) _ | refine bt ?_ (by assumption)))))).mono ?_; rintro _ w6 ⟨rfl, hb6⟩; rw [H2.out]; have Hx6 := Lib.hid (Hx5.out.step hb6); clear hb6; clear a0; have a0 : w6.cell? ⟨w.heap.size, 0, none⟩ = some (.slice aa fs.length ca) := Hx6.out.cell 0))
    go_ret2
    have hbw := Hx6.out.below
    exact noOrder Hno.out (by (repeat (with_reducible first | exact Below.refl _ _ | assumption | refine ba ?_ _ | refine bd ?_ | refine bdN ?_ _ | refine bs ?_ (by first | exact Nat.le_refl _ | (dsimp only; omega) | (simp; done)) _ | refine bt ?_ (by assumption))))
  cases h3 : vn s
  · have H1 := Lib.hid h1
    have H2 := Lib.hid h2
    have H3 := Lib.hid h3
    have Hno := Lib.hid (okPlain_bad (t := fs) (path := path) (s := s) (.inr (.inr h3)))
    clear h1 h2 h3
    go_enter Tryz.func28, Tryz.ntmps28
    go_wp2_with (first
      | (go_at_call 61; refine (spec_validTree _ fs D _ (Hr.out.below (by have := Hb0.out.below; (repeat (with_reducible first | exact Below.refl _ _ | assumption | refine ba ?_ _ | refine bd ?_ | refine bdN ?_ _ | refine bs ?_ (by first | exact Nat.le_refl _ | (dsimp only; omega) | (simp; done)) _ | refine bt ?_ (by assumption))))) Hz3.out).mono ?_; rintro _ w5 ⟨rfl, hb5⟩; rw [H1.out]; have Hx5 := Lib.hid (Hb0.out.step hb5); clear hb5; have a0 : w5.cell? ⟨w.heap.size, 0, none⟩ = some (.slice aa fs.length ca) := Hx5.out.cell 0)
      | (go_at_call 62; refine (spec_validPath _ path _ (Hp.out.below (by have := Hx5.out.below; (repeat (with_reducible first | exact Below.refl _ _ | assumption | refine ba ?_ _ | refine bd ?_ | refine bdN ?_ _ | refine bs ?_ (by first | exact Nat.le_refl _ | (dsimp only; omega) | (simp; done)) _ | refine bt ?_ (by assumption)))))).mono ?_; rintro _ w6 ⟨rfl, hb6⟩; rw [H2.out]; have Hx6 := Lib.hid (Hx5.out.step hb6); clear hb6; clear a0; have a0 : w6.cell? ⟨w.heap.size, 0, none⟩ = some (.slice aa fs.length ca) := Hx6.out.cell 0)
      | (go_at_call 63; refine (spec_validName s _ hsl).mono ?_; rintro _ w7 ⟨rfl, hb7⟩; rw [H3.out]; have Hx7 := Lib.hid (Hx6.out.step hb7); clear hb7; clear a0; have a0 : w7.cell? ⟨w.heap.size, 0, none⟩ = some (.slice aa fs.length ca) := Hx7.out.cell 0))
    go_ret2
    have hbw := Hx7.out.below
    exact noOrder Hno.out (by (repeat (with_reducible first | exact Below.refl _ _ | assumption | refine ba ?_ _ | refine bd ?_ | refine bdN ?_ _ | refine bs ?_ (by first | exact Nat.le_refl _ | (dsimp only; omega) | (simp; done)) _ | refine bt ?_ (by assumption))))
  have H1 := Lib.hid h1
  have H2 := Lib.hid h2
  have H3 := Lib.hid h3
  have hlk := okLook_of h1 h2
  have Hlk := Lib.hid hlk
  obtain ⟨M, hM⟩ : ∃ M, M = ringsOf fs path s := ⟨_, rfl⟩
  have Hrr := Lib.hid hM.symm
  obtain ⟨K, hK⟩ : ∃ K, K = missingOf fs path s := ⟨_, rfl⟩
  have Hmm := Lib.hid hK.symm
  by_cases h4 : M = []
  · by_cases h5 : K = []
    · have Hse := Lib.hid (self_reach (t := fs) (path := path) h3)
      have Hyes := Lib.hid (okPlain_yes (t := fs) (path := path) (s := s) (fun e => by have := (reachOf_mem hlk).2 Hse.out; rw [e] at this; simp at this) (hM.symm.trans h4) (hK.symm.trans h5))
      have HPl := Lib.hid (plain_in (s := s) hlk (hM.symm.trans h4))
      subst h4
      subst h5
      clear h1 h2 h3 hlk hM hK
      go_enter Tryz.func28, Tryz.ntmps28
      go_wp2_with (first
        | (go_at_call 61; refine (spec_validTree _ fs D _ (Hr.out.below (by have := Hb0.out.below; (repeat (with_reducible first | exact Below.refl _ _ | assumption | refine ba ?_ _ | refine bd ?_ | refine bdN ?_ _ | refine bs ?_ (by first | exact Nat.le_refl _ | (dsimp only; omega) | (simp; done)) _ | refine bt ?_ (by assumption))))) Hz3.out).mono ?_; rintro _ w5 ⟨rfl, hb5⟩; rw [H1.out]; have Hx5 := Lib.hid (Hb0.out.step hb5); clear hb5; have a0 : w5.cell? ⟨w.heap.size, 0, none⟩ = some (.slice aa fs.length ca) := Hx5.out.cell 0)
        | (go_at_call 62; refine (spec_validPath _ path _ (Hp.out.below (by have := Hx5.out.below; (repeat (with_reducible first | exact Below.refl _ _ | assumption | refine ba ?_ _ | refine bd ?_ | refine bdN ?_ _ | refine bs ?_ (by first | exact Nat.le_refl _ | (dsimp only; omega) | (simp; done)) _ | refine bt ?_ (by assumption)))))).mono ?_; rintro _ w6 ⟨rfl, hb6⟩; rw [H2.out]; have Hx6 := Lib.hid (Hx5.out.step hb6); clear hb6; clear a0; have a0 : w6.cell? ⟨w.heap.size, 0, none⟩ = some (.slice aa fs.length ca) := Hx6.out.cell 0)
        | (go_at_call 63; refine (spec_validName s _ hsl).mono ?_; rintro _ w7 ⟨rfl, hb7⟩; rw [H3.out]; have Hx7 := Lib.hid (Hx6.out.step hb7); clear hb7; clear a0; have a0 : w7.cell? ⟨w.heap.size, 0, none⟩ = some (.slice aa fs.length ca) := Hx7.out.cell 0)
        | (go_at_call 26; refine (spec_RingsOf _ fs D _ path s _ (Hr.out.below (by have := Hx7.out.below; (repeat (with_reducible first | exact Below.refl _ _ | assumption | refine ba ?_ _ | refine bd ?_ | refine bdN ?_ _ | refine bs ?_ (by first | exact Nat.le_refl _ | (dsimp only; omega) | (simp; done)) _ | refine bt ?_ (by assumption))))) Hz.out (Hp.out.below (by have := Hx7.out.below; (repeat (with_reducible first | exact Below.refl _ _ | assumption | refine ba ?_ _ | refine bd ?_ | refine bdN ?_ _ | refine bs ?_ (by first | exact Nat.le_refl _ | (dsimp only; omega) | (simp; done)) _ | refine bt ?_ (by assumption))))) hsl).mono ?_; rintro _ w8 ⟨v8, rfl, hown8, hb8⟩; rw [Hrr.out] at hown8; obtain ⟨a8, c8, hv8⟩ := owns_shape hown8; subst hv8; have Hx8 := Lib.hid (Hx7.out.step hb8); clear hown8 hb8; clear a0; have a0 : w8.cell? ⟨w.heap.size, 0, none⟩ = some (.slice aa fs.length ca) := Hx8.out.cell 0)
        | (go_at_call 15; refine (spec_MissingOf _ fs D _ path s _ (Hr.out.below (by have := Hx8.out.below; (repeat (with_reducible first | exact Below.refl _ _ | assumption | refine ba ?_ _ | refine bd ?_ | refine bdN ?_ _ | refine bs ?_ (by first | exact Nat.le_refl _ | (dsimp only; omega) | (simp; done)) _ | refine bt ?_ (by assumption))))) Hz.out (Hp.out.below (by have := Hx8.out.below; (repeat (with_reducible first | exact Below.refl _ _ | assumption | refine ba ?_ _ | refine bd ?_ | refine bdN ?_ _ | refine bs ?_ (by first | exact Nat.le_refl _ | (dsimp only; omega) | (simp; done)) _ | refine bt ?_ (by assumption))))) hsl).mono ?_; rintro _ w9 ⟨v9, rfl, hown9, hb9⟩; rw [Hmm.out] at hown9; obtain ⟨a9, c9, hv9⟩ := owns_shape hown9; subst hv9; have Hx9 := Lib.hid (Hx8.out.step hb9); clear hown9 hb9; clear a0; have a0 : w9.cell? ⟨w.heap.size, 0, none⟩ = some (.slice aa fs.length ca) := Hx9.out.cell 0))
      have hz9 := Hx9.out.lt
      have hbw := Hx9.out.below
      refine (spec_visit _ fs D _ path _ HPl.out Hlk.out Hz.out 300 s [] (.slice (some ⟨w9.heap.size, 0, none⟩) 0 0) w9.heap.size _ Hse.out (Nat.lt_of_le_of_lt (rank_le HPl.out s) (by omega)) (Hr.out.below (by (repeat (with_reducible first | exact Below.refl _ _ | assumption | refine ba ?_ _ | refine bd ?_ | refine bdN ?_ _ | refine bs ?_ (by first | exact Nat.le_refl _ | (dsimp only; omega) | (simp; done)) _ | refine bt ?_ (by assumption))))) (Hp.out.below (by (repeat (with_reducible first | exact Below.refl _ _ | assumption | refine ba ?_ _ | refine bd ?_ | refine bdN ?_ _ | refine bs ?_ (by first | exact Nat.le_refl _ | (dsimp only; omega) | (simp; done)) _ | refine bt ?_ (by assumption))))) (World.ownsRow_lit (size := 1) w9 #[] 0 (Nat.le_refl _) (by unfold maxLen; omega) rfl) (by simp) ⟨by simp, by simp⟩).mono ?_
      rintro _ w10 ⟨v10, rfl, hown10, hb10⟩
      have Hown10 := Lib.hid hown10
      have Hb10 := Lib.hid (show Below w.heap.size w w10 from bt hbw (bt (ba (Below.refl _ _) _) hb10))
      clear hown10 hb10 hbw
      go_wp2_with fail
      go_ret2
      refine ⟨v10, by rw [Hyes.out]; rfl, ?_, Hb10.out⟩
      unfold plainOrder
      rw [Hyes.out]
      exact owns_mono Hown10.out (by omega)
    · have Hno := Lib.hid (okPlain_no (t := fs) (path := path) (s := s) (.inr (.inr (by rw [← hK]; exact h5))))
      have hKl : 0 < K.length := List.length_pos_iff.2 h5
      subst h4
      clear h1 h2 h3 hlk hM hK h5
      go_enter Tryz.func28, Tryz.ntmps28
      go_wp2_with (first
        | (go_at_call 61; refine (spec_validTree _ fs D _ (Hr.out.below (by have := Hb0.out.below; (repeat (with_reducible first | exact Below.refl _ _ | assumption | refine ba ?_ _ | refine bd ?_ | refine bdN ?_ _ | refine bs ?_ (by first | exact Nat.le_refl _ | (dsimp only; omega) | (simp; done)) _ | refine bt ?_ (by assumption))))) Hz3.out).mono ?_; rintro _ w5 ⟨rfl, hb5⟩; rw [H1.out]; have Hx5 := Lib.hid (Hb0.out.step hb5); clear hb5; have a0 : w5.cell? ⟨w.heap.size, 0, none⟩ = some (.slice aa fs.length ca) := Hx5.out.cell 0)
        | (go_at_call 62; refine (spec_validPath _ path _ (Hp.out.below (by have := Hx5.out.below; (repeat (with_reducible first | exact Below.refl _ _ | assumption | refine ba ?_ _ | refine bd ?_ | refine bdN ?_ _ | refine bs ?_ (by first | exact Nat.le_refl _ | (dsimp only; omega) | (simp; done)) _ | refine bt ?_ (by assumption)))))).mono ?_; rintro _ w6 ⟨rfl, hb6⟩; rw [H2.out]; have Hx6 := Lib.hid (Hx5.out.step hb6); clear hb6; clear a0; have a0 : w6.cell? ⟨w.heap.size, 0, none⟩ = some (.slice aa fs.length ca) := Hx6.out.cell 0)
        | (go_at_call 63; refine (spec_validName s _ hsl).mono ?_; rintro _ w7 ⟨rfl, hb7⟩; rw [H3.out]; have Hx7 := Lib.hid (Hx6.out.step hb7); clear hb7; clear a0; have a0 : w7.cell? ⟨w.heap.size, 0, none⟩ = some (.slice aa fs.length ca) := Hx7.out.cell 0)
        | (go_at_call 26; refine (spec_RingsOf _ fs D _ path s _ (Hr.out.below (by have := Hx7.out.below; (repeat (with_reducible first | exact Below.refl _ _ | assumption | refine ba ?_ _ | refine bd ?_ | refine bdN ?_ _ | refine bs ?_ (by first | exact Nat.le_refl _ | (dsimp only; omega) | (simp; done)) _ | refine bt ?_ (by assumption))))) Hz.out (Hp.out.below (by have := Hx7.out.below; (repeat (with_reducible first | exact Below.refl _ _ | assumption | refine ba ?_ _ | refine bd ?_ | refine bdN ?_ _ | refine bs ?_ (by first | exact Nat.le_refl _ | (dsimp only; omega) | (simp; done)) _ | refine bt ?_ (by assumption))))) hsl).mono ?_; rintro _ w8 ⟨v8, rfl, hown8, hb8⟩; rw [Hrr.out] at hown8; obtain ⟨a8, c8, hv8⟩ := owns_shape hown8; subst hv8; have Hx8 := Lib.hid (Hx7.out.step hb8); clear hown8 hb8; clear a0; have a0 : w8.cell? ⟨w.heap.size, 0, none⟩ = some (.slice aa fs.length ca) := Hx8.out.cell 0)
        | (go_at_call 15; refine (spec_MissingOf _ fs D _ path s _ (Hr.out.below (by have := Hx8.out.below; (repeat (with_reducible first | exact Below.refl _ _ | assumption | refine ba ?_ _ | refine bd ?_ | refine bdN ?_ _ | refine bs ?_ (by first | exact Nat.le_refl _ | (dsimp only; omega) | (simp; done)) _ | refine bt ?_ (by assumption))))) Hz.out (Hp.out.below (by have := Hx8.out.below; (repeat (with_reducible first | exact Below.refl _ _ | assumption | refine ba ?_ _ | refine bd ?_ | refine bdN ?_ _ | refine bs ?_ (by first | exact Nat.le_refl _ | (dsimp only; omega) | (simp; done)) _ | refine bt ?_ (by assumption))))) hsl).mono ?_; rintro _ w9 ⟨v9, rfl, hown9, hb9⟩; rw [Hmm.out] at hown9; obtain ⟨a9, c9, hv9⟩ := owns_shape hown9; subst hv9; have Hx9 := Lib.hid (Hx8.out.step hb9); clear hown9 hb9; clear a0; have a0 : w9.cell? ⟨w.heap.size, 0, none⟩ = some (.slice aa fs.length ca) := Hx9.out.cell 0))
      go_ret2
      have hbw := Hx9.out.below
      exact noOrder Hno.out (by (repeat (with_reducible first | exact Below.refl _ _ | assumption | refine ba ?_ _ | refine bd ?_ | refine bdN ?_ _ | refine bs ?_ (by first | exact Nat.le_refl _ | (dsimp only; omega) | (simp; done)) _ | refine bt ?_ (by assumption))))
  · have Hno := Lib.hid (okPlain_no (t := fs) (path := path) (s := s) (.inr (.inl (by rw [← hM]; exact h4))))
    have hMl : 0 < M.length := List.length_pos_iff.2 h4
    clear h1 h2 h3 hlk hM hK h4
    go_enter Tryz.func28, Tryz.ntmps28
    go_wp2_with (first
      | (go_at_call 61; refine (spec_validTree _ fs D _ (Hr.out.below (by have := Hb0.out.below; (repeat (with_reducible first | exact Below.refl _ _ | assumption | refine ba ?_ _ | refine bd ?_ | refine bdN ?_ _ | refine bs ?_ (by first | exact Nat.le_refl _ | (dsimp only; omega) | (simp; done)) _ | refine bt ?_ (by assumption))))) Hz3.out).mono ?_; rintro _ w5 ⟨rfl, hb5⟩; rw [H1.out]; have Hx5 := Lib.hid (Hb0.out.step hb5); clear hb5; have a0 : w5.cell? ⟨w.heap.size, 0, none⟩ = some (.slice aa fs.length ca) := Hx5.out.cell 0)
      | (go_at_call 62; refine (spec_validPath _ path _ (Hp.out.below (by have := Hx5.out.below; (repeat (with_reducible first | exact Below.refl _ _ | assumption | refine ba ?_ _ | refine bd ?_ | refine bdN ?_ _ | refine bs ?_ (by first | exact Nat.le_refl _ | (dsimp only; omega) | (simp; done)) _ | refine bt ?_ (by assumption)))))).mono ?_; rintro _ w6 ⟨rfl, hb6⟩; rw [H2.out]; have Hx6 := Lib.hid (Hx5.out.step hb6); clear hb6; clear a0; have a0 : w6.cell? ⟨w.heap.size, 0, none⟩ = some (.slice aa fs.length ca) := Hx6.out.cell 0)
      | (go_at_call 63; refine (spec_validName s _ hsl).mono ?_; rintro _ w7 ⟨rfl, hb7⟩; rw [H3.out]; have Hx7 := Lib.hid (Hx6.out.step hb7); clear hb7; clear a0; have a0 : w7.cell? ⟨w.heap.size, 0, none⟩ = some (.slice aa fs.length ca) := Hx7.out.cell 0)
      | (go_at_call 26; refine (spec_RingsOf _ fs D _ path s _ (Hr.out.below (by have := Hx7.out.below; (repeat (with_reducible first | exact Below.refl _ _ | assumption | refine ba ?_ _ | refine bd ?_ | refine bdN ?_ _ | refine bs ?_ (by first | exact Nat.le_refl _ | (dsimp only; omega) | (simp; done)) _ | refine bt ?_ (by assumption))))) Hz.out (Hp.out.below (by have := Hx7.out.below; (repeat (with_reducible first | exact Below.refl _ _ | assumption | refine ba ?_ _ | refine bd ?_ | refine bdN ?_ _ | refine bs ?_ (by first | exact Nat.le_refl _ | (dsimp only; omega) | (simp; done)) _ | refine bt ?_ (by assumption))))) hsl).mono ?_; rintro _ w8 ⟨v8, rfl, hown8, hb8⟩; rw [Hrr.out] at hown8; obtain ⟨a8, c8, hv8⟩ := owns_shape hown8; subst hv8; have Hx8 := Lib.hid (Hx7.out.step hb8); clear hown8 hb8; clear a0; have a0 : w8.cell? ⟨w.heap.size, 0, none⟩ = some (.slice aa fs.length ca) := Hx8.out.cell 0))
    go_ret2
    have hbw := Hx8.out.below
    exact noOrder Hno.out (by (repeat (with_reducible first | exact Below.refl _ _ | assumption | refine ba ?_ _ | refine bd ?_ | refine bdN ?_ _ | refine bs ?_ (by first | exact Nat.le_refl _ | (dsimp only; omega) | (simp; done)) _ | refine bt ?_ (by assumption))))
/-! ### Layers of names. Written by mklay.py and mklay2.py (into Layers.tpl, before it was merged into Miss.tpl). -/

/-- Two rows of texts that share no block. -/
def SplitI (N : Nat) (lv ov : Value) (A B : List Bs) (w : World) : Prop :=
  w.ownsRow N 9 1 lv A.length (A.map sv) ∧ w.ownsRow N 9 1 ov B.length (B.map sv) ∧ (∀ b, lv.ownBlock = some b → ov.ownBlock ≠ some b)
theorem SplitI.below {N : Nat} {lv ov : Value} {A B : List Bs} {w w' : World} (h : SplitI N lv ov A B w) (hb : Below w.heap.size w w') : SplitI N lv ov A B w' := ⟨owns_below h.1 hb, owns_below h.2.1 hb, h.2.2⟩
theorem SplitI.swap {N : Nat} {lv ov : Value} {A B : List Bs} {w : World} (h : SplitI N lv ov A B w) : SplitI N ov lv B A w := ⟨h.2.1, h.1, fun b h1 h2 => h.2.2 b h2 h1⟩
theorem SplitI.right {N : Nat} {lv ov ov' : Value} {A B C : List Bs} {W w' : World} (h : SplitI N lv ov A B W) (hg : W.grownBy w' ov.ownBlock) (ho : w'.ownsRow N 9 1 ov' C.length (C.map sv)) (hat : ov'.ownBlock = ov.ownBlock ∨ ov'.ownBlock = some W.heap.size) : SplitI N lv ov' A C w' := by
  refine ⟨owns_heap h.1 (fun x hx => hg.block x (owns_block h.1 hx).2 (fun e => h.2.2 x hx e.symm)), ho, fun b hb e => ?_⟩
  rcases hat with h1 | h1
  · exact h.2.2 b hb (h1 ▸ e)
  · rw [h1] at e
    have := (owns_block h.1 hb).2
    simp at e; omega

set_option maxRecDepth 100000 in
set_option maxHeartbeats 4000000 in
theorem impl_splitLayer (g nv : Value) (fs : List Fil) (path : List Int) (D : Nat → Prop) (xs : List Bs) (w : World) (hg : GraphV w D fs path g) (hn : Reads w nv xs) (hxl : xs.length ≤ 400) (hv : ∀ x ∈ xs, x.length ≤ 8000000) :
    Calls Tryz.prog 82 #[g, nv] w fun e w' => ∃ v1 v2, e = .returned (.tuple #[v1, v2]) ∧ SplitI w.heap.size v1 v2 (xs.filter (freeOf (edgesOf fs path) xs)) (xs.filter (fun s => !freeOf (edgesOf fs path) xs s)) w' ∧ Below w.heap.size w w' := by
  obtain ⟨i0, hi, hz0, hz1, hz2⟩ := info_parts infoS
  have Hi := Lib.hid hi
  have Hz0 := Lib.hid hz0
  have Hz1 := Lib.hid hz1
  have Hz2 := Lib.hid hz2
  have Hg := Lib.hid hg
  have Hv := Lib.hid hv
  have HR := Lib.hid hn
  have Hn := Lib.hid (ReadsIn.of hn)
  obtain ⟨o, rfl⟩ := hg.shape
  obtain ⟨na, nc, rfl, hnl, hnm, hnx⟩ := ReadsIn.of hn
  obtain ⟨p, hpk⟩ : ∃ p : Bs → Bool, p = freeOf (edgesOf fs path) xs := ⟨_, rfl⟩
  rw [← hpk]
  have Hpk := Lib.hid hpk
  obtain ⟨q, hqk⟩ : ∃ q : Bs → Bool, q = fun s => !p s := ⟨_, rfl⟩
  rw [← hqk]
  have Hqk := Lib.hid (show ∀ s, q s = !p s by rw [hqk]; exact fun _ => rfl)
  clear hi hz0 hz1 hz2 hg hv hn hnl hnm hnx hpk hqk
  go_enter Tryz.func82, Tryz.ntmps82
  go_wp2
  go_step3
  go_wp2
  go_step3
  go_wp2
  go_loopg [6, 7, 14] xs.length (fun g lv ov cv wr => ∃ k : Nat, k + g = xs.length ∧ cv = .int .i64 k ∧ SplitI w.heap.size lv ov ((xs.take k).filter p) ((xs.take k).filter q) wr ∧ Below w.heap.size w wr)
  case atStart => exact ⟨0, by omega, rfl, ⟨World.ownsRow_nil _ _ _ _, World.ownsRow_nil _ _ _ _, by simp [Value.ownBlock]⟩, by (repeat (with_reducible first | exact Below.refl _ _ | assumption | refine ba ?_ _ | refine bd ?_ | refine bdN ?_ _ | refine bs ?_ (by first | exact Nat.le_refl _ | (dsimp only; omega) | (simp; done)) _ | refine bt ?_ (by assumption)))⟩
  case round =>
    obtain ⟨k, hkg, rfl, hsp, hbel⟩ := hrel
    have Hsp := Lib.hid hsp
    have Hbel := Lib.hid hbel
    obtain ⟨la, lc, rfl⟩ := owns_shape hsp.1
    obtain ⟨oa, oc, rfl⟩ := owns_shape hsp.2.1
    have hzr := hbel.size
    clear hsp hbel
    by_cases hlt : k < xs.length
    · obtain ⟨g, rfl⟩ : ∃ g, gk = g + 1 := ⟨gk - 1, by omega⟩
      obtain ⟨a, cap, e, _, _, h4⟩ := Hn.out
      obtain ⟨b, off, e1, hb, hcc⟩ := h4 (by omega)
      simp only [Value.slice.injEq] at e
      obtain ⟨rfl, hnn, rfl⟩ := e
      subst e1
      have hc := (Hbel.out.cell (p := ⟨b, off + k, none⟩) hb).trans (hcc k hlt)
      have hsl := Hv.out _ (List.getElem_mem hlt)
      have Hsn := Lib.hid (filterM_snoc p xs k hlt)
      have Hsq := Lib.hid (filterM_snoc q xs k hlt)
      clear hcc h4 hnn
      obtain ⟨s, hs⟩ : ∃ s, s = xs[k] := ⟨_, rfl⟩
      rw [← hs] at hc hsl Hsn Hsq
      clear hs
      have hla : ((xs.take k).filter p).length ≤ 400 := Nat.le_trans (List.length_filter_le _ _) (by rw [List.length_take]; omega)
      have hlb : ((xs.take k).filter q).length ≤ 400 := Nat.le_trans (List.length_filter_le _ _) (by rw [List.length_take]; omega)
      obtain ⟨es, hes⟩ : ∃ es, es = edgesOf fs path s := ⟨_, rfl⟩
      obtain ⟨pa, hpa⟩ : ∃ pa, pa = parentOf s := ⟨_, rfl⟩
      obtain ⟨bs, hbs⟩ : ∃ bs, bs = es ++ [pa] := ⟨_, rfl⟩
      have hel : es.length ≤ 24 := by rw [hes]; exact (edgesOf_ok fs path s).2.2
      have Hbl := Lib.hid (show bs.length = es.length + 1 by rw [hbs]; simp)
      have hbl : bs.length ≤ 25 := by rw [hbs]; simp; omega
      have Hbm := Lib.hid (show es.map sv ++ [.string (mk pa)] = bs.map sv by rw [hbs]; simp [sv])
      have Hps := Lib.hid (show p s = bs.all (fun b => decide (b ∉ xs)) by rw [Hpk.out, hbs, hes, hpa]; rfl)
      have Hes := Lib.hid hes.symm
      have Hpa := Lib.hid hpa.symm
      clear hes hpa hbs
      generalize (xs.take k).filter p = A at *
      generalize (xs.take k).filter q = B at *
      go_wp2_with (first
        | (go_at_call 87; refine (impl_edges (.map o) fs path D s _ (Hg.out.below (bt Hbel.out (by (repeat (with_reducible first | exact Below.refl _ _ | assumption | refine ba ?_ _ | refine bd ?_ | refine bdN ?_ _ | refine bs ?_ (by first | exact Nat.le_refl _ | (dsimp only; omega) | (simp; done)) _ | refine bt ?_ (by assumption)))))) hsl).mono ?_; rintro _ w5 ⟨v5, rfl, hown5, hb5⟩; rw [Hes.out] at hown5; obtain ⟨a5, c5, rfl⟩ := owns_shape hown5; have Hown5 := Lib.hid hown5; have Hb5 := Lib.hid (show Below wr.heap.size wr w5 by (repeat (with_reducible first | exact Below.refl _ _ | assumption | refine ba ?_ _ | refine bd ?_ | refine bdN ?_ _ | refine bs ?_ (by first | exact Nat.le_refl _ | (dsimp only; omega) | (simp; done)) _ | refine bt ?_ (by assumption)))); clear hown5 hb5)
        | (go_at_call 123; refine (impl_ParentOf s _ hsl).mono ?_; rintro _ w6 ⟨rfl, hb6⟩; rw [Hpa.out]; have Hown6 := Lib.hid (owns_below Hown5.out hb6); have Hb6 := Lib.hid (bt Hb5.out hb6); clear hb6)
        | (at_builtin; refine wpList_append_own_at _ rfl _ _ 27 rfl wr.heap.size 9 i0 (.string ByteArray.empty) 1 16 Tryz.underlying27 Hi.out Hz0.out Hz1.out Hz2.out rfl (by decide) _ es.length _ rfl (Hown6.out.alloc _) ⟨_, 0, none⟩ 1 1 [.string (mk pa)] rfl rfl (new_one (by first | rfl | simp)) (fun x hx => by simp at hx; subst hx; rfl) (by unfold maxLen; omega) (by omega) (by have := Hb6.out.size; simp; omega) ?_; intro v7 w7 hown7 hgrow7 hnil7 hat7; rw [← Hbl.out, Hbm.out] at hown7; obtain ⟨a7, c7, hv7⟩ := owns_shape hown7; subst hv7; have R7 := Lib.hid (Reads.of_owns hown7); have Hb7 := Lib.hid (show Below wr.heap.size wr w7 from (ba Hb6.out _).grown hgrow7 (by have := Hb6.out.size; simp; omega) (fun x hx => (owns_block Hown6.out hx).1)); clear hown7 hgrow7 hnil7 hat7))
      have Hsp7 := Lib.hid (Hsp.out.below Hb7.out)
      have Hbel7 := Lib.hid (bt Hbel.out Hb7.out)
      have hz7 := Hb7.out.size
      clear hc
      go_loopg [7, 26] bs.length (fun g2 ov2 jv wy => ∃ j : Nat, j + g2 = bs.length ∧ jv = .int .i64 j ∧ ov2 = .slice oa B.length oc ∧ wy = w7 ∧ ∀ i (h : i < bs.length), i < j → bs[i] ∉ xs)
      case atStart => exact ⟨0, by omega, rfl, rfl, rfl, fun i _ h => absurd h (by omega)⟩
      case round =>
        obtain ⟨j, hjg, rfl, rfl, rfl, hall⟩ := hrel
        have Hall := Lib.hid hall
        clear hall
        by_cases hjl : j < bs.length
        · obtain ⟨g2, rfl⟩ : ∃ g, gk = g + 1 := ⟨gk - 1, by omega⟩
          obtain ⟨b1, o1, c1, e1, _, _, _, hc1⟩ := Reads.some R7.out (by omega)
          simp only [Value.slice.injEq] at e1
          obtain ⟨rfl, _, rfl⟩ := e1
          have hcb := hc1 j hjl
          clear hc1
          by_cases hm : bs[j] ∈ xs
          · have hpf : p s = false := by rw [Hps.out, List.all_eq_false]; exact ⟨_, List.getElem_mem hjl, by simp [hm]⟩
            have HA := Lib.hid (show (xs.take (k + 1)).filter p = A by rw [Hsn.out, hpf]; simp)
            have HB := Lib.hid (show (xs.take (k + 1)).filter q = B ++ [s] by rw [Hsq.out, Hqk.out, hpf]; simp)
            have Hm := Lib.hid (decide_eq_true hm)
            clear hm hpf
            generalize bs[j] = y at *
            go_wp2_with (first
              | (go_at_call 97; refine (slices_ContainsT _ xs y _ (HR.out.below (bt Hbel7.out (by (repeat (with_reducible first | exact Below.refl _ _ | assumption | refine ba ?_ _ | refine bd ?_ | refine bdN ?_ _ | refine bs ?_ (by first | exact Nat.le_refl _ | (dsimp only; omega) | (simp; done)) _ | refine bt ?_ (by assumption)))))) (by omega)).mono ?_; rintro _ _ ⟨rfl, rfl⟩; rw [Hm.out])
              | (at_builtin; refine wpList_append_own_at _ rfl _ _ 27 rfl w.heap.size 9 i0 (.string ByteArray.empty) 1 16 Tryz.underlying27 Hi.out Hz0.out Hz1.out Hz2.out rfl (by decide) _ B.length _ rfl (Hsp7.out.2.1.alloc _) ⟨_, 0, none⟩ 1 1 [.string (mk s)] rfl rfl (new_one (by first | rfl | simp)) (fun x hx => by simp at hx; subst hx; rfl) (by unfold maxLen; omega) (by omega) (by simp; omega) ?_; intro v8 w8 hown8 hgrow8 hnil8 hat8))
            have Hx8 := Lib.hid (show Below w.heap.size w w8 from (ba Hbel7.out _).grown hgrow8 (by simp; omega) (fun x hx => (owns_block Hsp7.out.2.1 hx).1))
            have Hsp8 := Lib.hid ((Hsp7.out.below (ba (Below.refl _ _) (.cells #[.string (mk s)] 9))).right hgrow8 (C := B ++ [s]) (by rw [List.length_append, List.map_append]; exact hown8) hat8)
            clear hown8 hgrow8 hnil8 hat8
            go_roundg g
            case measure => omega
            case rel => exact ⟨k + 1, by omega, by go_num, by rw [HA.out, HB.out]; exact Hsp8.out, Hx8.out⟩
          · have Hall2 := Lib.hid (show ∀ i (h : i < bs.length), i < j + 1 → bs[i] ∉ xs from fun i h hij => by
              rcases Nat.lt_succ_iff_lt_or_eq.1 hij with h1 | h1
              · exact Hall.out i h h1
              · subst h1; exact hm)
            have Hm := Lib.hid (decide_eq_false hm)
            clear hm
            obtain ⟨y, hy⟩ : ∃ y, y = bs[j] := ⟨_, rfl⟩
            rw [← hy] at hcb Hm
            clear hy
            go_wp2_with (go_at_call 97; refine (slices_ContainsT _ xs y _ (HR.out.below (bt Hbel7.out (by (repeat (with_reducible first | exact Below.refl _ _ | assumption | refine ba ?_ _ | refine bd ?_ | refine bdN ?_ _ | refine bs ?_ (by first | exact Nat.le_refl _ | (dsimp only; omega) | (simp; done)) _ | refine bt ?_ (by assumption)))))) (by omega)).mono ?_; rintro _ _ ⟨rfl, rfl⟩; rw [Hm.out])
            go_roundg g2
            case measure => omega
            case rel => exact ⟨j + 1, by omega, by go_num, rfl, rfl, Hall2.out⟩
        · obtain rfl : j = bs.length := by omega
          have hpt : p s = true := by
            rw [Hps.out, List.all_eq_true]
            intro x hx
            obtain ⟨i, hi, rfl⟩ := List.getElem_of_mem hx
            exact decide_eq_true (Hall.out i hi hi)
          have HA := Lib.hid (show (xs.take (k + 1)).filter p = A ++ [s] by rw [Hsn.out, hpt]; simp)
          have HB := Lib.hid (show (xs.take (k + 1)).filter q = B by rw [Hsq.out, Hqk.out, hpt]; simp)
          clear hpt
          go_wp2_with (at_builtin; refine wpList_append_own_at _ rfl _ _ 27 rfl w.heap.size 9 i0 (.string ByteArray.empty) 1 16 Tryz.underlying27 Hi.out Hz0.out Hz1.out Hz2.out rfl (by decide) _ A.length _ rfl (Hsp7.out.1.alloc _) ⟨_, 0, none⟩ 1 1 [.string (mk s)] rfl rfl (new_one (by first | rfl | simp)) (fun x hx => by simp at hx; subst hx; rfl) (by unfold maxLen; omega) (by omega) (by simp; omega) ?_; intro v8 w8 hown8 hgrow8 hnil8 hat8)
          have Hx8 := Lib.hid (show Below w.heap.size w w8 from (ba Hbel7.out _).grown hgrow8 (by simp; omega) (fun x hx => (owns_block Hsp7.out.1 hx).1))
          have Hsp8 := Lib.hid (((Hsp7.out.below (ba (Below.refl _ _) (.cells #[.string (mk s)] 9))).swap.right hgrow8 (C := A ++ [s]) (by rw [List.length_append, List.map_append]; exact hown8) hat8).swap)
          clear hown8 hgrow8 hnil8 hat8
          go_roundg g
          case measure => omega
          case rel => exact ⟨k + 1, by omega, by go_num, by rw [HA.out, HB.out]; exact Hsp8.out, Hx8.out⟩
    · obtain rfl : k = xs.length := by omega
      rw [List.take_length] at Hsp ⊢
      go_wp2
      try rw [Exit.noGoto_ret]
      generalize hal : (xs.filter p).length = an at *
      generalize hbl : (xs.filter q).length = bn at *
      refine bodyPost_ret (v := .tuple #[.slice la an lc, .slice oa bn oc]) (by simp [results, Tryz.results82, go_sem, *]) rfl ⟨_, _, rfl, Hsp.out, Hbel.out⟩
theorem reads_form {w : World} {v : Value} {xs : List Bs} (h : Reads w v xs) : ∃ a c, v = .slice a xs.length c := by
  rcases h with ⟨rfl, rfl⟩ | ⟨b, off, cap, rfl, _⟩ <;> exact ⟨_, _, rfl⟩
theorem infoSS : (Tryz.prog.info? 27).map (fun i => (i.zero, i.size, i.bytes)) = some (some (.slice none 0 0), 1, 24) := by kernel_rfl
/-- A row of rows of texts, memory from B on, no block twice. -/
def OwnSS (w : World) (B : Nat) (v : Value) (vs : List (Value × List Bs)) : Prop :=
  w.ownsRow B 27 1 v vs.length (vs.map (·.1)) ∧ (∀ p ∈ vs, w.ownsRow B 9 1 p.1 p.2.length (p.2.map sv) ∧ ∀ b, p.1.ownBlock = some b → v.ownBlock ≠ some b) ∧ vs.Pairwise (fun p q => ∀ b, p.1.ownBlock = some b → q.1.ownBlock ≠ some b)
theorem OwnSS.nil (w : World) (B : Nat) : OwnSS w B (.slice none 0 0) [] := ⟨World.ownsRow_nil _ _ _ _, by simp, List.Pairwise.nil⟩
theorem OwnSS.below {w w' : World} {B : Nat} {v : Value} {vs : List (Value × List Bs)} (h : OwnSS w B v vs) (hb : Below w.heap.size w w') : OwnSS w' B v vs := ⟨owns_below h.1 hb, fun p hp => ⟨owns_below (h.2.1 p hp).1 hb, (h.2.1 p hp).2⟩, h.2.2⟩
theorem OwnSS.mono {w : World} {B B' : Nat} {v : Value} {vs : List (Value × List Bs)} (h : OwnSS w B v vs) (hb : B' ≤ B) : OwnSS w B' v vs := ⟨owns_mono h.1 hb, fun p hp => ⟨owns_mono (h.2.1 p hp).1 hb, (h.2.1 p hp).2⟩, h.2.2⟩
theorem OwnSS.snoc {W w' : World} {B : Nat} {v v' lv : Value} {vs : List (Value × List Bs)} {l : List Bs} (h : OwnSS W B v vs) (hl : W.ownsRow B 9 1 lv l.length (l.map sv)) (hlv : ∀ b, lv.ownBlock = some b → v.ownBlock ≠ some b) (hlp : ∀ p ∈ vs, ∀ b, p.1.ownBlock = some b → lv.ownBlock ≠ some b)
    (hg : W.grownBy w' v.ownBlock) (ho : w'.ownsRow B 27 1 v' (vs ++ [(lv, l)]).length ((vs ++ [(lv, l)]).map (·.1))) (hat : v'.ownBlock = v.ownBlock ∨ v'.ownBlock = some W.heap.size) : OwnSS w' B v' (vs ++ [(lv, l)]) := by
  have hnew : ∀ (u : Value) (xs : List Bs), W.ownsRow B 9 1 u xs.length (xs.map sv) → (∀ b, u.ownBlock = some b → v.ownBlock ≠ some b) → w'.ownsRow B 9 1 u xs.length (xs.map sv) ∧ ∀ b, u.ownBlock = some b → v'.ownBlock ≠ some b := fun u xs hu hv => by
    refine ⟨owns_heap hu (fun x hx => hg.block x (owns_block hu hx).2 (fun e => hv x hx e.symm)), fun b hb e => ?_⟩
    rcases hat with h1 | h1
    · exact hv b hb (h1 ▸ e)
    · rw [h1] at e
      have := (owns_block hu hb).2
      simp at e; omega
  refine ⟨ho, fun p hp => ?_, ?_⟩
  · rcases List.mem_append.1 hp with hp | hp
    · exact hnew p.1 p.2 (h.2.1 p hp).1 (h.2.1 p hp).2
    · obtain rfl := List.mem_singleton.1 hp
      exact hnew lv l hl hlv
  · refine List.pairwise_append.2 ⟨h.2.2, List.pairwise_singleton _ _, fun p hp q hq => ?_⟩
    obtain rfl := List.mem_singleton.1 hq
    exact hlp p hp
def NewSS (ls : List (List Bs)) (w : World) (e : Ending) (w' : World) : Prop :=
  ∃ v vs, e = .returned v ∧ vs.map (·.2) = ls ∧ OwnSS w' w.heap.size v vs ∧ Below w.heap.size w w'

theorem layers_round {E : Bs → List Bs} {L r : List Bs} {acc : List (List Bs)} (h : layersGo E 400 L = (layersGo E 400 r).map (fun l => acc ++ l)) (hr : r.length < 400) (h0 : r ≠ []) (h1 : r.filter (freeOf E r) ≠ []) :
    layersGo E 400 L = (layersGo E 400 (r.filter (fun s => !freeOf E r s))).map (fun l => (acc ++ [r.filter (freeOf E r)]) ++ l) := by
  rw [h, layersGo_step E hr, if_neg h0, if_neg h1, Option.map_map]
  congr 1
  funext l
  simp
theorem layers_ring {E : Bs → List Bs} {L r : List Bs} {acc : List (List Bs)} (h : layersGo E 400 L = (layersGo E 400 r).map (fun l => acc ++ l)) (hr : r.length < 400) (h0 : r ≠ []) (h1 : r.filter (freeOf E r) = []) : layersGo E 400 L = none := by
  rw [h, layersGo_step E hr, if_neg h0, if_pos h1]; rfl
theorem layers_end {E : Bs → List Bs} {L : List Bs} {acc : List (List Bs)} (h : layersGo E 400 L = (layersGo E 400 []).map (fun l => acc ++ l)) : layersGo E 400 L = some acc := by
  rw [h, layersGo_step E (by simp), if_pos rfl]; simp

set_option maxRecDepth 100000 in
set_option maxHeartbeats 4000000 in
theorem impl_LayersOf (v : Value) (fs : List Fil) (D : Nat → Prop) (pv : Value) (path : List Int) (s : Bs) (w : World) (hr : FilsIn w D v fs) (hz : ShortT 2000000 fs) (hp : IntsIn w pv path) (hsl : s.length ≤ 8000000) :
    Calls Tryz.prog 33 #[.agg #[v], pv, .string (mk s)] w (NewSS (layersOf fs path s) w) := by
  obtain ⟨i0, hi, hz0, hz1, hz2⟩ := info_parts infoSS
  have Hi := Lib.hid hi
  have Hz0 := Lib.hid hz0
  have Hz1 := Lib.hid hz1
  have Hz2 := Lib.hid hz2
  have Hr := Lib.hid hr
  have Hz := Lib.hid hz
  have Hp := Lib.hid hp
  obtain ⟨aa, ca, rfl, hl, hm⟩ := hr.len
  clear hr hz hp hl hm hi hz0 hz1 hz2
  have hL3 := (reachOf_len fs path s)
  have Hv := Lib.hid (fun x (hx : x ∈ reachOf fs path s) => (show x.length ≤ 8000000 from Nat.le_trans (vn_len ((reachOf_facts fs path s).2.1 x hx)) (by omega)))
  have Hlo := Lib.hid (show layersOf fs path s = (layersGo (edgesOf fs path) 400 (reachOf fs path s)).getD [] from rfl)
  generalize layersOf fs path s = lo at *
  obtain ⟨L, hL⟩ : ∃ L, L = reachOf fs path s := ⟨_, rfl⟩
  rw [← hL] at Hv hL3 Hlo
  have HL := Lib.hid hL.symm
  clear hL
  go_enter Tryz.func33, Tryz.ntmps33
  go_wp2_with (go_at_call 69; refine (impl_reached _ fs D _ path s _ (Hr.out.below (by (repeat (with_reducible first | exact Below.refl _ _ | assumption | refine ba ?_ _ | refine bd ?_ | refine bdN ?_ _ | refine bs ?_ (by first | exact Nat.le_refl _ | (dsimp only; omega) | (simp; done)) _ | refine bt ?_ (by assumption))))) Hz.out (Hp.out.below (by (repeat (with_reducible first | exact Below.refl _ _ | assumption | refine ba ?_ _ | refine bd ?_ | refine bdN ?_ _ | refine bs ?_ (by first | exact Nat.le_refl _ | (dsimp only; omega) | (simp; done)) _ | refine bt ?_ (by assumption))))) hsl).mono ?_; rintro _ w5 ⟨g5, v5, rfl, ⟨D5, hg5⟩, hown5, hb5⟩; rw [HL.out] at hown5; obtain ⟨o5, rfl⟩ := hg5.shape; obtain ⟨a5, c5, rfl⟩ := owns_shape hown5; have R5 := Lib.hid (Reads.of_owns hown5); have Hg5 := Lib.hid hg5; have Hb5 := Lib.hid (show Below w.heap.size w w5 by (repeat (with_reducible first | exact Below.refl _ _ | assumption | refine ba ?_ _ | refine bd ?_ | refine bdN ?_ _ | refine bs ?_ (by first | exact Nat.le_refl _ | (dsimp only; omega) | (simp; done)) _ | refine bt ?_ (by assumption)))); clear hown5 hb5 hg5)
  have hz5 := Hb5.out.size
  go_loopg [8, 9] L.length (fun g rv lv wr => ∃ (r : List Bs) (vs : List (Value × List Bs)), r.length = g ∧ Reads wr rv r ∧ OwnSS wr w5.heap.size lv vs ∧ Below w5.heap.size w5 wr ∧ layersGo (edgesOf fs path) 400 L = (layersGo (edgesOf fs path) 400 r).map (fun l => vs.map (·.2) ++ l) ∧ (∀ x ∈ r, x ∈ L) ∧ vs.length + r.length ≤ L.length)
  case atStart => exact ⟨L, [], rfl, R5.out, OwnSS.nil _ _, Below.refl _ _, by simp, fun x hx => hx, by simp⟩
  case round =>
    obtain ⟨r, vs, rfl, hrd, hos, hbel, hgo, hsub, hln⟩ := hrel
    have RR := Lib.hid hrd
    have Hos := Lib.hid hos
    have Hbel := Lib.hid hbel
    have Hgo := Lib.hid hgo
    have Hsub := Lib.hid hsub
    obtain ⟨ra, rc, rfl⟩ := reads_form hrd
    obtain ⟨la, lc, rfl⟩ := owns_shape hos.1
    have hzr := hbel.size
    clear hrd hos hbel hgo hsub
    by_cases h0 : 0 < r.length
    · have hr0 : r ≠ [] := List.length_pos_iff.1 h0
      have Hr0 := Lib.hid hr0
      have hfl := filter_split_len (freeOf (edgesOf fs path) r) r
      obtain ⟨A, hA⟩ : ∃ A, A = r.filter (freeOf (edgesOf fs path) r) := ⟨_, rfl⟩
      obtain ⟨B, hB⟩ : ∃ B, B = r.filter (fun x => !freeOf (edgesOf fs path) r x) := ⟨_, rfl⟩
      rw [← hA, ← hB] at hfl
      have HA := Lib.hid hA.symm
      have HB := Lib.hid hB.symm
      have HsB := Lib.hid (show ∀ x ∈ B, x ∈ L by rw [hB]; exact fun x hx => Hsub.out x (List.mem_filter.1 hx).1)
      clear hr0 hA hB
      by_cases hA0 : A.length = 0
      · have hno := layers_ring Hgo.out (by omega) Hr0.out (by rw [HA.out]; exact List.length_eq_zero_iff.1 hA0)
        have HN := Lib.hid (show lo = [] by rw [Hlo.out, hno]; rfl)
        clear hno
        have hAi : ((A.length : Int) == 0) = true := by simp [hA0]
        go_wp2_with (go_at_call 82; refine (impl_splitLayer _ _ fs path _ r _ (Hg5.out.below Hbel.out) RR.out (by omega) (fun x hx => Hv.out x (Hsub.out x hx))).mono ?_; rintro _ w6 ⟨v6, u6, rfl, hsp6, hb6⟩; rw [HA.out, HB.out] at hsp6; obtain ⟨a6, c6, rfl⟩ := owns_shape hsp6.1; obtain ⟨d6, e6, rfl⟩ := owns_shape hsp6.2.1; have Hsp6 := Lib.hid hsp6; have Hb6 := Lib.hid hb6; clear hsp6 hb6)
        go_ret
        exact ⟨_, [], rfl, by rw [HN.out]; rfl, OwnSS.nil _ _, bt Hb5.out (bt Hbel.out Hb6.out)⟩
      · have hgo2 := layers_round Hgo.out (by omega) Hr0.out (by rw [HA.out]; intro e; rw [e] at hA0; simp at hA0)
        rw [HA.out, HB.out] at hgo2
        have Hgo2 := Lib.hid hgo2
        clear hgo2
        have hAi : ((A.length : Int) == 0) = false := by rw [beq_eq_false_iff_ne]; omega
        go_wp2_with (first
          | (go_at_call 82; refine (impl_splitLayer _ _ fs path _ r _ (Hg5.out.below Hbel.out) RR.out (by omega) (fun x hx => Hv.out x (Hsub.out x hx))).mono ?_; rintro _ w6 ⟨v6, u6, rfl, hsp6, hb6⟩; rw [HA.out, HB.out] at hsp6; obtain ⟨a6, c6, rfl⟩ := owns_shape hsp6.1; obtain ⟨d6, e6, rfl⟩ := owns_shape hsp6.2.1; have Hsp6 := Lib.hid hsp6; have Hb6 := Lib.hid hb6; clear hsp6 hb6)
          | (at_builtin; refine wpList_append_own_at _ rfl _ _ 44 rfl w5.heap.size 27 i0 (.slice none 0 0) 1 24 Tryz.underlying44 Hi.out Hz0.out Hz1.out Hz2.out rfl (by decide) _ vs.length _ rfl ((owns_below Hos.out.1 Hb6.out).alloc _) ⟨_, 0, none⟩ 1 1 [.slice a6 A.length c6] rfl rfl (new_one (by first | rfl | simp)) (fun x hx => by simp at hx; subst hx; rfl) (by unfold maxLen; omega) (by omega) (by have := Hb6.out.size; simp; omega) ?_; intro v8 w8 hown8 hgrow8 hnil8 hat8))
        have hz6 := Hb6.out.size
        have Hx8 := Lib.hid (show Below w5.heap.size w5 w8 from (ba (bt Hbel.out Hb6.out) _).grown hgrow8 (by simp; omega) (fun x hx => (owns_block Hos.out.1 hx).1))
        have Hos8 := Lib.hid (OwnSS.snoc (((Hos.out.below Hb6.out).below (ba (Below.refl _ _) (.cells #[.slice a6 A.length c6] 27)))) (lv := .slice a6 A.length c6) (l := A) (owns_mono (owns_below Hsp6.out.1 (ba (Below.refl _ _) _)) (by omega)) (fun b hb e => by have h1 := (owns_block Hos.out.1 e).2; have h2 := (owns_block Hsp6.out.1 hb).1; omega) (fun p hp b hb e => by have h1 := (owns_block (Hos.out.2.1 p hp).1 hb).2; have h2 := (owns_block Hsp6.out.1 e).1; omega) hgrow8 (by rw [List.length_append, List.map_append]; exact hown8) hat8)
        have hg8 : (w6.alloc (.cells #[.slice a6 A.length c6] 27)).grownBy w8 (Value.slice la vs.length lc).ownBlock := hgrow8
        have HR8 := Lib.hid (Reads.of_owns (owns_heap (owns_below Hsp6.out.2.1 (ba (Below.refl _ _) (.cells #[.slice a6 A.length c6] 27))) (fun x hx => hg8.block x (Nat.lt_of_lt_of_le (owns_block Hsp6.out.2.1 hx).2 (by simp)) (fun e => by have h1 := (owns_block Hos.out.1 e.symm).2; have h2 := (owns_block Hsp6.out.2.1 hx).1; omega))))
        clear hown8 hgrow8 hnil8 hat8 hg8
        go_roundg B.length
        case measure => omega
        case rel => exact ⟨B, vs ++ [(.slice a6 A.length c6, A)], rfl, HR8.out, Hos8.out, Hx8.out, by rw [Hgo2.out]; simp, HsB.out, by simp; omega⟩
    · have hr0 : r = [] := List.length_eq_zero_iff.1 (by omega)
      subst hr0
      have hno := layers_end Hgo.out
      have HN := Lib.hid (show lo = vs.map (·.2) by rw [Hlo.out, hno]; rfl)
      clear hno
      go_wp2_with fail
      go_ret
      exact ⟨_, vs, rfl, HN.out.symm, Hos.out.mono hz5, bt Hb5.out Hbel.out⟩
theorem OwnSS.grown {W W' : World} {B : Nat} {v : Value} {vs : List (Value × List Bs)} {row : Option Nat} (h : OwnSS W B v vs) (hg : W.grownBy W' row) (h1 : ∀ b, v.ownBlock = some b → row ≠ some b) (h2 : ∀ p ∈ vs, ∀ b, p.1.ownBlock = some b → row ≠ some b) : OwnSS W' B v vs :=
  ⟨owns_heap h.1 (fun x hx => hg.block x (owns_block h.1 hx).2 (fun e => h1 x hx e.symm)), fun p hp => ⟨owns_heap (h.2.1 p hp).1 (fun x hx => hg.block x (owns_block (h.2.1 p hp).1 hx).2 (fun e => h2 p hp x hx e.symm)), (h.2.1 p hp).2⟩, h.2.2⟩
theorem noSS {w w' : World} {ls : List (List Bs)} (h : ls = []) (hb : Below w.heap.size w w') : NewSS ls w (.returned (.slice none 0 0)) w' := by
  subst h
  exact ⟨_, [], rfl, rfl, OwnSS.nil _ _, hb⟩
theorem rest_step {R pl : List Bs} {F : Bs → Bool} : (R.filter (fun x => decide (x ∉ pl))).filter (fun x => !F x) = R.filter (fun x => decide (x ∉ pl ++ (R.filter (fun x => decide (x ∉ pl))).filter F)) := by
  rw [List.filter_filter]
  refine List.filter_congr (fun x hx => ?_)
  rw [Bool.eq_iff_iff]
  by_cases h : x ∈ pl
  · simp [h]
  · cases e : F x <;> simp [h, e, hx]
set_option maxRecDepth 100000 in
set_option maxHeartbeats 4000000 in
theorem spec_leadsOnlyTo (v : Value) (fs : List Fil) (D : Nat → Prop) (pv : Value) (path : List Int) (s : Bs) (lv : Value) (pl : List Bs) (w : World) (hr : FilsIn w D v fs) (hz : ShortT 2000000 fs) (hlk : okLook fs path = true) (hvn : vn s = true) (hp : IntsIn w pv path) (hpl : Reads w lv pl) (hll : pl.length ≤ 9000000) :
    Calls Tryz.prog 81 #[.agg #[v], pv, .string (mk s), lv] w fun e w' => e = .returned (.bool ((edgesOf fs path s).all (fun y => decide (y ∈ pl)) && (decide (parentOf s = []) || decide (parentOf s ∈ pl)))) ∧ Below w.heap.size w w' := by
  have Hr := Lib.hid hr
  have Hz := Lib.hid hz
  have Hp := Lib.hid hp
  have Hpl := Lib.hid hpl
  obtain ⟨aa, ca, rfl, hl, hm⟩ := hr.len
  obtain ⟨la, lc, rfl⟩ := reads_form hpl
  have hs8 : s.length ≤ 8000000 := Nat.le_trans (vn_len hvn) (by omega)
  have hel := (edgesOf_ok fs path s).2.2
  obtain ⟨es, hes⟩ : ∃ es, es = edgesOf fs path s := ⟨_, rfl⟩
  obtain ⟨p, hpp⟩ : ∃ p, p = parentOf s := ⟨_, rfl⟩
  rw [← hes] at hel
  rw [← hes, ← hpp]
  have Hes := Lib.hid hes.symm
  have Hpp := Lib.hid (show parent s = p by rw [hpp, parentOf_of hvn])
  have Hlk := Lib.hid hlk
  have Hvn := Lib.hid hvn
  clear hr hz hp hpl hl hm hes hpp hlk hvn
  go_enter Tryz.func81, Tryz.ntmps81
  go_wp2_with (go_at_call 99; refine (spec_edges _ fs D _ path s _ (Hr.out.below (by (repeat (with_reducible first | exact Below.refl _ _ | assumption | refine ba ?_ _ | refine bd ?_ | refine bdN ?_ _ | refine bs ?_ (by first | exact Nat.le_refl _ | (dsimp only; omega) | (simp; done)) _ | refine bt ?_ (by assumption))))) Hz.out Hlk.out Hvn.out (Hp.out.below (by (repeat (with_reducible first | exact Below.refl _ _ | assumption | refine ba ?_ _ | refine bd ?_ | refine bdN ?_ _ | refine bs ?_ (by first | exact Nat.le_refl _ | (dsimp only; omega) | (simp; done)) _ | refine bt ?_ (by assumption)))))).mono ?_; rintro _ w5 ⟨v5, rfl, hown5, hb5⟩; rw [Hes.out] at hown5; obtain ⟨a5, c5, rfl⟩ := owns_shape hown5; have R5 := Lib.hid (Reads.of_owns hown5); have Hb5 := Lib.hid (show Below w.heap.size w w5 by (repeat (with_reducible first | exact Below.refl _ _ | assumption | refine ba ?_ _ | refine bd ?_ | refine bdN ?_ _ | refine bs ?_ (by first | exact Nat.le_refl _ | (dsimp only; omega) | (simp; done)) _ | refine bt ?_ (by assumption)))); clear hown5 hb5)
  go_loop [10] (fun jv => ∃ j : Nat, j ≤ es.length ∧ jv = .int .i64 j ∧ ∀ i (h : i < es.length), i < j → es[i] ∈ pl) (fun jv => es.length - (intOf jv).toNat)
  case atStart => exact ⟨0, by omega, rfl, fun i _ h => absurd h (by omega)⟩
  case round =>
    obtain ⟨j, hj, rfl, hall⟩ := hrel
    have Hall := Lib.hid hall
    clear hall
    by_cases hjl : j < es.length
    · obtain ⟨b1, o1, c1, e1, _, _, _, hc1⟩ := Reads.some R5.out (by omega)
      simp only [Value.slice.injEq] at e1
      obtain ⟨rfl, _, rfl⟩ := e1
      have hcb := hc1 j hjl
      clear hc1
      by_cases hm : es[j] ∈ pl
      · have Hall2 := Lib.hid (show ∀ i (h : i < es.length), i < j + 1 → es[i] ∈ pl from fun i h hij => by
          rcases Nat.lt_succ_iff_lt_or_eq.1 hij with h1 | h1
          · exact Hall.out i h h1
          · subst h1; exact hm)
        have Hm := Lib.hid (decide_eq_true hm)
        clear hm
        obtain ⟨y, hy⟩ : ∃ y, y = es[j] := ⟨_, rfl⟩
        rw [← hy] at hcb Hm
        clear hy
        go_wp2_with (go_at_call 80; refine (spec_hasText _ pl y _ (Hpl.out.below (bt Hb5.out (by (repeat (with_reducible first | exact Below.refl _ _ | assumption | refine ba ?_ _ | refine bd ?_ | refine bdN ?_ _ | refine bs ?_ (by first | exact Nat.le_refl _ | (dsimp only; omega) | (simp; done)) _ | refine bt ?_ (by assumption)))))) (by omega)).mono ?_; rintro _ _ ⟨rfl, rfl⟩; rw [Hm.out])
        go_round
        case rel => exact ⟨j + 1, by omega, by go_num, Hall2.out⟩
        case measure => simp [intOf]; omega
      · have hne : es.all (fun y => decide (y ∈ pl)) = false := by rw [List.all_eq_false]; exact ⟨_, List.getElem_mem hjl, by simp [hm]⟩
        have Hne := Lib.hid hne
        have Hm := Lib.hid (decide_eq_false hm)
        clear hm hne
        obtain ⟨y, hy⟩ : ∃ y, y = es[j] := ⟨_, rfl⟩
        rw [← hy] at hcb Hm
        clear hy
        go_wp2_with (go_at_call 80; refine (spec_hasText _ pl y _ (Hpl.out.below (bt Hb5.out (by (repeat (with_reducible first | exact Below.refl _ _ | assumption | refine ba ?_ _ | refine bd ?_ | refine bdN ?_ _ | refine bs ?_ (by first | exact Nat.le_refl _ | (dsimp only; omega) | (simp; done)) _ | refine bt ?_ (by assumption)))))) (by omega)).mono ?_; rintro _ _ ⟨rfl, rfl⟩; rw [Hm.out])
        go_ret
        exact ⟨by rw [Hne.out]; simp, Hb5.out⟩
    · obtain rfl : j = es.length := by omega
      have Hat := Lib.hid (show es.all (fun y => decide (y ∈ pl)) = true by
        rw [List.all_eq_true]
        intro x hx
        obtain ⟨i, hi, rfl⟩ := List.getElem_of_mem hx
        exact decide_eq_true (Hall.out i hi hi))
      by_cases hp0 : p = []
      · subst hp0
        go_wp2_with (go_at_call 121; refine (spec_parent s _ hs8).mono ?_; rintro _ w6 ⟨rfl, hb6⟩; rw [Hpp.out]; have Hb6 := Lib.hid (bt Hb5.out hb6); clear hb6)
        go_ret
        exact ⟨by rw [Hat.out]; simp, Hb6.out⟩
      · have hie : List.isEmpty p = false := by simp [List.isEmpty_iff, hp0]
        have Hp0 := Lib.hid hp0
        clear hp0
        go_wp2_with (first
          | (go_at_call 121; refine (spec_parent s _ hs8).mono ?_; rintro _ w7 ⟨rfl, hb7⟩; rw [Hpp.out]; have Hb7 := Lib.hid (bt Hb6.out hb7); clear hb7)
          | (go_at_call 121; refine (spec_parent s _ hs8).mono ?_; rintro _ w6 ⟨rfl, hb6⟩; rw [Hpp.out]; have Hb6 := Lib.hid (bt Hb5.out hb6); clear hb6)
          | (go_at_call 80; refine (spec_hasText _ pl p _ (Hpl.out.below (bt Hb7.out (by (repeat (with_reducible first | exact Below.refl _ _ | assumption | refine ba ?_ _ | refine bd ?_ | refine bdN ?_ _ | refine bs ?_ (by first | exact Nat.le_refl _ | (dsimp only; omega) | (simp; done)) _ | refine bt ?_ (by assumption)))))) (by omega)).mono ?_; rintro _ _ ⟨rfl, rfl⟩))
        go_ret
        exact ⟨by rw [Hat.out]; simp [Hp0.out], Hb7.out⟩
set_option maxRecDepth 100000 in
set_option maxHeartbeats 8000000 in
theorem spec_LayersOf (v : Value) (fs : List Fil) (D : Nat → Prop) (pv : Value) (path : List Int) (s : Bs) (w : World) (hr : FilsIn w D v fs) (hz : ShortT 2000000 fs) (hp : IntsIn w pv path) (hsl : s.length ≤ 8000000) :
    Calls Tryz.prog 32 #[.agg #[v], pv, .string (mk s)] w (NewSS (layersOf fs path s) w) := by
  have Hr := Lib.hid hr
  have Hz := Lib.hid hz
  have Hz3 := Lib.hid (short2 (B := 3000000) (by omega) hz)
  have Hp := Lib.hid hp
  obtain ⟨aa, ca, rfl, hl, hm⟩ := hr.len
  obtain ⟨pa, pc, rfl, hl1, hm1⟩ := hp.len
  clear hr hz hp hl hm hl1 hm1
  have Hb0 := Lib.hid (Nm.Boxed.start w #[.slice aa fs.length ca] 31)
  have Hrv := Lib.hid (show vn s = false → layersOf fs path s = [] from fun h => layersOf_no (.inr h))
  cases h1 : okTree fs
  · have H1 := Lib.hid h1
    have Hn := Lib.hid (show layersOf fs path s = [] from layersOf_no (.inl (by unfold okLook; rw [h1]; simp)))
    clear h1
    go_enter Tryz.func32, Tryz.ntmps32
    go_wp2_with (first
      | (go_at_call 61; refine (spec_validTree _ fs D _ (Hr.out.below (by have := Hb0.out.below; (repeat (with_reducible first | exact Below.refl _ _ | assumption | refine ba ?_ _ | refine bd ?_ | refine bdN ?_ _ | refine bs ?_ (by first | exact Nat.le_refl _ | (dsimp only; omega) | (simp; done)) _ | refine bt ?_ (by assumption))))) Hz3.out).mono ?_; rintro _ w5 ⟨rfl, hb5⟩; rw [H1.out]; have Hx5 := Lib.hid (Hb0.out.step hb5); clear hb5; have a0 : w5.cell? ⟨w.heap.size, 0, none⟩ = some (.slice aa fs.length ca) := Hx5.out.cell 0))
    go_ret
    have hbw := Hx5.out.below
    exact noSS Hn.out (by (repeat (with_reducible first | exact Below.refl _ _ | assumption | refine ba ?_ _ | refine bd ?_ | refine bdN ?_ _ | refine bs ?_ (by first | exact Nat.le_refl _ | (dsimp only; omega) | (simp; done)) _ | refine bt ?_ (by assumption))))
  cases h2 : okPath path
  · have H1 := Lib.hid h1
    have H2 := Lib.hid h2
    have Hn := Lib.hid (show layersOf fs path s = [] from layersOf_no (.inl (by unfold okLook; rw [h2]; simp)))
    clear h1 h2
    go_enter Tryz.func32, Tryz.ntmps32
    go_wp2_with (first
      | (go_at_call 61; refine (spec_validTree _ fs D _ (Hr.out.below (by have := Hb0.out.below; (repeat (with_reducible first | exact Below.refl _ _ | assumption | refine ba ?_ _ | refine bd ?_ | refine bdN ?_ _ | refine bs ?_ (by first | exact Nat.le_refl _ | (dsimp only; omega) | (simp; done)) _ | refine bt ?_ (by assumption))))) Hz3.out).mono ?_; rintro _ w5 ⟨rfl, hb5⟩; rw [H1.out]; have Hx5 := Lib.hid (Hb0.out.step hb5); clear hb5; have a0 : w5.cell? ⟨w.heap.size, 0, none⟩ = some (.slice aa fs.length ca) := Hx5.out.cell 0)
      | (go_at_call 62; refine (spec_validPath _ path _ (Hp.out.below (by have := Hx5.out.below; (repeat (with_reducible first | exact Below.refl _ _ | assumption | refine ba ?_ _ | refine bd ?_ | refine bdN ?_ _ | refine bs ?_ (by first | exact Nat.le_refl _ | (dsimp only; omega) | (simp; done)) _ | refine bt ?_ (by assumption)))))).mono ?_; rintro _ w6 ⟨rfl, hb6⟩; rw [H2.out]; have Hx6 := Lib.hid (Hx5.out.step hb6); clear hb6; clear a0; have a0 : w6.cell? ⟨w.heap.size, 0, none⟩ = some (.slice aa fs.length ca) := Hx6.out.cell 0))
    go_ret
    have hbw := Hx6.out.below
    exact noSS Hn.out (by (repeat (with_reducible first | exact Below.refl _ _ | assumption | refine ba ?_ _ | refine bd ?_ | refine bdN ?_ _ | refine bs ?_ (by first | exact Nat.le_refl _ | (dsimp only; omega) | (simp; done)) _ | refine bt ?_ (by assumption))))
  cases h3 : vn s
  · have H1 := Lib.hid h1
    have H2 := Lib.hid h2
    have H3 := Lib.hid h3
    have Hn := Lib.hid (Hrv.out h3)
    clear h1 h2 h3
    go_enter Tryz.func32, Tryz.ntmps32
    go_wp2_with (first
      | (go_at_call 61; refine (spec_validTree _ fs D _ (Hr.out.below (by have := Hb0.out.below; (repeat (with_reducible first | exact Below.refl _ _ | assumption | refine ba ?_ _ | refine bd ?_ | refine bdN ?_ _ | refine bs ?_ (by first | exact Nat.le_refl _ | (dsimp only; omega) | (simp; done)) _ | refine bt ?_ (by assumption))))) Hz3.out).mono ?_; rintro _ w5 ⟨rfl, hb5⟩; rw [H1.out]; have Hx5 := Lib.hid (Hb0.out.step hb5); clear hb5; have a0 : w5.cell? ⟨w.heap.size, 0, none⟩ = some (.slice aa fs.length ca) := Hx5.out.cell 0)
      | (go_at_call 62; refine (spec_validPath _ path _ (Hp.out.below (by have := Hx5.out.below; (repeat (with_reducible first | exact Below.refl _ _ | assumption | refine ba ?_ _ | refine bd ?_ | refine bdN ?_ _ | refine bs ?_ (by first | exact Nat.le_refl _ | (dsimp only; omega) | (simp; done)) _ | refine bt ?_ (by assumption)))))).mono ?_; rintro _ w6 ⟨rfl, hb6⟩; rw [H2.out]; have Hx6 := Lib.hid (Hx5.out.step hb6); clear hb6; clear a0; have a0 : w6.cell? ⟨w.heap.size, 0, none⟩ = some (.slice aa fs.length ca) := Hx6.out.cell 0)
      | (go_at_call 63; refine (spec_validName s _ hsl).mono ?_; rintro _ w7 ⟨rfl, hb7⟩; rw [H3.out]; have Hx7 := Lib.hid (Hx6.out.step hb7); clear hb7; clear a0; have a0 : w7.cell? ⟨w.heap.size, 0, none⟩ = some (.slice aa fs.length ca) := Hx7.out.cell 0))
    go_ret
    have hbw := Hx7.out.below
    exact noSS Hn.out (by (repeat (with_reducible first | exact Below.refl _ _ | assumption | refine ba ?_ _ | refine bd ?_ | refine bdN ?_ _ | refine bs ?_ (by first | exact Nat.le_refl _ | (dsimp only; omega) | (simp; done)) _ | refine bt ?_ (by assumption))))
  have H1 := Lib.hid h1
  have H2 := Lib.hid h2
  have H3 := Lib.hid h3
  have Hlk := Lib.hid (okLook_of h1 h2)
  have hna : namesAbove s = above s := by simp [namesAbove, h3]
  obtain ⟨ns, hns⟩ : ∃ ns, ns = above s := ⟨_, rfl⟩
  have Hns := Lib.hid hns
  have hn3 : ns.length ≤ 3 := by rw [hns, ← hna]; exact namesAbove_le3 s
  have hn1 : 1 ≤ ns.length := by rw [hns]; exact List.length_pos_iff.2 (above_pos s)
  have Hnd := Lib.hid (show ns.Nodup by rw [hns, ← hna]; exact namesAbove_nodup s)
  have Hnv := Lib.hid (show ∀ x ∈ ns, vn x = true by rw [hns]; exact above_vn h3)
  have Hle := Lib.hid (fun pl => layer_eq (s := s) Hlk.out pl)
  rw [hna, ← hns] at Hle
  obtain ⟨R, hR⟩ : ∃ R, R = reachOf fs path s := ⟨_, rfl⟩
  have hRl : R.length = (reachAll fs path ns).length := by
    have h := fun x => reachOf_mem (s := s) (x := x) Hlk.out
    rw [hna, ← hns, ← hR] at h
    exact Nat.le_antisymm (nodup_leB _ _ (by rw [hR]; exact (reachOf_facts fs path s).2.2) (fun x hx => (h x).1 hx)) (nodup_leB _ _ (reachAll_nodup Hnd.out) (fun x hx => (h x).2 hx))
  have Hlo := Lib.hid (show layersOf fs path s = (layersGo (edgesOf fs path) 400 R).getD [] by rw [hR]; rfl)
  rw [← hR] at Hle
  generalize layersOf fs path s = lo at *
  obtain ⟨L, hL⟩ : ∃ L, L = reachAll fs path ns := ⟨_, rfl⟩
  rw [← hL] at hRl Hle
  have hLl : L.length ≤ 291 := by rw [hL]; have := reachAll_len (t := fs) (path := path) (okLook_tree Hlk.out) Hnd.out; omega
  have HL := Lib.hid hL
  have Hvl := Lib.hid (show ∀ x ∈ L, vn x = true by rw [hL]; exact reachAll_vn (fun x hx => by rw [hns] at hx; exact above_vn h3 x hx))
  have h3l := okPath_len h2
  obtain ⟨i0, hi, hz0, hz1, hz2⟩ := info_parts infoS
  have Hi := Lib.hid hi
  have Hz0 := Lib.hid hz0
  have Hz1 := Lib.hid hz1
  have Hz2 := Lib.hid hz2
  obtain ⟨i1, hj, hy0, hy1, hy2⟩ := info_parts infoSS
  have Hj := Lib.hid hj
  have Hy0 := Lib.hid hy0
  have Hy1 := Lib.hid hy1
  have Hy2 := Lib.hid hy2
  clear h1 h2 h3 hna hns hL hR hi hz0 hz1 hz2 hj hy0 hy1 hy2
  go_enter Tryz.func32, Tryz.ntmps32
  go_wp2_with (first
    | (go_at_call 61; refine (spec_validTree _ fs D _ (Hr.out.below (by have := Hb0.out.below; (repeat (with_reducible first | exact Below.refl _ _ | assumption | refine ba ?_ _ | refine bd ?_ | refine bdN ?_ _ | refine bs ?_ (by first | exact Nat.le_refl _ | (dsimp only; omega) | (simp; done)) _ | refine bt ?_ (by assumption))))) Hz3.out).mono ?_; rintro _ w5 ⟨rfl, hb5⟩; rw [H1.out]; have Hx5 := Lib.hid (Hb0.out.step hb5); clear hb5; have a0 : w5.cell? ⟨w.heap.size, 0, none⟩ = some (.slice aa fs.length ca) := Hx5.out.cell 0)
    | (go_at_call 62; refine (spec_validPath _ path _ (Hp.out.below (by have := Hx5.out.below; (repeat (with_reducible first | exact Below.refl _ _ | assumption | refine ba ?_ _ | refine bd ?_ | refine bdN ?_ _ | refine bs ?_ (by first | exact Nat.le_refl _ | (dsimp only; omega) | (simp; done)) _ | refine bt ?_ (by assumption)))))).mono ?_; rintro _ w6 ⟨rfl, hb6⟩; rw [H2.out]; have Hx6 := Lib.hid (Hx5.out.step hb6); clear hb6; clear a0; have a0 : w6.cell? ⟨w.heap.size, 0, none⟩ = some (.slice aa fs.length ca) := Hx6.out.cell 0)
    | (go_at_call 63; refine (spec_validName s _ hsl).mono ?_; rintro _ w7 ⟨rfl, hb7⟩; rw [H3.out]; have Hx7 := Lib.hid (Hx6.out.step hb7); clear hb7; clear a0; have a0 : w7.cell? ⟨w.heap.size, 0, none⟩ = some (.slice aa fs.length ca) := Hx7.out.cell 0; have hlt7 := Hx7.out.lt))
  have Hk := Lib.hid (fun (w' : World) (hC : Below w7.heap.size w7 w') => (⟨(Hx7.out.step hC).cell 0, hC⟩ : w'.cell? ⟨w.heap.size, 0, none⟩ = some (.slice aa fs.length ca) ∧ Below w7.heap.size w7 w'))
  go_region_held3 (fun w' => w'.cell? ⟨w.heap.size, 0, none⟩ = some (.slice aa fs.length ca) ∧ Below w7.heap.size w7 w')
    (first | exact Hk.out _ Hb10.out | exact Hk.out _ Hb9.out | exact Hk.out _ (by (repeat (with_reducible first | exact Below.refl _ _ | assumption | refine ba ?_ _ | refine bd ?_ | refine bdN ?_ _ | refine bs ?_ (by first | exact Nat.le_refl _ | (dsimp only; omega) | (simp; done)) _ | refine bt ?_ (by assumption)))))
    (first
      | (go_at_call 65; refine (spec_above s _ hsl).mono ?_; rintro _ w9 ⟨v9, rfl, hown9, hb9⟩; rw [← Hns.out] at hown9; obtain ⟨a9, c9, hv9⟩ := owns_shape hown9; subst hv9; have R9 := Lib.hid (Reads.of_owns hown9); have Hb9 := Lib.hid (show Below w7.heap.size w7 w9 by (repeat (with_reducible first | exact Below.refl _ _ | assumption | refine ba ?_ _ | refine bd ?_ | refine bdN ?_ _ | refine bs ?_ (by first | exact Nat.le_refl _ | (dsimp only; omega) | (simp; done)) _ | refine bt ?_ (by assumption)))); clear hown9 hb9)
      | (go_at_call 64; refine (spec_reach _ fs D _ path _ ns _ (Hr.out.below (bt Hx7.out.below (by first | exact Hb9.out | (have := Hb9.out; (repeat (with_reducible first | exact Below.refl _ _ | assumption | refine ba ?_ _ | refine bd ?_ | refine bdN ?_ _ | refine bs ?_ (by first | exact Nat.le_refl _ | (dsimp only; omega) | (simp; done)) _ | refine bt ?_ (by assumption))))))) Hz.out Hlk.out (Hp.out.below (bt Hx7.out.below (by first | exact Hb9.out | (have := Hb9.out; (repeat (with_reducible first | exact Below.refl _ _ | assumption | refine ba ?_ _ | refine bd ?_ | refine bdN ?_ _ | refine bs ?_ (by first | exact Nat.le_refl _ | (dsimp only; omega) | (simp; done)) _ | refine bt ?_ (by assumption))))))) (Reads.below R9.out (by (repeat (with_reducible first | exact Below.refl _ _ | assumption | refine ba ?_ _ | refine bd ?_ | refine bdN ?_ _ | refine bs ?_ (by first | exact Nat.le_refl _ | (dsimp only; omega) | (simp; done)) _ | refine bt ?_ (by assumption))))) hn1 (by omega) Hnd.out Hnv.out).mono ?_; rintro _ w10 ⟨v10, rfl, hown10, hb10⟩; rw [← HL.out] at hown10; obtain ⟨a10, c10, hv10⟩ := owns_shape hown10; subst hv10; have Hl10 := Lib.hid (owns_mono hown10 (show w7.heap.size ≤ _ from Nat.le_trans Hb9.out.size (by first | exact Nat.le_refl _ | exact (show Below _ _ _ by (repeat (with_reducible first | exact Below.refl _ _ | assumption | refine ba ?_ _ | refine bd ?_ | refine bdN ?_ _ | refine bs ?_ (by first | exact Nat.le_refl _ | (dsimp only; omega) | (simp; done)) _ | refine bt ?_ (by assumption)))).size))); have Hb10 := Lib.hid (Hb9.out.trans (hb10.mono Hb9.out.size)); clear hown10 hb10))
  have HX10 := Lib.hid (Hx7.out.step Hb10.out)
  have hx10 := HX10.out.lt
  have HL10 := Lib.hid Hl10.out
  obtain ⟨N, hN⟩ : ∃ N, N = w10.heap.size := ⟨_, rfl⟩
  have HP11 := Lib.hid (show ((w10.alloc (.cells #[] 9)).alloc (.cells #[] 27)).ownsRow N 9 1 (.slice (some ⟨w10.heap.size, 0, none⟩) 0 0) 0 [] from (World.ownsRow_lit (size := 1) w10 #[] 0 (Nat.le_of_eq hN) (by unfold maxLen; omega) rfl).alloc _)
  have HO11 := Lib.hid (show ((w10.alloc (.cells #[] 9)).alloc (.cells #[] 27)).ownsRow N 27 1 (.slice (some ⟨(w10.alloc (.cells #[] 9)).heap.size, 0, none⟩) 0 0) 0 [] from World.ownsRow_lit (size := 1) (w10.alloc (.cells #[] 9)) #[] 0 (by rw [hN]; simp) (by unfold maxLen; omega) rfl)
  simp only [World.size_alloc] at HO11
  have HN := Lib.hid hN
  have hNle : N = w10.heap.size := hN
  clear a0 Hx7 Hx6 Hx5 hN
  go_wp2_with fail
  go_loopg [8, 9] L.length (fun g pv2 ov wr => ∃ (pl : List Bs) (vs : List (Value × List Bs)), (R.filter (fun x => decide (x ∉ pl))).length = g ∧ pl.length + g = L.length ∧ vs.length ≤ pl.length ∧ wr.ownsRow N 9 1 pv2 pl.length (pl.map sv) ∧ OwnSS wr N ov vs ∧ (∀ b, pv2.ownBlock = some b → ov.ownBlock ≠ some b ∧ ∀ p ∈ vs, p.1.ownBlock ≠ some b) ∧ Below w10.heap.size w10 wr ∧ layersGo (edgesOf fs path) 400 R = (layersGo (edgesOf fs path) 400 (R.filter (fun x => decide (x ∉ pl)))).map (fun l => vs.map (·.2) ++ l))
  case atStart =>
    refine ⟨[], [], by rw [← hRl]; congr 1; exact List.filter_eq_self.2 (fun x _ => by simp), by simp, by simp, HP11.out, ⟨HO11.out, by simp, List.Pairwise.nil⟩, ?_, ba (ba (Below.refl _ _) _) _, ?_⟩
    · intro b hb
      simp [Value.ownBlock] at hb ⊢
      omega
    · rw [List.filter_eq_self.2 (fun x _ => by simp)]; simp
  case round =>
    obtain ⟨pl, vs, hg, hpg, hvp, hpo, hos, hap, hbel, hgo⟩ := hrel
    obtain ⟨pla, plc, rfl⟩ := owns_shape hpo
    obtain ⟨ova, ovc, rfl⟩ := owns_shape hos.1
    have Hpo := Lib.hid hpo
    have Hos := Lib.hid hos
    have Hap := Lib.hid hap
    have Hbel := Lib.hid hbel
    have Hgo := Lib.hid hgo
    have Hle2 := Lib.hid (Hle.out pl)
    have hzr := hbel.size
    clear hpo hos hap hbel hgo HP11 HO11
    obtain ⟨r, hr⟩ : ∃ r, r = R.filter (fun x => decide (x ∉ pl)) := ⟨_, rfl⟩
    have Hrr := Lib.hid hr
    rw [← hr] at hg Hgo Hle2
    clear hr
    by_cases hgz : pl.length < L.length
    · obtain ⟨pr, hpr⟩ : ∃ pr : Bs → Bool, pr = fun x => decide (x ∉ pl) && ((edgesOf fs path x).all (fun y => decide (y ∈ pl)) && (decide (parentOf x = []) || decide (parentOf x ∈ pl))) := ⟨_, rfl⟩
      rw [← hpr] at Hle2
      have Hpr := Lib.hid (show ∀ x, pr x = (decide (x ∉ pl) && ((edgesOf fs path x).all (fun y => decide (y ∈ pl)) && (decide (parentOf x = []) || decide (parentOf x ∈ pl)))) by rw [hpr]; exact fun _ => rfl)
      clear hpr
      generalize wr = wo at *
      have HE := Lib.hid (show (wo.alloc (.cells #[] 9)).ownsRow wo.heap.size 9 1 (.slice (some ⟨wo.heap.size, 0, none⟩) 0 0) 0 [] from World.ownsRow_lit (size := 1) wo #[] 0 (Nat.le_refl _) (by unfold maxLen; omega) rfl)
      go_wp2_with fail
      go_loopw [10, 11] (fun nv kv wr => ∃ (k gq cp : Nat), k ≤ L.length ∧ kv = .int .i64 k ∧ nv = .slice (some ⟨gq, 0, none⟩) (((L.take k).filter pr).foldl insTo []).length cp ∧ wr.ownsRow wo.heap.size 9 1 (.slice (some ⟨gq, 0, none⟩) (((L.take k).filter pr).foldl insTo []).length cp) (((L.take k).filter pr).foldl insTo []).length ((((L.take k).filter pr).foldl insTo []).map sv) ∧ Below wo.heap.size wo wr) (fun _ kv _ => L.length - (intOf kv).toNat)
      case atStart => exact ⟨0, wo.heap.size, 0, by omega, rfl, rfl, HE.out, ba (Below.refl _ _) _⟩
      case round =>
        obtain ⟨k, gq, cp, hk, rfl, rfl, hown, hbx⟩ := hrel
        have Hown := Lib.hid hown
        have Hbx := Lib.hid hbx
        have hzx := hbx.size
        have Hup := Lib.hid (show Up (((L.take k).filter pr).foldl insTo []) from foldIns_up _ (by simp [Up]))
        have hlj : (((L.take k).filter pr).foldl insTo []).length ≤ 291 := Nat.le_trans (foldIns_len _ _) (by have := List.length_filter_le pr (L.take k); rw [List.length_take] at this; simp; omega)
        clear hown hbx HE
        have HXx := Lib.hid (HX10.out.step (bt Hbel.out Hbx.out))
        have hA : wr.cell? ⟨w.heap.size, 0, none⟩ = some (.slice aa fs.length ca) := HXx.out.cell 0
        have HLx := Lib.hid (owns_below HL10.out (bt Hbel.out Hbx.out))
        have HPx := Lib.hid (Reads.of_owns (owns_below Hpo.out Hbx.out))
        by_cases hlt : k < L.length
        · obtain ⟨gl, cl, el, hgl1, hgl2⟩ := HLx.out.form (by omega)
          simp only [Value.slice.injEq] at el
          obtain ⟨rfl, _, rfl⟩ := el
          have hcj : wr.cell? ⟨gl, k, none⟩ = some (.string (mk L[k])) := by
            rw [HLx.out.cellAt k (by omega), List.getElem?_map, List.getElem?_eq_getElem hlt]; rfl
          have hvy := Hvl.out _ (List.getElem_mem hlt)
          have Hvy := Lib.hid hvy
          have hyl : L[k].length ≤ 8000000 := Nat.le_trans (vn_len hvy) (by omega)
          have Hsn := Lib.hid (filterM_snoc pr L k hlt)
          have hk1 : (k : Int) < (L.length : Int) := by omega
          have hk0 : (0 : Int) ≤ (k : Int) := by omega
          clear hvy
          obtain ⟨y, hy⟩ : ∃ y, y = L[k] := ⟨_, rfl⟩
          rw [← hy] at hcj Hvy hyl Hsn
          clear hy
          have Hpy := Lib.hid (Hpr.out y)
          generalize (L.take k).filter pr = F at *
          obtain ⟨M, hM⟩ : ∃ M, M = F.foldl insTo [] := ⟨_, rfl⟩
          have HM := Lib.hid hM.symm
          rw [← hM] at Hown Hup hlj
          rw [← hM]
          clear hM
          by_cases hmem : y ∈ pl
          · have Hm := Lib.hid (decide_eq_true hmem)
            have Hs2 := Lib.hid (show (L.take (k + 1)).filter pr = F by rw [Hsn.out, Hpy.out]; simp [hmem])
            clear hmem
            have kA := cell_regrown hA
            have kB := cell_regrown hcj
            have cP : ∀ d os, Calls Tryz.prog 80 #[.slice pla pl.length plc, .string (mk y)] (Go.Sort.grow (redrawn wr d) os) fun e w'' => e = .returned (.bool true) ∧ ∃ p : Regrown, w'' = Go.Sort.grow (redrawn wr p.d) p.os := fun d os => by
              have h := spec_hasText _ pl y (Go.Sort.grow (redrawn wr d) os) (Reads.below HPx.out (below_regrown wr d os)) (by omega)
              rw [Hm.out] at h
              exact h.mono (fun e w'' q => ⟨q.1, ⟨d, os⟩, q.2.symm⟩)
            go_wp2_with fail
            refine wp_region_quiet_below (by kernel_rfl) (by kernel_rfl) ?_
            repeat (go_big_quiet_step (exact cP _ _))
            refine wpQuiet_nil ?_
            intro _ hw'
            obtain ⟨⟨dq, osq⟩, hw2⟩ := hw'
            subst hw2
            have Hb9 := Lib.hid (below_regrown wr dq osq)
            clear cP kA kB
            go_wp2_with fail
            go_roundw
            case rel => exact ⟨k + 1, gq, cp, by omega, by go_num, by rw [Hs2.out, HM.out], by rw [Hs2.out, HM.out]; exact owns_below Hown.out Hb9.out, bt Hbx.out Hb9.out⟩
            case measure => simp [intOf]; omega
          · have Hm := Lib.hid (decide_eq_false hmem)
            have Hpy := Lib.hid (show pr y = ((edgesOf fs path y).all (fun z => decide (z ∈ pl)) && (decide (parentOf y = []) || decide (parentOf y ∈ pl))) by rw [Hpy.out]; simp [hmem])
            clear hmem
            obtain ⟨bq, hbq⟩ : ∃ bq, bq = ((edgesOf fs path y).all (fun z => decide (z ∈ pl)) && (decide (parentOf y = []) || decide (parentOf y ∈ pl))) := ⟨_, rfl⟩
            rw [← hbq] at Hpy
            have Hbq := Lib.hid hbq.symm
            clear hbq
            have Hk := Lib.hid (fun (w' : World) (hC : Below wr.heap.size wr w') => (⟨(HXx.out.step hC).cell 0, (hC.cell (p := ⟨gl, k, none⟩) hgl2).trans hcj, hC⟩ : w'.cell? ⟨w.heap.size, 0, none⟩ = some (.slice aa fs.length ca) ∧ w'.cell? ⟨gl, k, none⟩ = some (.string (mk y)) ∧ Below wr.heap.size wr w'))
            cases bq
            all_goals
              go_wp2_with fail
              go_region_held3 (fun w' => w'.cell? ⟨w.heap.size, 0, none⟩ = some (.slice aa fs.length ca) ∧ w'.cell? ⟨gl, k, none⟩ = some (.string (mk y)) ∧ Below wr.heap.size wr w')
                (first | exact Hk.out _ Hb9.out | exact Hk.out _ (by (repeat (with_reducible first | exact Below.refl _ _ | assumption | refine ba ?_ _ | refine bd ?_ | refine bdN ?_ _ | refine bs ?_ (by first | exact Nat.le_refl _ | (dsimp only; omega) | (simp; done)) _ | refine bt ?_ (by assumption)))))
                (first
                  | (go_at_call 80; refine (spec_hasText _ pl y _ (Reads.below HPx.out (by (repeat (with_reducible first | exact Below.refl _ _ | assumption | refine ba ?_ _ | refine bd ?_ | refine bdN ?_ _ | refine bs ?_ (by first | exact Nat.le_refl _ | (dsimp only; omega) | (simp; done)) _ | refine bt ?_ (by assumption))))) (by omega)).mono ?_; rintro _ _ ⟨rfl, rfl⟩; rw [Hm.out])
                  | (go_at_call 81; refine (spec_leadsOnlyTo _ fs D _ path y _ pl _ (Hr.out.below (bt HXx.out.below (by (repeat (with_reducible first | exact Below.refl _ _ | assumption | refine ba ?_ _ | refine bd ?_ | refine bdN ?_ _ | refine bs ?_ (by first | exact Nat.le_refl _ | (dsimp only; omega) | (simp; done)) _ | refine bt ?_ (by assumption)))))) Hz.out Hlk.out Hvy.out (Hp.out.below (bt HXx.out.below (by (repeat (with_reducible first | exact Below.refl _ _ | assumption | refine ba ?_ _ | refine bd ?_ | refine bdN ?_ _ | refine bs ?_ (by first | exact Nat.le_refl _ | (dsimp only; omega) | (simp; done)) _ | refine bt ?_ (by assumption)))))) (Reads.below HPx.out (by (repeat (with_reducible first | exact Below.refl _ _ | assumption | refine ba ?_ _ | refine bd ?_ | refine bdN ?_ _ | refine bs ?_ (by first | exact Nat.le_refl _ | (dsimp only; omega) | (simp; done)) _ | refine bt ?_ (by assumption))))) (by omega)).mono ?_; rintro _ w9 ⟨rfl, hb9⟩; rw [Hbq.out]; have Hb9 := Lib.hid (show Below wr.heap.size wr w9 by (repeat (with_reducible first | exact Below.refl _ _ | assumption | refine ba ?_ _ | refine bd ?_ | refine bdN ?_ _ | refine bs ?_ (by first | exact Nat.le_refl _ | (dsimp only; omega) | (simp; done)) _ | refine bt ?_ (by assumption)))); clear hb9))
            · have Hs2 := Lib.hid (show (L.take (k + 1)).filter pr = F by rw [Hsn.out, Hpy.out]; simp)
              go_wp2_with fail
              go_roundw
              case rel => exact ⟨k + 1, gq, cp, by omega, by go_num, by rw [Hs2.out, HM.out], by rw [Hs2.out, HM.out]; exact owns_below Hown.out Hb9.out, bt Hbx.out Hb9.out⟩
              case measure => simp [intOf]; omega
            · have Hs2 := Lib.hid (show ((L.take (k + 1)).filter pr).foldl insTo [] = insTo M y by rw [Hsn.out, Hpy.out, if_pos rfl, List.foldl_append, HM.out]; rfl)
              have hz9 := Hb9.out.size
              have Hown9 := Lib.hid (owns_below Hown.out Hb9.out)
              have hcj9 : w9.cell? ⟨gl, k, none⟩ = some (.string (mk y)) := (Hb9.out.cell (p := ⟨gl, k, none⟩) hgl2).trans hcj
              go_wp2_with (go_at_call 67; refine (spec_insertText wo.heap.size gq cp M y _ Hown9.out Hup.out (by omega) (by omega)).mono ?_; rintro _ w12 ⟨g7, c7, rfl, hown7, hb7, ht7, hq7⟩)
              have Hown7 := Lib.hid hown7
              have Hb12 := Lib.hid (show Below wo.heap.size wo w12 from (bt Hbx.out Hb9.out).trans hb7)
              clear hown7 hb7 ht7 hq7
              go_roundw
              case rel => exact ⟨k + 1, g7, c7, by omega, by go_num, by rw [Hs2.out], by rw [Hs2.out]; exact Hown7.out, Hb12.out⟩
              case measure => simp [intOf]; omega
        · obtain rfl : k = L.length := by omega
          rw [List.take_length] at Hown hlj Hup ⊢
          obtain ⟨A, hA2⟩ : ∃ A, A = (L.filter pr).foldl insTo [] := ⟨_, rfl⟩
          rw [← hA2] at Hown hlj Hup Hle2
          rw [← hA2]
          have HA := Lib.hid Hle2.out
          clear hA2 hA
          have hrl : r.length < 400 := by omega
          have hr0 : r ≠ [] := by intro e; rw [e] at hg; simp at hg; omega
          have hfl := filter_split_len (freeOf (edgesOf fs path) r) r
          rw [← HA.out] at hfl
          by_cases hA0 : A.length = 0
          · have hno := layers_ring Hgo.out hrl hr0 (by rw [← HA.out]; exact List.length_eq_zero_iff.1 hA0)
            have HNo := Lib.hid (show lo = [] by rw [Hlo.out, hno]; rfl)
            clear hno hr0
            have hAi : ((A.length : Int) == 0) = true := by simp [hA0]
            have HE := Lib.hid (show (wr.alloc (.cells #[] 27)).ownsRow w.heap.size 27 1 (.slice (some ⟨wr.heap.size, 0, none⟩) 0 0) 0 [] from World.ownsRow_lit (size := 1) wr #[] 0 (by omega) (by unfold maxLen; omega) rfl)
            have Hbw := Lib.hid (bt HX10.out.below (bt Hbel.out Hbx.out))
            go_wp2_with fail
            go_ret
            exact ⟨_, [], rfl, by rw [HNo.out]; rfl, ⟨HE.out, by simp, List.Pairwise.nil⟩, ba Hbw.out _⟩
          · have hgo2 := layers_round Hgo.out hrl hr0 (by rw [← HA.out]; intro e; rw [e] at hA0; simp at hA0)
            rw [← HA.out] at hgo2
            have Hst := Lib.hid (show r.filter (fun x => !freeOf (edgesOf fs path) r x) = R.filter (fun x => decide (x ∉ pl ++ A)) by
              have h := rest_step (R := R) (pl := pl) (F := freeOf (edgesOf fs path) r)
              rw [← Hrr.out] at h
              rw [h, ← HA.out])
            rw [Hst.out] at hgo2 hfl
            have Hgo2 := Lib.hid hgo2
            clear hgo2 hr0
            have hAi : ((A.length : Int) == 0) = false := by rw [beq_eq_false_iff_ne]; omega
            have Hpx := Lib.hid (owns_below Hpo.out Hbx.out)
            have Hos3 := Lib.hid (Hos.out.below Hbx.out)
            go_wp2_with (first
              | (at_builtin; refine wpList_append_own_at _ rfl _ _ 27 rfl N 9 i0 (.string ByteArray.empty) 1 16 Tryz.underlying27 Hi.out Hz0.out Hz1.out Hz2.out rfl (by decide) _ pl.length _ rfl Hpx.out ⟨gq, 0, none⟩ A.length cp (A.map sv) rfl (by simp) (Hown.out.cells rfl) (fun x hx => by obtain ⟨b, _, rfl⟩ := List.mem_map.1 hx; rfl) (by unfold maxLen; omega) (by omega) (by omega) ?_; intro v14 w14 hown14 hgrow14 hnil14 hat14; have Hown14 := Lib.hid hown14; have Hg14 := Lib.hid (show wr.grownBy w14 (Value.slice pla pl.length plc).ownBlock from hgrow14); have Hat14 := Lib.hid (show v14.ownBlock = (Value.slice pla pl.length plc).ownBlock ∨ v14.ownBlock = some wr.heap.size from hat14); have Hos14 := Lib.hid (Hos3.out.grown Hg14.out (fun b h1 h2 => (Hap.out b h2).1 h1) (fun p hp b h1 h2 => (Hap.out b h2).2 p hp h1)); have hz14 := Hg14.out.size; clear hown14 hgrow14 hnil14 hat14)
              | (at_builtin; refine wpList_append_own_at _ rfl _ _ 44 rfl N 27 i1 (.slice none 0 0) 1 24 Tryz.underlying44 Hj.out Hy0.out Hy1.out Hy2.out rfl (by decide) _ vs.length _ rfl (Hos14.out.1.alloc _) ⟨_, 0, none⟩ 1 1 [.slice (some ⟨gq, 0, none⟩) A.length cp] rfl rfl (new_one (by first | rfl | simp)) (fun x hx => by simp at hx; subst hx; rfl) (by unfold maxLen; omega) (by omega) (by simp; omega) ?_; intro v16 w16 hown16 hgrow16 hnil16 hat16))
            have Hg16 := Lib.hid (show (w14.alloc (.cells #[.slice (some ⟨gq, 0, none⟩) A.length cp] 27)).grownBy w16 (Value.slice ova vs.length ovc).ownBlock from hgrow16)
            have Hat16 := Lib.hid (show v16.ownBlock = (Value.slice ova vs.length ovc).ownBlock ∨ v16.ownBlock = some (w14.heap.size + 1) by have h : v16.ownBlock = (Value.slice ova vs.length ovc).ownBlock ∨ v16.ownBlock = some (w14.alloc (.cells #[.slice (some ⟨gq, 0, none⟩) A.length cp] 27)).heap.size := hat16; rw [World.size_alloc] at h; exact h)
            have hplt : ∀ b, (Value.slice pla pl.length plc).ownBlock = some b → N ≤ b ∧ b < wo.heap.size := fun b hb => owns_block Hpo.out hb
            have hovt : ∀ b, (Value.slice ova vs.length ovc).ownBlock = some b → N ≤ b ∧ b < wo.heap.size := fun b hb => owns_block Hos.out.1 hb
            have hqt := owns_block Hown.out (b := gq) rfl
            have hlay14 := Lib.hid (owns_heap Hown.out (fun x hx => Hg14.out.block x (owns_block Hown.out hx).2 (fun e => by have h1 := (hplt x e.symm).2; have h2 := (owns_block Hown.out hx).1; omega)))
            have hs15 : (w14.alloc (.cells #[.slice (some ⟨gq, 0, none⟩) A.length cp] 27)).heap.size = w14.heap.size + 1 := by simp
            have Hos16 := Lib.hid (OwnSS.snoc (W := w14.alloc (.cells #[.slice (some ⟨gq, 0, none⟩) A.length cp] 27)) (Hos14.out.below (ba (Below.refl _ _) _)) (lv := .slice (some ⟨gq, 0, none⟩) A.length cp) (l := A) (owns_mono (owns_below hlay14.out (ba (Below.refl _ _) _)) (by omega)) (fun b hb e => by have h1 := (hovt b e).2; have h2 := (owns_block Hown.out hb).1; omega) (fun p hp b hb e => by have h1 := (owns_block (Hos.out.2.1 p hp).1 hb).2; have h2 := (owns_block Hown.out e).1; omega) Hg16.out (by rw [List.length_append, List.map_append]; exact hown16) (by rw [hs15]; exact Hat16.out))
            have hv14 : ∀ b, v14.ownBlock = some b → ((N ≤ b ∧ b < wo.heap.size ∧ (Value.slice pla pl.length plc).ownBlock = some b) ∨ b = wr.heap.size) := fun b hb => by
              rcases Hat14.out with h | h
              · left; rw [h] at hb; exact ⟨(hplt b hb).1, (hplt b hb).2, hb⟩
              · right; rw [h] at hb; simpa using hb.symm
            have hv14o : ∀ b, v14.ownBlock = some b → (Value.slice ova vs.length ovc).ownBlock ≠ some b := fun b hb e => by
              rcases hv14 b hb with ⟨_, _, h⟩ | h
              · exact (Hap.out b h).1 e
              · have := (hovt b e).2; omega
            have Hp16 := Lib.hid (show w16.ownsRow N 9 1 v14 (pl ++ A).length ((pl ++ A).map sv) by
              rw [List.length_append, List.map_append]
              exact owns_heap (Hown14.out.alloc _) (fun x hx => Hg16.out.block x (owns_block (Hown14.out.alloc _) hx).2 (fun e => hv14o x hx e.symm)))
            have Hap16 := Lib.hid (show ∀ b, v14.ownBlock = some b → v16.ownBlock ≠ some b ∧ ∀ p ∈ vs ++ [(.slice (some ⟨gq, 0, none⟩) A.length cp, A)], p.1.ownBlock ≠ some b from fun b hb => by
              have h14 := (owns_block Hown14.out hb).2
              refine ⟨fun e => ?_, fun p hp e => ?_⟩
              · rcases Hat16.out with h | h
                · rw [h] at e; exact hv14o b hb e
                · rw [h] at e; simp at e; omega
              · rcases List.mem_append.1 hp with hp | hp
                · rcases hv14 b hb with ⟨_, _, h⟩ | h
                  · exact (Hap.out b h).2 p hp e
                  · have := (owns_block (Hos.out.2.1 p hp).1 e).2; omega
                · obtain rfl := List.mem_singleton.1 hp
                  have hq : gq = b := by simpa [Value.ownBlock] using e
                  rcases hv14 b hb with ⟨_, h, _⟩ | h
                  · omega
                  · omega)
            have Hb16 := Lib.hid (show Below w10.heap.size w10 w16 from (ba ((bt Hbel.out Hbx.out).grown Hg14.out (by omega) (fun x hx => by have := (hplt x hx).1; omega)) (.cells #[.slice (some ⟨gq, 0, none⟩) A.length cp] 27)).grown Hg16.out (by rw [hs15]; omega) (fun x hx => by have := (hovt x hx).1; omega))
            clear hown16 hgrow16 hnil16 hat16 hv14 hv14o hplt hovt hqt hs15
            obtain ⟨pv14, pc14, hv14⟩ := owns_shape Hp16.out
            go_roundg (R.filter (fun x => decide (x ∉ pl ++ A))).length
            case measure => omega
            case rel => exact ⟨pl ++ A, vs ++ [(.slice (some ⟨gq, 0, none⟩) A.length cp, A)], rfl, by rw [List.length_append]; omega, by simp only [List.length_append, List.length_cons, List.length_nil]; omega, Hp16.out, Hos16.out, Hap16.out, Hb16.out, by rw [Hgo2.out]; simp⟩
    · have hr0 : r = [] := List.length_eq_zero_iff.1 (by omega)
      rw [hr0] at Hgo
      have hno := layers_end Hgo.out
      have HNo := Lib.hid (show lo = vs.map (·.2) by rw [Hlo.out, hno]; rfl)
      clear hno
      have Hbw := Lib.hid (bt HX10.out.below Hbel.out)
      go_wp2_with fail
      go_ret
      exact ⟨_, vs, rfl, HNo.out.symm, Hos.out.mono (by omega), Hbw.out⟩
/-! ### The laws' own looks at layers. -/
set_option maxRecDepth 100000 in
set_option maxHeartbeats 1000000 in
theorem laws_equalLayers (B1 B2 : Nat) (va vb : Value) (vs us : List (Value × List Bs)) (w : World) (h1 : OwnSS w B1 va vs) (h2 : OwnSS w B2 vb us) (he : vs.map (·.2) = us.map (·.2)) (hl : vs.length ≤ 400) (hx : ∀ p ∈ vs, p.2.length ≤ 9000000) :
    Calls Tryz.prog 59 #[va, vb] w fun e w' => e = .returned (.bool true) ∧ Below w.heap.size w w' := by
  have hlen : us.length = vs.length := by have := congrArg List.length he; simpa using this.symm
  obtain ⟨a1, c1, rfl⟩ := owns_shape h1.1
  obtain ⟨a2, c2, rfl⟩ := owns_shape h2.1
  have H1 := Lib.hid h1
  have H2 := Lib.hid h2
  have Hx := Lib.hid hx
  have He := Lib.hid he
  have Hlen := Lib.hid hlen
  clear h1 h2 hx he
  rw [hlen]
  rw [hlen] at H2
  clear hlen
  go_enter Tryz.func59, Tryz.ntmps59
  go_wp2_with fail
  go_loopw [5] (fun kv wr => ∃ k : Nat, k ≤ vs.length ∧ kv = .int .i64 k ∧ Below w.heap.size w wr) (fun kv _ => vs.length - (intOf kv).toNat)
  case atStart => exact ⟨0, by omega, rfl, Below.refl _ _⟩
  case round =>
    obtain ⟨k, hk, rfl, hbel⟩ := hrel
    have Hbel := Lib.hid hbel
    clear hbel
    by_cases hlt : k < vs.length
    · have hlt2 : k < us.length := by rw [Hlen.out]; exact hlt
      have E1 := Lib.hid (H1.out.below Hbel.out)
      have E2 := Lib.hid (H2.out.below Hbel.out)
      have hp := List.getElem_mem hlt
      have hq := List.getElem_mem hlt2
      have he : vs[k].2 = us[k].2 := by
        have h := congrArg (fun l => l[k]?) He.out
        simpa [List.getElem?_map, List.getElem?_eq_getElem hlt, List.getElem?_eq_getElem hlt2] using h
      have O1 : wr.ownsRow B1 27 1 (.slice a1 vs.length c1) vs.length (vs.map (·.1)) := E1.out.1
      have O2 : wr.ownsRow B2 27 1 (.slice a2 vs.length c2) us.length (us.map (·.1)) := E2.out.1
      obtain ⟨g1, d1, e1, hg1, hg2⟩ := O1.form (by omega)
      obtain ⟨g2, d2, e2, hg3, hg4⟩ := O2.form (by omega)
      simp only [Value.slice.injEq] at e1 e2
      obtain ⟨rfl, z1, rfl⟩ := e1
      obtain ⟨rfl, z2, rfl⟩ := e2
      clear z1
      have hc1 : wr.cell? ⟨g1, k, none⟩ = some vs[k].1 := by
        rw [O1.cellAt k (by omega), List.getElem?_map, List.getElem?_eq_getElem hlt]; rfl
      have hc2 : wr.cell? ⟨g2, k, none⟩ = some us[k].1 := by
        rw [← z2] at O2
        rw [O2.cellAt k (by omega), List.getElem?_map, List.getElem?_eq_getElem hlt2]; rfl
      have R1 := Lib.hid (Reads.of_owns (E1.out.2.1 _ hp).1)
      have R2 := Lib.hid (Reads.of_owns (E2.out.2.1 _ hq).1)
      have hpl := Hx.out _ hp
      rw [← he] at R2
      have hki : (k : Int) < (vs.length : Int) := by omega
      have hk0 : (0 : Int) ≤ (k : Int) := by omega
      clear hp hq he z2 O1 O2
      generalize us[k].1 = u at *
      generalize vs[k] = p at *
      obtain ⟨pv, pl⟩ := p
      dsimp only at hc1 R1 R2 hpl
      have Hk := Lib.hid (fun (w' : World) (hC : Below wr.heap.size wr w') => (⟨(hC.cell (p := ⟨g1, k, none⟩) hg2).trans hc1, (hC.cell (p := ⟨g2, k, none⟩) hg4).trans hc2, hC⟩ : w'.cell? ⟨g1, k, none⟩ = some pv ∧ w'.cell? ⟨g2, k, none⟩ = some u ∧ Below wr.heap.size wr w'))
      go_wp2_with fail
      go_region_held3 (fun w' => w'.cell? ⟨g1, k, none⟩ = some pv ∧ w'.cell? ⟨g2, k, none⟩ = some u ∧ Below wr.heap.size wr w')
        (first | exact Hk.out _ Hb9.out | exact Hk.out _ (by (repeat (with_reducible first | exact Below.refl _ _ | assumption | refine ba ?_ _ | refine bd ?_ | refine bdN ?_ _ | refine bs ?_ (by first | exact Nat.le_refl _ | (dsimp only; omega) | (simp; done)) _ | refine bt ?_ (by assumption)))))
        (first
          | (go_at_call 39; refine (laws_equalTexts _ _ pl pl _ (R1.out.below (by (repeat (with_reducible first | exact Below.refl _ _ | assumption | refine ba ?_ _ | refine bd ?_ | refine bdN ?_ _ | refine bs ?_ (by first | exact Nat.le_refl _ | (dsimp only; omega) | (simp; done)) _ | refine bt ?_ (by assumption))))) (R2.out.below (by (repeat (with_reducible first | exact Below.refl _ _ | assumption | refine ba ?_ _ | refine bd ?_ | refine bdN ?_ _ | refine bs ?_ (by first | exact Nat.le_refl _ | (dsimp only; omega) | (simp; done)) _ | refine bt ?_ (by assumption))))) (by omega) (by omega)).mono ?_; rintro _ w9 ⟨rfl, hb9⟩; rw [decide_eq_true rfl]; have Hb9 := Lib.hid (show Below wr.heap.size wr w9 by (repeat (with_reducible first | exact Below.refl _ _ | assumption | refine ba ?_ _ | refine bd ?_ | refine bdN ?_ _ | refine bs ?_ (by first | exact Nat.le_refl _ | (dsimp only; omega) | (simp; done)) _ | refine bt ?_ (by assumption)))); clear hb9))
      all_goals
        go_wp2_with fail
        go_roundw
        case rel => exact ⟨k + 1, by omega, by go_num, bt Hbel.out Hb9.out⟩
        case measure => simp [intOf]; omega
    · go_wp2_with fail
      go_ret
      exact ⟨rfl, Hbel.out⟩
set_option maxRecDepth 100000 in
set_option maxHeartbeats 1000000 in
theorem laws_eqStringSS (B1 B2 : Nat) (va vb : Value) (vs us : List (Value × List Bs)) (w : World) (h1 : OwnSS w B1 va vs) (h2 : OwnSS w B2 vb us) (he : vs.map (·.2) = us.map (·.2)) (hl : vs.length ≤ 400) (hx : ∀ p ∈ vs, p.2.length ≤ 9000000) :
    Calls Tryz.prog 34 #[va, vb] w fun e w' => e = .returned (.bool true) ∧ Below w.heap.size w w' := by
  have hlen : us.length = vs.length := by have := congrArg List.length he; simpa using this.symm
  obtain ⟨a1, c1, rfl⟩ := owns_shape h1.1
  obtain ⟨a2, c2, rfl⟩ := owns_shape h2.1
  have H1 := Lib.hid h1
  have H2 := Lib.hid h2
  have Hx := Lib.hid hx
  have He := Lib.hid he
  have Hlen := Lib.hid hlen
  clear h1 h2 hx he
  rw [hlen]
  rw [hlen] at H2
  clear hlen
  go_enter Tryz.func34, Tryz.ntmps34
  go_wp2_with fail
  go_loopw [5] (fun kv wr => ∃ k : Nat, k ≤ vs.length ∧ kv = .int .i64 k ∧ Below w.heap.size w wr) (fun kv _ => vs.length - (intOf kv).toNat)
  case atStart => exact ⟨0, by omega, rfl, Below.refl _ _⟩
  case round =>
    obtain ⟨k, hk, rfl, hbel⟩ := hrel
    have Hbel := Lib.hid hbel
    clear hbel
    by_cases hlt : k < vs.length
    · have hlt2 : k < us.length := by rw [Hlen.out]; exact hlt
      have E1 := Lib.hid (H1.out.below Hbel.out)
      have E2 := Lib.hid (H2.out.below Hbel.out)
      have hp := List.getElem_mem hlt
      have hq := List.getElem_mem hlt2
      have he : vs[k].2 = us[k].2 := by
        have h := congrArg (fun l => l[k]?) He.out
        simpa [List.getElem?_map, List.getElem?_eq_getElem hlt, List.getElem?_eq_getElem hlt2] using h
      have O1 : wr.ownsRow B1 27 1 (.slice a1 vs.length c1) vs.length (vs.map (·.1)) := E1.out.1
      have O2 : wr.ownsRow B2 27 1 (.slice a2 vs.length c2) us.length (us.map (·.1)) := E2.out.1
      obtain ⟨g1, d1, e1, hg1, hg2⟩ := O1.form (by omega)
      obtain ⟨g2, d2, e2, hg3, hg4⟩ := O2.form (by omega)
      simp only [Value.slice.injEq] at e1 e2
      obtain ⟨rfl, z1, rfl⟩ := e1
      obtain ⟨rfl, z2, rfl⟩ := e2
      clear z1
      have hc1 : wr.cell? ⟨g1, k, none⟩ = some vs[k].1 := by
        rw [O1.cellAt k (by omega), List.getElem?_map, List.getElem?_eq_getElem hlt]; rfl
      have hc2 : wr.cell? ⟨g2, k, none⟩ = some us[k].1 := by
        rw [← z2] at O2
        rw [O2.cellAt k (by omega), List.getElem?_map, List.getElem?_eq_getElem hlt2]; rfl
      have R1 := Lib.hid (Reads.of_owns (E1.out.2.1 _ hp).1)
      have R2 := Lib.hid (Reads.of_owns (E2.out.2.1 _ hq).1)
      have hpl := Hx.out _ hp
      rw [← he] at R2
      have hki : (k : Int) < (vs.length : Int) := by omega
      have hk0 : (0 : Int) ≤ (k : Int) := by omega
      clear hp hq he z2 O1 O2
      generalize us[k].1 = u at *
      generalize vs[k] = p at *
      obtain ⟨pv, pl⟩ := p
      dsimp only at hc1 R1 R2 hpl
      have Hk := Lib.hid (fun (w' : World) (hC : Below wr.heap.size wr w') => (⟨(hC.cell (p := ⟨g1, k, none⟩) hg2).trans hc1, (hC.cell (p := ⟨g2, k, none⟩) hg4).trans hc2, hC⟩ : w'.cell? ⟨g1, k, none⟩ = some pv ∧ w'.cell? ⟨g2, k, none⟩ = some u ∧ Below wr.heap.size wr w'))
      go_wp2_with fail
      go_region_held3 (fun w' => w'.cell? ⟨g1, k, none⟩ = some pv ∧ w'.cell? ⟨g2, k, none⟩ = some u ∧ Below wr.heap.size wr w')
        (first | exact Hk.out _ Hb9.out | exact Hk.out _ (by (repeat (with_reducible first | exact Below.refl _ _ | assumption | refine ba ?_ _ | refine bd ?_ | refine bdN ?_ _ | refine bs ?_ (by first | exact Nat.le_refl _ | (dsimp only; omega) | (simp; done)) _ | refine bt ?_ (by assumption)))))
        (first
          | (go_at_call 19; refine (laws_eqStringS _ _ pl pl _ (R1.out.below (by (repeat (with_reducible first | exact Below.refl _ _ | assumption | refine ba ?_ _ | refine bd ?_ | refine bdN ?_ _ | refine bs ?_ (by first | exact Nat.le_refl _ | (dsimp only; omega) | (simp; done)) _ | refine bt ?_ (by assumption))))) (R2.out.below (by (repeat (with_reducible first | exact Below.refl _ _ | assumption | refine ba ?_ _ | refine bd ?_ | refine bdN ?_ _ | refine bs ?_ (by first | exact Nat.le_refl _ | (dsimp only; omega) | (simp; done)) _ | refine bt ?_ (by assumption))))) (by omega) (by omega)).mono ?_; rintro _ w9 ⟨rfl, hb9⟩; rw [decide_eq_true rfl]; have Hb9 := Lib.hid (show Below wr.heap.size wr w9 by (repeat (with_reducible first | exact Below.refl _ _ | assumption | refine ba ?_ _ | refine bd ?_ | refine bdN ?_ _ | refine bs ?_ (by first | exact Nat.le_refl _ | (dsimp only; omega) | (simp; done)) _ | refine bt ?_ (by assumption)))); clear hb9))
      all_goals
        go_wp2_with fail
        go_roundw
        case rel => exact ⟨k + 1, by omega, by go_num, bt Hbel.out Hb9.out⟩
        case measure => simp [intOf]; omega
    · go_wp2_with fail
      go_ret
      exact ⟨rfl, Hbel.out⟩
end Go.Proofs.YtcmnldomcpjlcaaGreat
