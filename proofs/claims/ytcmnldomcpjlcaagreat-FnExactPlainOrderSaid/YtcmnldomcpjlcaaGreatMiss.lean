/- The program's MissingOf: those of some names that are not found. -/
import Derived.Test.YtcmnldomcpjlcaaGreatRangeC
import Derived.Test.YtcmnldomcpjlcaaGreatPlainN
import Derived.Test.YtcmnldomcpjlcaaGreatSReach
import Derived.Test.YtcmnldomcpjlcaaGreatSNames
set_option linter.unusedVariables false
set_option linter.unusedSimpArgs false
namespace Go.Proofs.YtcmnldomcpjlcaaGreat
open Go.RowKit Go.Proofs.YtcmnldomcpjlcaaGreat.Nm

set_option maxRecDepth 100000 in
set_option maxHeartbeats 4000000 in
theorem impl_notFound (v : Value) (fs : List Fil) (D : Nat → Prop) (pv : Value) (path : List Int) (nv : Value) (xs : List Bs) (w : World) (hr : FilsIn w D v fs) (hz : ShortT 2000000 fs) (hlk : xs ≠ [] → okLook fs path = true) (hp : IntsIn w pv path) (hn : Reads w nv xs) (hxl : xs.length ≤ 400) (hv : ∀ x ∈ xs, x.length ≤ 8000000) :
    Calls Tryz.prog 70 #[.agg #[v], pv, nv] w (NewStrs 9 (xs.filter (missN fs path)) w) := by
  obtain ⟨i0, hi, hz0, hz1, hz2⟩ := info_parts infoS
  have Hi := Lib.hid hi
  have Hz0 := Lib.hid hz0
  have Hz1 := Lib.hid hz1
  have Hz2 := Lib.hid hz2
  have Hr := Lib.hid hr
  have Hz := Lib.hid hz
  have Hp := Lib.hid hp
  have Hn := Lib.hid (ReadsIn.of hn)
  have Hv := Lib.hid hv
  have Hlk := Lib.hid hlk
  obtain ⟨aa, ca, rfl, hl, hm⟩ := hr.len
  obtain ⟨na, nc, rfl, hnl, hnm, _⟩ := ReadsIn.of hn
  have hf0 := fld0
  clear hr hz hp hn hv hlk hl hm hi hz0 hz1 hz2 hnl hnm
  have Hb0 := Lib.hid (Nm.Boxed.start w #[.slice aa fs.length ca] 31)
  have Hmi := Lib.hid (fun n => (show missN fs path n = decide ((byParts fs path n).kind = 0) from rfl))
  generalize missN fs path = mp at *
  go_enter Tryz.func70, Tryz.ntmps70
  go_wp2_with fail
  go_loopw [7, 12] (fun dv kv wr => ∃ (k : Nat), k ≤ xs.length ∧ kv = .int .i64 k ∧ wr.ownsRow (w.heap.size + 1) 9 1 dv ((xs.take k).filter mp).length (((xs.take k).filter mp).map sv) ∧ Nm.Boxed w #[.slice aa fs.length ca] 31 wr) (fun _ kv _ => xs.length - (intOf kv).toNat)
  case atStart => exact ⟨0, by omega, rfl, World.ownsRow_nil _ _ _ _, Hb0.out⟩
  case round =>
    obtain ⟨k, hk, rfl, hown, hbx⟩ := hrel
    obtain ⟨da, dc, rfl⟩ := owns_shape hown
    have Hown := Lib.hid hown
    have Hbx := Lib.hid hbx
    have Hbel := Lib.hid hbx.below
    have hA : wr.cell? ⟨w.heap.size, 0, none⟩ = some (.slice aa fs.length ca) := hbx.cell 0
    have hsz := hbx.lt
    clear hown hbx Hb0
    by_cases hlt : k < xs.length
    · have Hlook := Lib.hid (Hlk.out (by intro e; rw [e] at hlt; simp at hlt))
      have h3 := okPath_len (okLook_path Hlook.out)
      obtain ⟨a, cap, e, _, _, h4⟩ := Hn.out
      obtain ⟨b, off, e1, hb, hcc⟩ := h4 (by omega)
      simp only [Value.slice.injEq] at e
      obtain ⟨rfl, hnn, rfl⟩ := e
      subst e1
      have hc := (Hbel.out.cell (p := ⟨b, off + k, none⟩) hb).trans (hcc k hlt)
      have hvl := Hv.out _ (List.getElem_mem hlt)
      have Hsn := Lib.hid (filterM_snoc mp xs k hlt)
      have Hpn := Lib.hid (Hmi.out xs[k])
      have hll : ((xs.take k).filter mp).length ≤ 400 := Nat.le_trans (List.length_filter_le _ _) (by rw [List.length_take]; omega)
      clear hcc h4 hnn
      obtain ⟨s, hs⟩ : ∃ s, s = xs[k] := ⟨_, rfl⟩
      rw [← hs] at hc hvl Hsn Hpn
      clear hs
      obtain ⟨sp, hsp⟩ : ∃ sp, sp = byParts fs path s := ⟨_, rfl⟩
      rw [← hsp] at Hpn
      have Hsp := Lib.hid hsp.symm
      clear hsp
      generalize (xs.take k).filter mp = ds at *
      by_cases h0 : sp.kind = 0
      · have Hs2 := Lib.hid (show (xs.take (k + 1)).filter mp = ds ++ [s] by rw [Hsn.out, Hpn.out, h0]; rfl)
        have H0 := Lib.hid h0
        clear h0 Hsn Hpn
        go_wp2_with (first
          | (go_at_call 105; refine (impl_findByParts _ fs D _ path s _ (Hr.out.below (bt Hbel.out (by (repeat (with_reducible first | exact Below.refl _ _ | assumption | refine ba ?_ _ | refine bd ?_ | refine bdN ?_ _ | refine bs ?_ (by first | exact Nat.le_refl _ | (dsimp only; omega) | (simp; done)) _ | refine bt ?_ (by assumption)))))) Hz.out (okLook_tree Hlook.out) (Hp.out.below (bt Hbel.out (by (repeat (with_reducible first | exact Below.refl _ _ | assumption | refine ba ?_ _ | refine bd ?_ | refine bdN ?_ _ | refine bs ?_ (by first | exact Nat.le_refl _ | (dsimp only; omega) | (simp; done)) _ | refine bt ?_ (by assumption)))))) (by omega) (by omega)).mono ?_; rintro _ w6 ⟨v6, rfl, hown6, hb6⟩; rw [Hsp.out]; rw [Hsp.out] at hown6; rw [H0.out]; obtain ⟨a6, c6, hv6⟩ := owns_shape hown6; subst hv6; have Hb6 := Lib.hid (show Below wr.heap.size wr w6 by (repeat (with_reducible first | exact Below.refl _ _ | assumption | refine ba ?_ _ | refine bd ?_ | refine bdN ?_ _ | refine bs ?_ (by first | exact Nat.le_refl _ | (dsimp only; omega) | (simp; done)) _ | refine bt ?_ (by assumption)))); have hz6 := Hb6.out.size; clear hown6 hb6)
          | (at_builtin; refine wpList_append_own_at _ rfl _ _ 27 rfl (w.heap.size + 1) 9 i0 (.string ByteArray.empty) 1 16 Tryz.underlying27 Hi.out Hz0.out Hz1.out Hz2.out rfl (by decide) _ ds.length _ rfl ((owns_below Hown.out Hb6.out).alloc _) ⟨_, 0, none⟩ 1 1 [.string (mk s)] rfl rfl (new_one (by first | rfl | simp)) (fun x hx => by simp at hx; subst hx; rfl) (by unfold maxLen; omega) (by omega) (by simp; omega) ?_; intro v8 w8 hown8 hgrow8 hnil8 hat8))
        have Hx8 := Lib.hid (below_first Hbx.out (ba Hb6.out _) hgrow8 (fun g hg => (Hown.out.lt g hg).1))
        have Hown8 := Lib.hid (show w8.ownsRow (w.heap.size + 1) 9 1 v8 (ds ++ [s]).length ((ds ++ [s]).map sv) by rw [List.length_append, List.map_append]; exact hown8)
        clear hown8 hgrow8 hnil8 hat8
        go_roundw
        case rel => exact ⟨k + 1, by omega, by go_num, by rw [Hs2.out]; exact Hown8.out, Hx8.out⟩
        case measure => simp [intOf]; omega
      · have Hs2 := Lib.hid (show (xs.take (k + 1)).filter mp = ds by rw [Hsn.out, Hpn.out, decide_eq_false h0]; simp)
        obtain ⟨sk, hsk⟩ : ∃ x, x = sp.kind := ⟨_, rfl⟩
        have Hsk := Lib.hid hsk.symm
        have hk0 : (sk == (0 : Int)) = false := by rw [hsk]; simp [h0]
        clear h0 Hsn Hpn hsk
        go_wp2_with (go_at_call 105; refine (impl_findByParts _ fs D _ path s _ (Hr.out.below (bt Hbel.out (by (repeat (with_reducible first | exact Below.refl _ _ | assumption | refine ba ?_ _ | refine bd ?_ | refine bdN ?_ _ | refine bs ?_ (by first | exact Nat.le_refl _ | (dsimp only; omega) | (simp; done)) _ | refine bt ?_ (by assumption)))))) Hz.out (okLook_tree Hlook.out) (Hp.out.below (bt Hbel.out (by (repeat (with_reducible first | exact Below.refl _ _ | assumption | refine ba ?_ _ | refine bd ?_ | refine bdN ?_ _ | refine bs ?_ (by first | exact Nat.le_refl _ | (dsimp only; omega) | (simp; done)) _ | refine bt ?_ (by assumption)))))) (by omega) (by omega)).mono ?_; rintro _ w6 ⟨v6, rfl, hown6, hb6⟩; rw [Hsp.out]; rw [Hsp.out] at hown6; rw [Hsk.out]; obtain ⟨a6, c6, hv6⟩ := owns_shape hown6; subst hv6; have Hb6 := Lib.hid (show Below wr.heap.size wr w6 by (repeat (with_reducible first | exact Below.refl _ _ | assumption | refine ba ?_ _ | refine bd ?_ | refine bdN ?_ _ | refine bs ?_ (by first | exact Nat.le_refl _ | (dsimp only; omega) | (simp; done)) _ | refine bt ?_ (by assumption)))); have hz6 := Hb6.out.size; clear hown6 hb6)
        go_roundw
        case rel => exact ⟨k + 1, by omega, by go_num, by rw [Hs2.out]; exact owns_below Hown.out Hb6.out, Hbx.out.step Hb6.out⟩
        case measure => simp [intOf]; omega
    · obtain rfl : k = xs.length := by omega
      rw [List.take_length] at Hown ⊢
      clear hA
      go_wp2_with fail
      go_ret
      exact ⟨_, rfl, owns_mono Hown.out (Nat.le_succ _), Hbel.out⟩
set_option maxRecDepth 100000 in
set_option maxHeartbeats 4000000 in
theorem impl_MissingOf (v : Value) (fs : List Fil) (D : Nat → Prop) (pv : Value) (path : List Int) (s : Bs) (w : World) (hr : FilsIn w D v fs) (hz : ShortT 2000000 fs) (hp : IntsIn w pv path) (hsl : s.length ≤ 8000000) :
    Calls Tryz.prog 18 #[.agg #[v], pv, .string (mk s)] w (NewStrs 9 (missingOf fs path s) w) := by
  have Hr := Lib.hid hr
  have Hz := Lib.hid hz
  have Hp := Lib.hid hp
  obtain ⟨aa, ca, rfl, hl, hm⟩ := hr.len
  have Hb0 := Lib.hid (Nm.Boxed.start w #[.slice aa fs.length ca] 31)
  clear hr hz hp hl hm
  obtain ⟨L, hL⟩ : ∃ L, L = reachOf fs path s := ⟨_, rfl⟩
  have Hm := Lib.hid (show missingOf fs path s = L.filter (missN fs path) by rw [hL]; rfl)
  have hf := reachOf_facts fs path s
  rw [← hL] at hf
  have hL3 := hf.1
  have Hv := Lib.hid (fun x hx => (show x.length ≤ 8000000 from Nat.le_trans (vn_len (hf.2.1 x hx)) (by omega)))
  have Hne := Lib.hid (fun h : L ≠ [] => (reachOf_ne (t := fs) (path := path) (s := s) (by rw [← hL]; exact h)).1)
  have HL := Lib.hid hL.symm
  clear hL hf
  go_enter Tryz.func18, Tryz.ntmps18
  go_wp2_with (first
    | (go_at_call 69; refine (impl_reached _ fs D _ path s _ (Hr.out.below (by (repeat (with_reducible first | exact Below.refl _ _ | assumption | refine ba ?_ _ | refine bd ?_ | refine bdN ?_ _ | refine bs ?_ (by first | exact Nat.le_refl _ | (dsimp only; omega) | (simp; done)) _ | refine bt ?_ (by assumption))))) Hz.out (Hp.out.below (by (repeat (with_reducible first | exact Below.refl _ _ | assumption | refine ba ?_ _ | refine bd ?_ | refine bdN ?_ _ | refine bs ?_ (by first | exact Nat.le_refl _ | (dsimp only; omega) | (simp; done)) _ | refine bt ?_ (by assumption))))) hsl).mono ?_; rintro _ w5 ⟨g5, v5, rfl, ⟨D5, hg5⟩, hown5, hb5⟩; rw [HL.out] at hown5; obtain ⟨o5, rfl⟩ := hg5.shape; obtain ⟨a5, c5, rfl⟩ := owns_shape hown5; have R5 := Lib.hid (Reads.of_owns hown5); have Hx5 := Lib.hid (Hb0.out.step hb5); have a0 : w5.cell? ⟨w.heap.size, 0, none⟩ = some (.slice aa fs.length ca) := Hx5.out.cell 0; have Hb5 := Lib.hid (show Below w.heap.size w w5 by (repeat (with_reducible first | exact Below.refl _ _ | assumption | refine ba ?_ _ | refine bd ?_ | refine bdN ?_ _ | refine bs ?_ (by first | exact Nat.le_refl _ | (dsimp only; omega) | (simp; done)) _ | refine bt ?_ (by assumption)))); clear hown5 hb5 hg5)
    | (go_at_call 70; refine (impl_notFound _ fs D _ path _ L _ (Hr.out.below (by have := Hb5.out; (repeat (with_reducible first | exact Below.refl _ _ | assumption | refine ba ?_ _ | refine bd ?_ | refine bdN ?_ _ | refine bs ?_ (by first | exact Nat.le_refl _ | (dsimp only; omega) | (simp; done)) _ | refine bt ?_ (by assumption))))) Hz.out Hne.out (Hp.out.below (by have := Hb5.out; (repeat (with_reducible first | exact Below.refl _ _ | assumption | refine ba ?_ _ | refine bd ?_ | refine bdN ?_ _ | refine bs ?_ (by first | exact Nat.le_refl _ | (dsimp only; omega) | (simp; done)) _ | refine bt ?_ (by assumption))))) R5.out (by omega) Hv.out).mono ?_; rintro _ w6 ⟨v6, rfl, hown6, hb6⟩; have Hown6 := Lib.hid hown6; have Hb6 := Lib.hid (Hb5.out.trans (hb6.mono Hb5.out.size)); clear hown6 hb6))
  go_ret
  refine ⟨_, rfl, ?_, Hb6.out⟩
  rw [Hm.out]
  exact owns_mono Hown6.out Hb5.out.size

/-! ### The reference's MissingOf. Written by mkmiss.py. -/
set_option maxRecDepth 100000 in
set_option maxHeartbeats 8000000 in
theorem spec_MissingOf (v : Value) (fs : List Fil) (D : Nat → Prop) (pv : Value) (path : List Int) (s : Bs) (w : World) (hr : FilsIn w D v fs) (hz : ShortT 2000000 fs) (hp : IntsIn w pv path) (hsl : s.length ≤ 8000000) :
    Calls Tryz.prog 15 #[.agg #[v], pv, .string (mk s)] w (NewStrs 9 (missingOf fs path s) w) := by
  have Hr := Lib.hid hr
  have Hz := Lib.hid hz
  have Hz3 := Lib.hid (short2 (B := 3000000) (by omega) hz)
  have Hp := Lib.hid hp
  obtain ⟨aa, ca, rfl, hl, hm⟩ := hr.len
  obtain ⟨pa, pc, rfl, hl1, hm1⟩ := hp.len
  clear hr hz hp hl hm hl1 hm1
  have Hb0 := Lib.hid (Nm.Boxed.start w #[.slice aa fs.length ca] 31)
  have Hrv := Lib.hid (show vn s = false → missingOf fs path s = [] from fun h => by unfold missingOf; rw [reachOf_no (.inr h)]; rfl)
  have hf0 := fld0
  cases h1 : okTree fs
  · have H1 := Lib.hid h1
    have Hn := Lib.hid (show missingOf fs path s = [] by unfold missingOf; rw [reachOf_no (.inl (by unfold okLook; rw [h1]; simp))]; rfl)
    clear h1
    go_enter Tryz.func15, Tryz.ntmps15
    go_wp2_with (first
      | (go_at_call 61; refine (spec_validTree _ fs D _ (Hr.out.below (by have := Hb0.out.below; (repeat (with_reducible first | exact Below.refl _ _ | assumption | refine ba ?_ _ | refine bd ?_ | refine bdN ?_ _ | refine bs ?_ (by first | exact Nat.le_refl _ | (dsimp only; omega) | (simp; done)) _ | refine bt ?_ (by assumption))))) Hz3.out).mono ?_; rintro _ w5 ⟨rfl, hb5⟩; rw [H1.out]; have Hx5 := Lib.hid (Hb0.out.step hb5); clear hb5; have a0 : w5.cell? ⟨w.heap.size, 0, none⟩ = some (.slice aa fs.length ca) := Hx5.out.cell 0))
    go_ret
    have hbw := Hx5.out.below
    exact noStrs Hn.out (by (repeat (with_reducible first | exact Below.refl _ _ | assumption | refine ba ?_ _ | refine bd ?_ | refine bdN ?_ _ | refine bs ?_ (by first | exact Nat.le_refl _ | (dsimp only; omega) | (simp; done)) _ | refine bt ?_ (by assumption))))
  cases h2 : okPath path
  · have H1 := Lib.hid h1
    have H2 := Lib.hid h2
    have Hn := Lib.hid (show missingOf fs path s = [] by unfold missingOf; rw [reachOf_no (.inl (by unfold okLook; rw [h2]; simp))]; rfl)
    clear h1 h2
    go_enter Tryz.func15, Tryz.ntmps15
    go_wp2_with (first
      | (go_at_call 61; refine (spec_validTree _ fs D _ (Hr.out.below (by have := Hb0.out.below; (repeat (with_reducible first | exact Below.refl _ _ | assumption | refine ba ?_ _ | refine bd ?_ | refine bdN ?_ _ | refine bs ?_ (by first | exact Nat.le_refl _ | (dsimp only; omega) | (simp; done)) _ | refine bt ?_ (by assumption))))) Hz3.out).mono ?_; rintro _ w5 ⟨rfl, hb5⟩; rw [H1.out]; have Hx5 := Lib.hid (Hb0.out.step hb5); clear hb5; have a0 : w5.cell? ⟨w.heap.size, 0, none⟩ = some (.slice aa fs.length ca) := Hx5.out.cell 0)
      | (go_at_call 62; refine (spec_validPath _ path _ (Hp.out.below (by have := Hx5.out.below; (repeat (with_reducible first | exact Below.refl _ _ | assumption | refine ba ?_ _ | refine bd ?_ | refine bdN ?_ _ | refine bs ?_ (by first | exact Nat.le_refl _ | (dsimp only; omega) | (simp; done)) _ | refine bt ?_ (by assumption)))))).mono ?_; rintro _ w6 ⟨rfl, hb6⟩; rw [H2.out]; have Hx6 := Lib.hid (Hx5.out.step hb6); clear hb6; clear a0; have a0 : w6.cell? ⟨w.heap.size, 0, none⟩ = some (.slice aa fs.length ca) := Hx6.out.cell 0))
    go_ret
    have hbw := Hx6.out.below
    exact noStrs Hn.out (by (repeat (with_reducible first | exact Below.refl _ _ | assumption | refine ba ?_ _ | refine bd ?_ | refine bdN ?_ _ | refine bs ?_ (by first | exact Nat.le_refl _ | (dsimp only; omega) | (simp; done)) _ | refine bt ?_ (by assumption))))
  cases h3 : vn s
  · have H1 := Lib.hid h1
    have H2 := Lib.hid h2
    have H3 := Lib.hid h3
    have Hn := Lib.hid (Hrv.out h3)
    clear h1 h2 h3
    go_enter Tryz.func15, Tryz.ntmps15
    go_wp2_with (first
      | (go_at_call 61; refine (spec_validTree _ fs D _ (Hr.out.below (by have := Hb0.out.below; (repeat (with_reducible first | exact Below.refl _ _ | assumption | refine ba ?_ _ | refine bd ?_ | refine bdN ?_ _ | refine bs ?_ (by first | exact Nat.le_refl _ | (dsimp only; omega) | (simp; done)) _ | refine bt ?_ (by assumption))))) Hz3.out).mono ?_; rintro _ w5 ⟨rfl, hb5⟩; rw [H1.out]; have Hx5 := Lib.hid (Hb0.out.step hb5); clear hb5; have a0 : w5.cell? ⟨w.heap.size, 0, none⟩ = some (.slice aa fs.length ca) := Hx5.out.cell 0)
      | (go_at_call 62; refine (spec_validPath _ path _ (Hp.out.below (by have := Hx5.out.below; (repeat (with_reducible first | exact Below.refl _ _ | assumption | refine ba ?_ _ | refine bd ?_ | refine bdN ?_ _ | refine bs ?_ (by first | exact Nat.le_refl _ | (dsimp only; omega) | (simp; done)) _ | refine bt ?_ (by assumption)))))).mono ?_; rintro _ w6 ⟨rfl, hb6⟩; rw [H2.out]; have Hx6 := Lib.hid (Hx5.out.step hb6); clear hb6; clear a0; have a0 : w6.cell? ⟨w.heap.size, 0, none⟩ = some (.slice aa fs.length ca) := Hx6.out.cell 0)
      | (go_at_call 63; refine (spec_validName s _ hsl).mono ?_; rintro _ w7 ⟨rfl, hb7⟩; rw [H3.out]; have Hx7 := Lib.hid (Hx6.out.step hb7); clear hb7; clear a0; have a0 : w7.cell? ⟨w.heap.size, 0, none⟩ = some (.slice aa fs.length ca) := Hx7.out.cell 0))
    go_ret
    have hbw := Hx7.out.below
    exact noStrs Hn.out (by (repeat (with_reducible first | exact Below.refl _ _ | assumption | refine ba ?_ _ | refine bd ?_ | refine bdN ?_ _ | refine bs ?_ (by first | exact Nat.le_refl _ | (dsimp only; omega) | (simp; done)) _ | refine bt ?_ (by assumption))))
  have H1 := Lib.hid h1
  have H2 := Lib.hid h2
  have H3 := Lib.hid h3
  have Hlk := Lib.hid (okLook_of h1 h2)
  have hna : namesAbove s = above s := by simp [namesAbove, h3]
  obtain ⟨ns, hns⟩ : ∃ ns, ns = above s := ⟨_, rfl⟩
  have Hns := Lib.hid hns
  have hn3 : ns.length ≤ 3 := by rw [hns, ← hna]; exact namesAbove_le3 s
  have hn1 : 1 ≤ ns.length := by rw [hns]; exact List.length_pos_iff.2 (above_pos s)
  have Hnd := Lib.hid (show ns.Nodup by rw [hns, ← hna]; exact namesAbove_nodup s)
  have Hnv := Lib.hid (show ∀ x ∈ ns, vn x = true by rw [hns]; exact above_vn h3)
  obtain ⟨L, hL⟩ : ∃ L, L = reachAll fs path ns := ⟨_, rfl⟩
  have hLl : L.length ≤ 291 := by rw [hL]; have := reachAll_len (t := fs) (path := path) (okLook_tree Hlk.out) Hnd.out; omega
  have HL := Lib.hid hL
  have Hre := Lib.hid (show missingOf fs path s = (L.filter (missN fs path)).foldl insTo [] by unfold missingOf reachOf; rw [if_pos Hlk.out, hna, ← hns, ← hL]; exact (sortUp_filter _ _).symm)
  have Hvl := Lib.hid (show ∀ x ∈ L, vn x = true by rw [hL]; exact reachAll_vn (fun x hx => by rw [hns] at hx; exact above_vn h3 x hx))
  have h3l := okPath_len h2
  obtain ⟨p, hpk⟩ : ∃ p : Bs → Bool, p = missN fs path := ⟨_, rfl⟩
  have Hpk := Lib.hid hpk
  rw [← hpk] at Hre
  clear h1 h2 h3 hna hns hL hpk
  go_enter Tryz.func15, Tryz.ntmps15
  go_wp2_with (first
    | (go_at_call 61; refine (spec_validTree _ fs D _ (Hr.out.below (by have := Hb0.out.below; (repeat (with_reducible first | exact Below.refl _ _ | assumption | refine ba ?_ _ | refine bd ?_ | refine bdN ?_ _ | refine bs ?_ (by first | exact Nat.le_refl _ | (dsimp only; omega) | (simp; done)) _ | refine bt ?_ (by assumption))))) Hz3.out).mono ?_; rintro _ w5 ⟨rfl, hb5⟩; rw [H1.out]; have Hx5 := Lib.hid (Hb0.out.step hb5); clear hb5; have a0 : w5.cell? ⟨w.heap.size, 0, none⟩ = some (.slice aa fs.length ca) := Hx5.out.cell 0)
    | (go_at_call 62; refine (spec_validPath _ path _ (Hp.out.below (by have := Hx5.out.below; (repeat (with_reducible first | exact Below.refl _ _ | assumption | refine ba ?_ _ | refine bd ?_ | refine bdN ?_ _ | refine bs ?_ (by first | exact Nat.le_refl _ | (dsimp only; omega) | (simp; done)) _ | refine bt ?_ (by assumption)))))).mono ?_; rintro _ w6 ⟨rfl, hb6⟩; rw [H2.out]; have Hx6 := Lib.hid (Hx5.out.step hb6); clear hb6; clear a0; have a0 : w6.cell? ⟨w.heap.size, 0, none⟩ = some (.slice aa fs.length ca) := Hx6.out.cell 0)
    | (go_at_call 63; refine (spec_validName s _ hsl).mono ?_; rintro _ w7 ⟨rfl, hb7⟩; rw [H3.out]; have Hx7 := Lib.hid (Hx6.out.step hb7); clear hb7; clear a0; have a0 : w7.cell? ⟨w.heap.size, 0, none⟩ = some (.slice aa fs.length ca) := Hx7.out.cell 0; have hlt7 := Hx7.out.lt))
  obtain ⟨W8, hW8⟩ : ∃ W, W = w7.alloc (.cells #[] 9) := ⟨_, rfl⟩
  rw [← hW8]
  have HX8 := Lib.hid (show Nm.Boxed w #[.slice aa fs.length ca] 31 W8 by rw [hW8]; exact Hx7.out.step (ba (Below.refl _ _) _))
  have HE8 := Lib.hid (show W8.ownsRow (w.heap.size + 1) 9 1 (.slice (some ⟨w7.heap.size, 0, none⟩) 0 0) 0 [] by rw [hW8]; exact World.ownsRow_lit (size := 1) w7 #[] 0 hlt7 (by unfold maxLen; omega) rfl)
  have hs8 : W8.heap.size = w7.heap.size + 1 := by rw [hW8]; simp
  have Hbel8 := Lib.hid HX8.out.below
  have lt8 := HX8.out.lt
  have hA8 : W8.cell? ⟨w.heap.size, 0, none⟩ = some (.slice aa fs.length ca) := HX8.out.cell 0
  have Hk := Lib.hid (fun (w' : World) (hC : Below W8.heap.size W8 w') => (⟨(HX8.out.step hC).cell 0, hC⟩ : w'.cell? ⟨w.heap.size, 0, none⟩ = some (.slice aa fs.length ca) ∧ Below W8.heap.size W8 w'))
  clear hW8 a0 Hx7 Hx6 Hx5
  go_region_held3 (fun w' => w'.cell? ⟨w.heap.size, 0, none⟩ = some (.slice aa fs.length ca) ∧ Below W8.heap.size W8 w')
    (first | exact Hk.out _ Hb10.out | exact Hk.out _ Hb9.out | exact Hk.out _ (by (repeat (with_reducible first | exact Below.refl _ _ | assumption | refine ba ?_ _ | refine bd ?_ | refine bdN ?_ _ | refine bs ?_ (by first | exact Nat.le_refl _ | (dsimp only; omega) | (simp; done)) _ | refine bt ?_ (by assumption)))))
    (first
      | (go_at_call 65; refine (spec_above s _ hsl).mono ?_; rintro _ w9 ⟨v9, rfl, hown9, hb9⟩; rw [← Hns.out] at hown9; obtain ⟨a9, c9, hv9⟩ := owns_shape hown9; subst hv9; have R9 := Lib.hid (Reads.of_owns hown9); have Hb9 := Lib.hid (show Below W8.heap.size W8 w9 by (repeat (with_reducible first | exact Below.refl _ _ | assumption | refine ba ?_ _ | refine bd ?_ | refine bdN ?_ _ | refine bs ?_ (by first | exact Nat.le_refl _ | (dsimp only; omega) | (simp; done)) _ | refine bt ?_ (by assumption)))); clear hown9 hb9)
      | (go_at_call 64; refine (spec_reach _ fs D _ path _ ns _ (Hr.out.below (bt Hbel8.out (by first | exact Hb9.out | (have := Hb9.out; (repeat (with_reducible first | exact Below.refl _ _ | assumption | refine ba ?_ _ | refine bd ?_ | refine bdN ?_ _ | refine bs ?_ (by first | exact Nat.le_refl _ | (dsimp only; omega) | (simp; done)) _ | refine bt ?_ (by assumption))))))) Hz.out Hlk.out (Hp.out.below (bt Hbel8.out (by first | exact Hb9.out | (have := Hb9.out; (repeat (with_reducible first | exact Below.refl _ _ | assumption | refine ba ?_ _ | refine bd ?_ | refine bdN ?_ _ | refine bs ?_ (by first | exact Nat.le_refl _ | (dsimp only; omega) | (simp; done)) _ | refine bt ?_ (by assumption))))))) (Reads.below R9.out (by (repeat (with_reducible first | exact Below.refl _ _ | assumption | refine ba ?_ _ | refine bd ?_ | refine bdN ?_ _ | refine bs ?_ (by first | exact Nat.le_refl _ | (dsimp only; omega) | (simp; done)) _ | refine bt ?_ (by assumption))))) hn1 (by omega) Hnd.out Hnv.out).mono ?_; rintro _ w10 ⟨v10, rfl, hown10, hb10⟩; rw [← HL.out] at hown10; obtain ⟨a10, c10, hv10⟩ := owns_shape hown10; subst hv10; have Hl10 := Lib.hid (owns_mono hown10 (show W8.heap.size ≤ _ from Nat.le_trans Hb9.out.size (by first | exact Nat.le_refl _ | exact (show Below _ _ _ by (repeat (with_reducible first | exact Below.refl _ _ | assumption | refine ba ?_ _ | refine bd ?_ | refine bdN ?_ _ | refine bs ?_ (by first | exact Nat.le_refl _ | (dsimp only; omega) | (simp; done)) _ | refine bt ?_ (by assumption)))).size))); have Hb10 := Lib.hid (Hb9.out.trans (hb10.mono Hb9.out.size)); clear hown10 hb10))
  have HE10 := Lib.hid (owns_below HE8.out Hb10.out)
  have HX10 := Lib.hid (HX8.out.step Hb10.out)
  have HLw := Lib.hid (owns_mono Hl10.out (show w.heap.size + 1 ≤ W8.heap.size from lt8))
  have Hdis := Lib.hid (show ∀ b, (Value.slice a10 L.length c10).ownBlock = some b → b ≠ w7.heap.size from fun b hb => by have := (owns_block Hl10.out hb).1; omega)
  clear hA8 Hl10 HE8 HX8 Hbel8 hs8
  go_wp2_with fail
  go_loopw [7, 9] (fun nv kv wr => ∃ (k g cp : Nat), k ≤ L.length ∧ kv = .int .i64 k ∧ nv = .slice (some ⟨g, 0, none⟩) (((L.take k).filter p).foldl insTo []).length cp ∧ wr.ownsRow (w.heap.size + 1) 9 1 (.slice (some ⟨g, 0, none⟩) (((L.take k).filter p).foldl insTo []).length cp) (((L.take k).filter p).foldl insTo []).length ((((L.take k).filter p).foldl insTo []).map sv) ∧ Nm.Boxed w #[.slice aa fs.length ca] 31 wr ∧ wr.ownsRow (w.heap.size + 1) 9 1 (.slice a10 L.length c10) L.length (L.map sv) ∧ (∀ b, (Value.slice a10 L.length c10).ownBlock = some b → b ≠ g)) (fun _ kv _ => L.length - (intOf kv).toNat)
  case atStart => exact ⟨0, w7.heap.size, 0, by omega, rfl, rfl, HE10.out, HX10.out, HLw.out, Hdis.out⟩
  case round =>
    obtain ⟨k, g, cp, hk, rfl, rfl, hown, hbx, hlist, hdis⟩ := hrel
    have Hown := Lib.hid hown
    have Hbx := Lib.hid hbx
    have Hdis2 := Lib.hid hdis
    have hsz := hbx.lt
    have Hup := Lib.hid (show Up (((L.take k).filter p).foldl insTo []) from foldIns_up _ (by simp [Up]))
    have hlj : (((L.take k).filter p).foldl insTo []).length ≤ 291 := Nat.le_trans (foldIns_len _ _) (by have := List.length_filter_le p (L.take k); rw [List.length_take] at this; simp; omega)
    clear hown hbx hdis HE10 HX10 HLw Hdis
    by_cases hlt : k < L.length
    · obtain ⟨gl, cl, el, hgl1, hgl2⟩ := hlist.form (by omega)
      simp only [Value.slice.injEq] at el
      obtain ⟨rfl, _, rfl⟩ := el
      have hcj : wr.cell? ⟨gl, k, none⟩ = some (.string (mk L[k])) := by
        rw [hlist.cellAt k (by omega), List.getElem?_map, List.getElem?_eq_getElem hlt]; rfl
      have Hlist := Lib.hid hlist
      have hne : gl ≠ g := Hdis2.out gl rfl
      have Hsn := Lib.hid (filterM_snoc p L k hlt)
      have Hvn := Lib.hid (Hvl.out _ (List.getElem_mem hlt))
      have hk1 : (k : Int) < (L.length : Int) := by omega
      have hk0 : (0 : Int) ≤ (k : Int) := by omega
      have hgs : gl < wr.heap.size := (Hlist.out.lt gl rfl).2
      have hA : wr.cell? ⟨w.heap.size, 0, none⟩ = some (.slice aa fs.length ca) := Hbx.out.cell 0
      have Hbel := Lib.hid Hbx.out.below
      clear hlist
      have Hpy := Lib.hid (show p L[k] = missN fs path L[k] by rw [Hpk.out])
      generalize L[k] = y at *
      have hyl := vn_len Hvn.out
      have Hk := Lib.hid (fun (w' : World) (hC : Below wr.heap.size wr w') => (⟨(hC.cell (p := ⟨w.heap.size, 0, none⟩) hsz).trans hA, (hC.cell (p := ⟨gl, k, none⟩) hgs).trans hcj, hC⟩ : w'.cell? ⟨w.heap.size, 0, none⟩ = some (.slice aa fs.length ca) ∧ w'.cell? ⟨gl, k, none⟩ = some (.string (mk y)) ∧ Below wr.heap.size wr w'))
      obtain ⟨sp, hsp⟩ : ∃ sp, sp = byParts fs path y := ⟨_, rfl⟩
      have Hpz := Lib.hid (show p y = decide (sp.kind = 0) by rw [Hpy.out, hsp]; rfl)
      have Hsp := Lib.hid hsp.symm
      clear hsp Hpy
      by_cases h0 : sp.kind = 0
      · have Hpt := Lib.hid (show p y = true by rw [Hpz.out, h0]; rfl)
        have H0 := Lib.hid h0
        clear h0
        have Hs2 := Lib.hid (show ((L.take (k + 1)).filter p).foldl insTo [] = insTo (((L.take k).filter p).foldl insTo []) y by rw [Hsn.out, Hpt.out, if_pos rfl, List.foldl_append]; rfl)
        clear Hsn
        go_wp2_with fail
        go_region_held3 (fun w' => w'.cell? ⟨w.heap.size, 0, none⟩ = some (.slice aa fs.length ca) ∧ w'.cell? ⟨gl, k, none⟩ = some (.string (mk y)) ∧ Below wr.heap.size wr w')
          (first | exact Hk.out _ Hb9.out | exact Hk.out _ (by (repeat (with_reducible first | exact Below.refl _ _ | assumption | refine ba ?_ _ | refine bd ?_ | refine bdN ?_ _ | refine bs ?_ (by first | exact Nat.le_refl _ | (dsimp only; omega) | (simp; done)) _ | refine bt ?_ (by assumption)))))
          (first
            | (go_at_call 66; refine (spec_find _ fs D _ path y _ (Hr.out.below (bt Hbel.out (by (repeat (with_reducible first | exact Below.refl _ _ | assumption | refine ba ?_ _ | refine bd ?_ | refine bdN ?_ _ | refine bs ?_ (by first | exact Nat.le_refl _ | (dsimp only; omega) | (simp; done)) _ | refine bt ?_ (by assumption)))))) Hz.out (okLook_tree Hlk.out) Hvn.out (Hp.out.below (bt Hbel.out (by (repeat (with_reducible first | exact Below.refl _ _ | assumption | refine ba ?_ _ | refine bd ?_ | refine bdN ?_ _ | refine bs ?_ (by first | exact Nat.le_refl _ | (dsimp only; omega) | (simp; done)) _ | refine bt ?_ (by assumption)))))) (by omega)).mono ?_; rintro _ w9 ⟨v9, rfl, hown9, hb9⟩; rw [Hsp.out]; rw [Hsp.out] at hown9; rw [H0.out]; obtain ⟨a9, k9, hv9⟩ := owns_shape hown9; subst hv9; have Hb9 := Lib.hid (show Below wr.heap.size wr w9 by (repeat (with_reducible first | exact Below.refl _ _ | assumption | refine ba ?_ _ | refine bd ?_ | refine bdN ?_ _ | refine bs ?_ (by first | exact Nat.le_refl _ | (dsimp only; omega) | (simp; done)) _ | refine bt ?_ (by assumption)))); clear hown9 hb9))
        all_goals
          obtain ⟨hA9, hcj9, _⟩ := Hk.out w9 Hb9.out
          have Hown9' := Lib.hid (owns_below Hown.out Hb9.out)
          have Hl9 := Lib.hid (owns_below Hlist.out Hb9.out)
          have Hx9 := Lib.hid (Hbx.out.step Hb9.out)
          have hz9 := Hb9.out.size
          clear hA hcj
          generalize ((L.take k).filter p).foldl insTo [] = M at *
          go_wp2_with (go_at_call 67; refine (spec_insertText (w.heap.size + 1) g cp M y _ Hown9'.out Hup.out (by omega) (by omega)).mono ?_; rintro _ w12 ⟨g7, c7, rfl, hown7, hb7, ht7, hq7⟩)
          have Hown7 := Lib.hid hown7
          have Hx7 := Lib.hid (boxed_low Hx9.out hb7)
          have Hl7 := Lib.hid (owns_turned Hl9.out ht7 (fun b hb e => hne (by cases hb; exact e)))
          have hglw : gl < wr.heap.size := (Hlist.out.lt gl rfl).2
          have hne7 : gl ≠ g7 := by omega
          clear hown7 hb7 ht7
          go_roundw
          case rel => exact ⟨k + 1, g7, c7, by omega, by go_num, by rw [Hs2.out], by rw [Hs2.out]; exact Hown7.out, Hx7.out, Hl7.out, fun b hb => by cases hb; exact hne7⟩
          case measure => simp [intOf]; omega
      · have Hpt := Lib.hid (show p y = false by rw [Hpz.out]; exact decide_eq_false h0)
        obtain ⟨sk, hsk⟩ : ∃ x, x = sp.kind := ⟨_, rfl⟩
        have Hsk := Lib.hid hsk.symm
        have hk0 : (sk == (0 : Int)) = false := by rw [hsk]; simp [h0]
        clear h0 hsk
        have Hs2 := Lib.hid (show (L.take (k + 1)).filter p = (L.take k).filter p by rw [Hsn.out, Hpt.out]; simp)
        clear Hsn
        go_wp2_with fail
        go_region_held3 (fun w' => w'.cell? ⟨w.heap.size, 0, none⟩ = some (.slice aa fs.length ca) ∧ w'.cell? ⟨gl, k, none⟩ = some (.string (mk y)) ∧ Below wr.heap.size wr w')
          (first | exact Hk.out _ Hb9.out | exact Hk.out _ (by (repeat (with_reducible first | exact Below.refl _ _ | assumption | refine ba ?_ _ | refine bd ?_ | refine bdN ?_ _ | refine bs ?_ (by first | exact Nat.le_refl _ | (dsimp only; omega) | (simp; done)) _ | refine bt ?_ (by assumption)))))
          (first
            | (go_at_call 66; refine (spec_find _ fs D _ path y _ (Hr.out.below (bt Hbel.out (by (repeat (with_reducible first | exact Below.refl _ _ | assumption | refine ba ?_ _ | refine bd ?_ | refine bdN ?_ _ | refine bs ?_ (by first | exact Nat.le_refl _ | (dsimp only; omega) | (simp; done)) _ | refine bt ?_ (by assumption)))))) Hz.out (okLook_tree Hlk.out) Hvn.out (Hp.out.below (bt Hbel.out (by (repeat (with_reducible first | exact Below.refl _ _ | assumption | refine ba ?_ _ | refine bd ?_ | refine bdN ?_ _ | refine bs ?_ (by first | exact Nat.le_refl _ | (dsimp only; omega) | (simp; done)) _ | refine bt ?_ (by assumption)))))) (by omega)).mono ?_; rintro _ w9 ⟨v9, rfl, hown9, hb9⟩; rw [Hsp.out]; rw [Hsp.out] at hown9; rw [Hsk.out]; obtain ⟨a9, k9, hv9⟩ := owns_shape hown9; subst hv9; have Hb9 := Lib.hid (show Below wr.heap.size wr w9 by (repeat (with_reducible first | exact Below.refl _ _ | assumption | refine ba ?_ _ | refine bd ?_ | refine bdN ?_ _ | refine bs ?_ (by first | exact Nat.le_refl _ | (dsimp only; omega) | (simp; done)) _ | refine bt ?_ (by assumption)))); clear hown9 hb9))
        all_goals
          go_wp2_with fail
          go_roundw
          case rel => exact ⟨k + 1, g, cp, by omega, by go_num, by rw [Hs2.out], by rw [Hs2.out]; exact owns_below Hown.out Hb9.out, Hbx.out.step Hb9.out, owns_below Hlist.out Hb9.out, Hdis2.out⟩
          case measure => simp [intOf]; omega
    · obtain rfl : k = L.length := by omega
      clear hlist
      rw [List.take_length] at Hown ⊢
      go_wp2_with fail
      go_ret
      refine ⟨_, rfl, ?_, Hbx.out.below⟩
      rw [Hre.out]
      exact owns_mono Hown.out (Nat.le_succ _)
end Go.Proofs.YtcmnldomcpjlcaaGreat
