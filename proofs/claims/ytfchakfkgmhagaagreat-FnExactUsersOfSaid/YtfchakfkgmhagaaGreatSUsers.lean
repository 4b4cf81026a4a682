/- The reference's UsersOf. Written by mksusers.py. -/
import Derived.Test.YtfchakfkgmhagaaGreatSGraph
import Derived.Test.YtfchakfkgmhagaaGreatSNames
import Derived.Test.YtfchakfkgmhagaaGreatPlainQ
set_option linter.unusedVariables false
set_option linter.unusedSimpArgs false
namespace Go.Proofs.YtfchakfkgmhagaaGreat
open Go.RowKit Go.Proofs.YtfchakfkgmhagaaGreat.Nm
theorem usersOf_no {t : List Fil} {path : List Int} {s : Bs} (h : okLook t path = false ∨ vn s = false) : usersOf t path s = [] := by
  unfold usersOf
  rcases h with h | h
  · rw [foundNames_no h]; rfl
  · rw [List.filter_eq_nil_iff]
    intro x _
    simp only [decide_eq_true_eq]
    intro hx
    have := (edgesOf_ok t path x).1 s hx
    rw [h] at this; exact absurd this (by simp)
set_option maxRecDepth 100000 in
set_option maxHeartbeats 8000000 in
theorem spec_UsersOf (v : Value) (fs : List Fil) (D : Nat → Prop) (pv : Value) (path : List Int) (s : Bs) (w : World) (hr : FilsIn w D v fs) (hz : ShortT 2000000 fs) (hp : IntsIn w pv path) (hsl : s.length ≤ 8000000) :
    Calls Tryz.prog 39 #[.agg #[v], pv, .string (mk s)] w (NewStrs 9 (usersOf fs path s) w) := by
  obtain ⟨i0, hi, hz0, hz1, hz2⟩ := info_parts infoS
  have Hi := Lib.hid hi
  have Hz0 := Lib.hid hz0
  have Hz1 := Lib.hid hz1
  have Hz2 := Lib.hid hz2
  have Hr := Lib.hid hr
  have Hz := Lib.hid hz
  have Hz3 := Lib.hid (short2 (B := 3000000) (by omega) hz)
  have Hp := Lib.hid hp
  obtain ⟨aa, ca, rfl, hl, hm⟩ := hr.len
  obtain ⟨pa, pc, rfl, hl1, hm1⟩ := hp.len
  clear hr hz hp hl hm hl1 hm1 hi hz0 hz1 hz2
  have Hb0 := Lib.hid (Boxed.start w #[.slice aa fs.length ca] 31)
  cases h1 : okTree fs
  · have H1 := Lib.hid h1
    have Hn := Lib.hid (usersOf_no (t := fs) (path := path) (s := s) (.inl (by unfold okLook; rw [h1]; simp)))
    clear h1
    go_enter Tryz.func39, Tryz.ntmps39
    go_wp2_with (first
      | (go_at_call 60; refine (spec_validTree _ fs D _ (Hr.out.below (by have := Hb0.out.below; (repeat (with_reducible first | exact Below.refl _ _ | assumption | refine ba ?_ _ | refine bd ?_ | refine bdN ?_ _ | refine bs ?_ (by first | exact Nat.le_refl _ | (dsimp only; omega) | (simp; done)) _ | refine bt ?_ (by assumption))))) Hz3.out).mono ?_; rintro _ w5 ⟨rfl, hb5⟩; rw [H1.out]; have Hx5 := Lib.hid (Hb0.out.step hb5); clear hb5; have a0 : w5.cell? ⟨w.heap.size, 0, none⟩ = some (.slice aa fs.length ca) := Hx5.out.cell 0))
    go_ret
    have hbw := Hx5.out.below
    exact noStrs Hn.out (by (repeat (with_reducible first | exact Below.refl _ _ | assumption | refine ba ?_ _ | refine bd ?_ | refine bdN ?_ _ | refine bs ?_ (by first | exact Nat.le_refl _ | (dsimp only; omega) | (simp; done)) _ | refine bt ?_ (by assumption))))
  cases h2 : okPath path
  · have H1 := Lib.hid h1
    have H2 := Lib.hid h2
    have Hn := Lib.hid (usersOf_no (t := fs) (path := path) (s := s) (.inl (by unfold okLook; rw [h2]; simp)))
    clear h1 h2
    go_enter Tryz.func39, Tryz.ntmps39
    go_wp2_with (first
      | (go_at_call 60; refine (spec_validTree _ fs D _ (Hr.out.below (by have := Hb0.out.below; (repeat (with_reducible first | exact Below.refl _ _ | assumption | refine ba ?_ _ | refine bd ?_ | refine bdN ?_ _ | refine bs ?_ (by first | exact Nat.le_refl _ | (dsimp only; omega) | (simp; done)) _ | refine bt ?_ (by assumption))))) Hz3.out).mono ?_; rintro _ w5 ⟨rfl, hb5⟩; rw [H1.out]; have Hx5 := Lib.hid (Hb0.out.step hb5); clear hb5; have a0 : w5.cell? ⟨w.heap.size, 0, none⟩ = some (.slice aa fs.length ca) := Hx5.out.cell 0)
      | (go_at_call 61; refine (spec_validPath _ path _ (Hp.out.below (by have := Hx5.out.below; (repeat (with_reducible first | exact Below.refl _ _ | assumption | refine ba ?_ _ | refine bd ?_ | refine bdN ?_ _ | refine bs ?_ (by first | exact Nat.le_refl _ | (dsimp only; omega) | (simp; done)) _ | refine bt ?_ (by assumption)))))).mono ?_; rintro _ w6 ⟨rfl, hb6⟩; rw [H2.out]; have Hx6 := Lib.hid (Hx5.out.step hb6); clear hb6; clear a0; have a0 : w6.cell? ⟨w.heap.size, 0, none⟩ = some (.slice aa fs.length ca) := Hx6.out.cell 0))
    go_ret
    have hbw := Hx6.out.below
    exact noStrs Hn.out (by (repeat (with_reducible first | exact Below.refl _ _ | assumption | refine ba ?_ _ | refine bd ?_ | refine bdN ?_ _ | refine bs ?_ (by first | exact Nat.le_refl _ | (dsimp only; omega) | (simp; done)) _ | refine bt ?_ (by assumption))))
  cases h3 : vn s
  · have H1 := Lib.hid h1
    have H2 := Lib.hid h2
    have H3 := Lib.hid h3
    have Hn := Lib.hid (usersOf_no (t := fs) (path := path) (s := s) (.inr h3))
    clear h1 h2 h3
    go_enter Tryz.func39, Tryz.ntmps39
    go_wp2_with (first
      | (go_at_call 60; refine (spec_validTree _ fs D _ (Hr.out.below (by have := Hb0.out.below; (repeat (with_reducible first | exact Below.refl _ _ | assumption | refine ba ?_ _ | refine bd ?_ | refine bdN ?_ _ | refine bs ?_ (by first | exact Nat.le_refl _ | (dsimp only; omega) | (simp; done)) _ | refine bt ?_ (by assumption))))) Hz3.out).mono ?_; rintro _ w5 ⟨rfl, hb5⟩; rw [H1.out]; have Hx5 := Lib.hid (Hb0.out.step hb5); clear hb5; have a0 : w5.cell? ⟨w.heap.size, 0, none⟩ = some (.slice aa fs.length ca) := Hx5.out.cell 0)
      | (go_at_call 61; refine (spec_validPath _ path _ (Hp.out.below (by have := Hx5.out.below; (repeat (with_reducible first | exact Below.refl _ _ | assumption | refine ba ?_ _ | refine bd ?_ | refine bdN ?_ _ | refine bs ?_ (by first | exact Nat.le_refl _ | (dsimp only; omega) | (simp; done)) _ | refine bt ?_ (by assumption)))))).mono ?_; rintro _ w6 ⟨rfl, hb6⟩; rw [H2.out]; have Hx6 := Lib.hid (Hx5.out.step hb6); clear hb6; clear a0; have a0 : w6.cell? ⟨w.heap.size, 0, none⟩ = some (.slice aa fs.length ca) := Hx6.out.cell 0)
      | (go_at_call 62; refine (spec_validName s _ hsl).mono ?_; rintro _ w7 ⟨rfl, hb7⟩; rw [H3.out]; have Hx7 := Lib.hid (Hx6.out.step hb7); clear hb7; clear a0; have a0 : w7.cell? ⟨w.heap.size, 0, none⟩ = some (.slice aa fs.length ca) := Hx7.out.cell 0))
    go_ret
    have hbw := Hx7.out.below
    exact noStrs Hn.out (by (repeat (with_reducible first | exact Below.refl _ _ | assumption | refine ba ?_ _ | refine bd ?_ | refine bdN ?_ _ | refine bs ?_ (by first | exact Nat.le_refl _ | (dsimp only; omega) | (simp; done)) _ | refine bt ?_ (by assumption))))
  have H1 := Lib.hid h1
  have H2 := Lib.hid h2
  have H3 := Lib.hid h3
  have Hlk := Lib.hid (okLook_of h1 h2)
  have h12 := (okTree_all h1).2.2
  have hL36 : (foundNames fs path).length ≤ 36 := by
    unfold foundNames
    split
    · exact Nat.le_trans (List.length_filter_le _ _) (Nat.le_trans (sortUp_len _) (Nat.le_trans (nmOf_len _ (okTree_all h1).1) (by omega)))
    · simp
  have Hvs := Lib.hid (fun x (hx : x ∈ foundNames fs path) => (foundNames_vn (t := fs) (path := path) (s := x) hx).2)
  obtain ⟨p, hpk⟩ : ∃ p : Bs → Bool, p = fun n => decide (s ∈ edgesOf fs path n) := ⟨_, rfl⟩
  have Hu := Lib.hid (show usersOf fs path s = (foundNames fs path).filter p by rw [hpk]; rfl)
  have Hpk := Lib.hid hpk
  clear h1 h2 h3 hpk
  generalize hLL : foundNames fs path = L at *
  have HLL := Lib.hid hLL
  clear hLL
  go_enter Tryz.func39, Tryz.ntmps39
  go_wp2_with (first
    | (go_at_call 60; refine (spec_validTree _ fs D _ (Hr.out.below (by have := Hb0.out.below; (repeat (with_reducible first | exact Below.refl _ _ | assumption | refine ba ?_ _ | refine bd ?_ | refine bdN ?_ _ | refine bs ?_ (by first | exact Nat.le_refl _ | (dsimp only; omega) | (simp; done)) _ | refine bt ?_ (by assumption))))) Hz3.out).mono ?_; rintro _ w5 ⟨rfl, hb5⟩; rw [H1.out]; have Hx5 := Lib.hid (Hb0.out.step hb5); clear hb5; have a0 : w5.cell? ⟨w.heap.size, 0, none⟩ = some (.slice aa fs.length ca) := Hx5.out.cell 0)
    | (go_at_call 61; refine (spec_validPath _ path _ (Hp.out.below (by have := Hx5.out.below; (repeat (with_reducible first | exact Below.refl _ _ | assumption | refine ba ?_ _ | refine bd ?_ | refine bdN ?_ _ | refine bs ?_ (by first | exact Nat.le_refl _ | (dsimp only; omega) | (simp; done)) _ | refine bt ?_ (by assumption)))))).mono ?_; rintro _ w6 ⟨rfl, hb6⟩; rw [H2.out]; have Hx6 := Lib.hid (Hx5.out.step hb6); clear hb6; clear a0; have a0 : w6.cell? ⟨w.heap.size, 0, none⟩ = some (.slice aa fs.length ca) := Hx6.out.cell 0)
    | (go_at_call 62; refine (spec_validName s _ hsl).mono ?_; rintro _ w7 ⟨rfl, hb7⟩; rw [H3.out]; have Hx7 := Lib.hid (Hx6.out.step hb7); clear hb7; clear a0; have a0 : w7.cell? ⟨w.heap.size, 0, none⟩ = some (.slice aa fs.length ca) := Hx7.out.cell 0; have hlt7 := Hx7.out.lt)
    | (go_at_call 84; refine (spec_FoundNames _ fs D _ path _ (Hr.out.below (by have := Hx7.out.below; (repeat (with_reducible first | exact Below.refl _ _ | assumption | refine ba ?_ _ | refine bd ?_ | refine bdN ?_ _ | refine bs ?_ (by first | exact Nat.le_refl _ | (dsimp only; omega) | (simp; done)) _ | refine bt ?_ (by assumption))))) Hz.out (Hp.out.below (by have := Hx7.out.below; (repeat (with_reducible first | exact Below.refl _ _ | assumption | refine ba ?_ _ | refine bd ?_ | refine bdN ?_ _ | refine bs ?_ (by first | exact Nat.le_refl _ | (dsimp only; omega) | (simp; done)) _ | refine bt ?_ (by assumption)))))).mono ?_; rintro _ w8 ⟨v8, rfl, hown8, hb8⟩; rw [HLL.out] at hown8; obtain ⟨la, lc, hv8⟩ := owns_shape hown8; subst hv8; have Hl8 := Lib.hid hown8; have Hb8 := Lib.hid (show Below (w7.alloc (.cells #[] 9)).heap.size (w7.alloc (.cells #[] 9)) w8 from hb8); clear hown8 hb8))
  have HE8 := Lib.hid (owns_below (owns_mono (World.ownsRow_lit (size := 1) (base := w7.heap.size) (e := 9) w7 #[] 0 (Nat.le_refl _) (by unfold maxLen; omega) rfl) (show w.heap.size + 1 ≤ w7.heap.size from Hx7.out.lt)) Hb8.out)
  have Hx8 := Lib.hid (Hx7.out.step (bt (ba (Below.refl _ _) _) Hb8.out))
  have hz8 : (w7.alloc (.cells #[] 9)).heap.size = w7.heap.size + 1 := by simp
  rw [hz8] at Hl8
  have HLw := Lib.hid (owns_mono Hl8.out (show w.heap.size + 1 ≤ w7.heap.size + 1 from Nat.succ_le_succ (Hx7.out.below).size))
  have Hap8 := Lib.hid (show ∀ x, (Value.slice la L.length lc).ownBlock = some x → (Value.slice (some ⟨w7.heap.size, 0, none⟩) 0 0).ownBlock ≠ some x from fun x hx e => by
    have h1 := (owns_block Hl8.out hx).1
    simp only [Value.ownBlock, Option.some.injEq] at e
    omega)
  clear Hl8 hz8 a0
  go_loopw [7, 9] (fun nv kv wr => ∃ (k : Nat), k ≤ L.length ∧ kv = .int .i64 k ∧ wr.ownsRow (w.heap.size + 1) 9 1 nv ((L.take k).filter p).length (((L.take k).filter p).map sv) ∧ wr.ownsRow (w.heap.size + 1) 9 1 (.slice la L.length lc) L.length (L.map sv) ∧ (∀ x, (Value.slice la L.length lc).ownBlock = some x → nv.ownBlock ≠ some x) ∧ Boxed w #[.slice aa fs.length ca] 31 wr) (fun _ kv _ => L.length - (intOf kv).toNat)
  case atStart => exact ⟨0, by omega, rfl, HE8.out, HLw.out, Hap8.out, Hx8.out⟩
  case round =>
    obtain ⟨k, hk, rfl, hown, hlist, hap, hbx⟩ := hrel
    obtain ⟨na, nc, rfl⟩ := owns_shape hown
    have Hown := Lib.hid hown
    have Hlist := Lib.hid hlist
    have Hap := Lib.hid hap
    have Hbx := Lib.hid hbx
    have Hbel := Lib.hid hbx.below
    have hsz := hbx.lt
    have hA : wr.cell? ⟨w.heap.size, 0, none⟩ = some (.slice aa fs.length ca) := hbx.cell 0
    clear hown hlist hap hbx HE8 HLw Hap8 Hx8 Hb8 Hx7 Hx6 Hx5
    by_cases hlt : k < L.length
    · obtain ⟨gl, cl, el, hgl1, hgl2⟩ := Hlist.out.form (by omega)
      simp only [Value.slice.injEq] at el
      obtain ⟨rfl, _, rfl⟩ := el
      have hcj : wr.cell? ⟨gl, k, none⟩ = some (.string (mk L[k])) := by
        rw [Hlist.out.cellAt k (by omega), List.getElem?_map, List.getElem?_eq_getElem hlt]; rfl
      have hgs : gl < wr.heap.size := (Hlist.out.lt gl rfl).2
      have hv := Hvs.out _ (List.getElem_mem hlt)
      have Hvn := Lib.hid hv
      have Hsn := Lib.hid (filter_snoc p L k hlt)
      have hll : ((L.take k).filter p).length ≤ 36 := Nat.le_trans (List.length_filter_le _ _) (by rw [List.length_take]; omega)
      have hk1 : (k : Int) < (L.length : Int) := by omega
      have hk0 : (0 : Int) ≤ (k : Int) := by omega
      have Hpn := Lib.hid (show p L[k] = decide (s ∈ edgesOf fs path L[k]) by rw [Hpk.out])
      obtain ⟨nm, hnm⟩ : ∃ nm, nm = L[k] := ⟨_, rfl⟩
      rw [← hnm] at hcj Hvn Hsn Hpn
      clear hv hnm hgl1 hgl2
      have heL := (edgesOf_ok fs path nm).2.2
      have Hk := Lib.hid (fun (w' : World) (hC : Below wr.heap.size wr w') => (⟨(hC.cell (p := ⟨w.heap.size, 0, none⟩) hsz).trans hA, (hC.cell (p := ⟨gl, k, none⟩) hgs).trans hcj, hC⟩ : w'.cell? ⟨w.heap.size, 0, none⟩ = some (.slice aa fs.length ca) ∧ w'.cell? ⟨gl, k, none⟩ = some (.string (mk nm)) ∧ Below wr.heap.size wr w'))
      generalize (L.take k).filter p = ds at *
      obtain ⟨es, hes⟩ : ∃ es, es = edgesOf fs path nm := ⟨_, rfl⟩
      rw [← hes] at Hpn heL
      have Hes := Lib.hid hes.symm
      clear hes
      obtain ⟨pb, hpb⟩ : ∃ b, b = p nm := ⟨_, rfl⟩
      rw [← hpb] at Hsn Hpn
      clear hpb
      cases pb
      · have Hs2 := Lib.hid (show (L.take (k + 1)).filter p = ds by rw [Hsn.out]; simp)
        clear Hsn
        go_wp2_with fail
        go_region_held3 (fun w' => w'.cell? ⟨w.heap.size, 0, none⟩ = some (.slice aa fs.length ca) ∧ w'.cell? ⟨gl, k, none⟩ = some (.string (mk nm)) ∧ Below wr.heap.size wr w')
          (first | exact Hk.out _ Hb9.out | exact Hk.out _ (by (repeat (with_reducible first | exact Below.refl _ _ | assumption | refine ba ?_ _ | refine bd ?_ | refine bdN ?_ _ | refine bs ?_ (by first | exact Nat.le_refl _ | (dsimp only; omega) | (simp; done)) _ | refine bt ?_ (by assumption)))))
          (first
            | (go_at_call 71; refine (spec_edges _ fs D _ path nm _ (Hr.out.below (bt Hbel.out (by (repeat (with_reducible first | exact Below.refl _ _ | assumption | refine ba ?_ _ | refine bd ?_ | refine bdN ?_ _ | refine bs ?_ (by first | exact Nat.le_refl _ | (dsimp only; omega) | (simp; done)) _ | refine bt ?_ (by assumption)))))) Hz.out Hlk.out Hvn.out (Hp.out.below (bt Hbel.out (by (repeat (with_reducible first | exact Below.refl _ _ | assumption | refine ba ?_ _ | refine bd ?_ | refine bdN ?_ _ | refine bs ?_ (by first | exact Nat.le_refl _ | (dsimp only; omega) | (simp; done)) _ | refine bt ?_ (by assumption))))))).mono ?_; rintro _ w9 ⟨v9, rfl, hown9, hb9⟩; rw [Hes.out] at hown9; have Hown9 := Lib.hid hown9; have Hb9 := Lib.hid (show Below wr.heap.size wr w9 by (repeat (with_reducible first | exact Below.refl _ _ | assumption | refine ba ?_ _ | refine bd ?_ | refine bdN ?_ _ | refine bs ?_ (by first | exact Nat.le_refl _ | (dsimp only; omega) | (simp; done)) _ | refine bt ?_ (by assumption)))); clear hown9 hb9)
            | (go_at_call 85; refine (spec_hasText _ es s _ (Reads.of_owns Hown9.out) (by omega)).mono ?_; rintro _ _ ⟨rfl, rfl⟩; rw [← Hpn.out]))
        clear hA hcj
        go_wp2_with fail
        go_roundw
        case rel => exact ⟨k + 1, by omega, by go_num, by rw [Hs2.out]; exact owns_below Hown.out Hb9.out, owns_below Hlist.out Hb9.out, Hap.out, Hbx.out.step Hb9.out⟩
        case measure => simp [intOf]; omega
      · have Hs2 := Lib.hid (show (L.take (k + 1)).filter p = ds ++ [nm] by rw [Hsn.out]; simp)
        clear Hsn
        go_wp2_with fail
        go_region_held3 (fun w' => w'.cell? ⟨w.heap.size, 0, none⟩ = some (.slice aa fs.length ca) ∧ w'.cell? ⟨gl, k, none⟩ = some (.string (mk nm)) ∧ Below wr.heap.size wr w')
          (first | exact Hk.out _ Hb9.out | exact Hk.out _ (by (repeat (with_reducible first | exact Below.refl _ _ | assumption | refine ba ?_ _ | refine bd ?_ | refine bdN ?_ _ | refine bs ?_ (by first | exact Nat.le_refl _ | (dsimp only; omega) | (simp; done)) _ | refine bt ?_ (by assumption)))))
          (first
            | (go_at_call 71; refine (spec_edges _ fs D _ path nm _ (Hr.out.below (bt Hbel.out (by (repeat (with_reducible first | exact Below.refl _ _ | assumption | refine ba ?_ _ | refine bd ?_ | refine bdN ?_ _ | refine bs ?_ (by first | exact Nat.le_refl _ | (dsimp only; omega) | (simp; done)) _ | refine bt ?_ (by assumption)))))) Hz.out Hlk.out Hvn.out (Hp.out.below (bt Hbel.out (by (repeat (with_reducible first | exact Below.refl _ _ | assumption | refine ba ?_ _ | refine bd ?_ | refine bdN ?_ _ | refine bs ?_ (by first | exact Nat.le_refl _ | (dsimp only; omega) | (simp; done)) _ | refine bt ?_ (by assumption))))))).mono ?_; rintro _ w9 ⟨v9, rfl, hown9, hb9⟩; rw [Hes.out] at hown9; have Hown9 := Lib.hid hown9; have Hb9 := Lib.hid (show Below wr.heap.size wr w9 by (repeat (with_reducible first | exact Below.refl _ _ | assumption | refine ba ?_ _ | refine bd ?_ | refine bdN ?_ _ | refine bs ?_ (by first | exact Nat.le_refl _ | (dsimp only; omega) | (simp; done)) _ | refine bt ?_ (by assumption)))); clear hown9 hb9)
            | (go_at_call 85; refine (spec_hasText _ es s _ (Reads.of_owns Hown9.out) (by omega)).mono ?_; rintro _ _ ⟨rfl, rfl⟩; rw [← Hpn.out]))
        clear hA hcj
        obtain ⟨hA, hcj, _⟩ := Hk.out w9 Hb9.out
        have Hown10 := Lib.hid (owns_below Hown.out Hb9.out)
        have Hl10 := Lib.hid (owns_below Hlist.out Hb9.out)
        have Hx10 := Lib.hid (Hbx.out.step Hb9.out)
        have hz10 := Hx10.out.lt
        go_wp2_with (at_builtin; refine wpList_append_own_at _ rfl _ _ 27 rfl (w.heap.size + 1) 9 i0 (.string ByteArray.empty) 1 16 Tryz.underlying27 Hi.out Hz0.out Hz1.out Hz2.out rfl (by decide) _ ds.length _ rfl (Hown10.out.alloc _) ⟨_, 0, none⟩ 1 1 [.string (mk nm)] rfl rfl (new_one (by first | rfl | simp)) (fun x hx => by simp at hx; subst hx; rfl) (by unfold maxLen; omega) (by omega) (by simp; omega) ?_; intro v11 w11 hown11 hgrow11 hnil11 hat11)
        have Hg11 := Lib.hid (gb_step (World.grownBy_alloc w9 (.cells #[.string (mk nm)] 9) (Value.slice na ds.length nc).ownBlock) hgrow11 (fun x hx => .inl hx))
        have Hown11 := Lib.hid (show w11.ownsRow (w.heap.size + 1) 9 1 v11 (ds ++ [nm]).length ((ds ++ [nm]).map sv) by rw [List.length_append, List.map_append]; exact hown11)
        have Hat11 := Lib.hid hat11
        clear hown11 hgrow11 hnil11 hat11
        go_roundw
        case rel =>
          refine ⟨k + 1, by omega, by go_num, by rw [Hs2.out]; exact Hown11.out, owns_heap Hl10.out (fun x hx => Hg11.out.block x (owns_block Hl10.out hx).2 (fun e => Hap.out x hx e.symm)), fun x hx e => ?_, ?_⟩
          · rcases Hat11.out with h | h
            · have h' : v11.ownBlock = (Value.slice na ds.length nc).ownBlock := h
              exact Hap.out x hx (h'.symm.trans e)
            · rw [h] at e
              have h1 := (owns_block Hl10.out hx).2
              simp at e
              omega
          · have h := Hx10.out
            unfold Boxed at h ⊢
            exact h.grown Hg11.out (by simp; omega) (fun x hx => by have := (Hown10.out.lt x hx).1; simp; omega)
        case measure => simp [intOf]; omega
    · obtain rfl : k = L.length := by omega
      rw [List.take_length] at Hown ⊢
      go_wp2_with fail
      go_ret
      refine ⟨_, rfl, ?_, Hbel.out⟩
      rw [Hu.out]
      exact owns_mono Hown.out (Nat.le_succ _)
end Go.Proofs.YtfchakfkgmhagaaGreat
