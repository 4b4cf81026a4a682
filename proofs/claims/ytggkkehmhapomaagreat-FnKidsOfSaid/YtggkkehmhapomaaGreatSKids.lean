/- Contract of the program's function that lists what is found in a package. -/
import Derived.Test.YtggkkehmhapomaaGreatSNames
set_option linter.unusedVariables false
set_option linter.unusedSimpArgs false
namespace Go.Proofs.YtggkkehmhapomaaGreat
open Go.RowKit Go.Proofs.YtggkkehmhapomaaGreat.Nm
open Go.Sort (grow)

theorem kid_snoc (L : List Bs) (p : Bs) (k : Nat) (h : k < L.length) : ((L.take (k + 1)).filter (fun s => decide (parent s = p))).map last = ((L.take k).filter (fun s => decide (parent s = p))).map last ++ (if parent L[k] = p then [last L[k]] else []) := by
  rw [filter_snoc _ L k h, List.map_append]
  by_cases e : parent L[k] = p <;> simp [e]
set_option maxRecDepth 100000 in
set_option maxHeartbeats 2000000 in
theorem impl_KidsOf (v : Value) (fs : List Fil) (D : Nat → Prop) (pv : Value) (path : List Int) (p : Bs) (w : World) (hr : FilsIn w D v fs) (hz : ShortT 2000000 fs) (hp : IntsIn w pv path) :
    Calls Tryz.prog 21 #[.agg #[v], pv, .string (mk p)] w (NewStrs 9 (kidsOf fs path p) w) := by
  obtain ⟨i0, hi, hz0, hz1, hz2⟩ := info_parts infoS
  have Hi := Lib.hid hi
  have Hz0 := Lib.hid hz0
  have Hz1 := Lib.hid hz1
  have Hz2 := Lib.hid hz2
  have Hr := Lib.hid hr
  have Hz := Lib.hid hz
  have Hp := Lib.hid hp
  obtain ⟨aa, ca, rfl, hl, hm⟩ := hr.len
  obtain ⟨pa, pc, rfl, hl1, hm1⟩ := hp.len
  have Hb0 := Lib.hid (Boxed.start w #[.slice aa fs.length ca] 25)
  clear hr hz hp hl hm hl1 hm1 hi hz0 hz1 hz2
  obtain ⟨L, hL⟩ : ∃ L, L = foundNames fs path := ⟨_, rfl⟩
  have hL36 : L.length ≤ 36 := by
    rw [hL]
    unfold foundNames
    split
    · rename_i h
      have ht := okLook_tree h
      have h12 := (okTree_all ht).2.2
      exact Nat.le_trans (List.length_filter_le _ _) (Nat.le_trans (sortUp_len _) (Nat.le_trans (nmOf_len _ (okTree_all ht).1) (by omega)))
    · simp
  have Hvs := Lib.hid (fun x (hx : x ∈ L) => (foundNames_vn (t := fs) (path := path) (s := x) (by rw [← hL]; exact hx)).2)
  have Hk := Lib.hid (show (L.filter (fun s => decide (parent s = p))).map last = kidsOf fs path p by rw [hL]; rfl)
  have HL := Lib.hid hL
  clear hL
  go_enter Tryz.func21, Tryz.ntmps21
  go_wp2_with (go_at_call 9; refine (impl_FoundNames _ fs D _ path _ (Hr.out.below (by (repeat (with_reducible first | exact Below.refl _ _ | assumption | refine ba ?_ _ | refine bd ?_ | refine bdN ?_ _ | refine bs ?_ (by first | exact Nat.le_refl _ | (dsimp only; omega) | (simp; done)) _ | refine bt ?_ (by assumption))))) Hz.out (Hp.out.below (by (repeat (with_reducible first | exact Below.refl _ _ | assumption | refine ba ?_ _ | refine bd ?_ | refine bdN ?_ _ | refine bs ?_ (by first | exact Nat.le_refl _ | (dsimp only; omega) | (simp; done)) _ | refine bt ?_ (by assumption)))))).mono ?_; rintro _ w7 ⟨v7, rfl, hown7, hb7⟩; rw [← HL.out] at hown7; obtain ⟨la, lc, hv7⟩ := owns_shape hown7; subst hv7; have Hl7 := Lib.hid hown7; have Hb7 := Lib.hid (Hb0.out.step hb7).below; clear hown7 hb7)
  go_loopw [7, 14] (fun dv kv wr => ∃ (k : Nat), k ≤ L.length ∧ kv = .int .i64 k ∧ wr.ownsRow w7.heap.size 9 1 dv (((L.take k).filter (fun s => decide (parent s = p))).map last).length ((((L.take k).filter (fun s => decide (parent s = p))).map last).map sv) ∧ Below w7.heap.size w7 wr) (fun _ kv _ => L.length - (intOf kv).toNat)
  case atStart => exact ⟨0, by omega, rfl, World.ownsRow_nil _ _ _ _, Below.refl _ _⟩
  case round =>
    obtain ⟨k, hk, rfl, hown, hbel⟩ := hrel
    have Hown := Lib.hid hown
    have Hbel := Lib.hid hbel
    have hsz := hbel.size
    clear hown
    by_cases hlt : k < L.length
    · have hlist := owns_below Hl7.out hbel
      obtain ⟨gl, cl, el, hgl1, hgl2⟩ := hlist.form (by omega)
      simp only [Value.slice.injEq] at el
      obtain ⟨rfl, _, rfl⟩ := el
      have hcj : wr.cell? ⟨gl, k, none⟩ = some (.string (mk L[k])) := by
        rw [hlist.cellAt k (by omega), List.getElem?_map, List.getElem?_eq_getElem hlt]; rfl
      have hv := Hvs.out _ (List.getElem_mem hlt)
      have hvl := vn_len hv
      have Hsn := Lib.hid (kid_snoc L p k hlt)
      have hll : (((L.take k).filter (fun s => decide (parent s = p))).map last).length ≤ 36 := by
        rw [List.length_map]; exact Nat.le_trans (List.length_filter_le _ _) (by rw [List.length_take]; omega)
      have Hpo := Lib.hid (show parentOf L[k] = parent L[k] by unfold parentOf; rw [if_pos hv])
      have Hlo := Lib.hid (show lastOf L[k] = last L[k] by unfold lastOf; rw [if_pos hv])
      obtain ⟨s, hs⟩ : ∃ s, s = L[k] := ⟨_, rfl⟩
      rw [← hs] at hcj hvl Hsn Hpo Hlo
      clear hs hv hlist hbel
      generalize ((L.take k).filter (fun s => decide (parent s = p))).map last = ds at *
      by_cases he : parent s = p
      · have He := Lib.hid he
        have Hs2 := Lib.hid (show ((L.take (k + 1)).filter (fun s => decide (parent s = p))).map last = ds ++ [last s] by rw [Hsn.out, if_pos he])
        clear he
        go_wp2_with (first
          | (go_at_call 24; refine (impl_ParentOf s _ (by omega)).mono ?_; rintro _ w8 ⟨rfl, hb8⟩; rw [Hpo.out, He.out]; have Hb8 := Lib.hid (show Below wr.heap.size wr w8 by (repeat (with_reducible first | exact Below.refl _ _ | assumption | refine ba ?_ _ | refine bd ?_ | refine bdN ?_ _ | refine bs ?_ (by first | exact Nat.le_refl _ | (dsimp only; omega) | (simp; done)) _ | refine bt ?_ (by assumption)))); clear hb8)
          | (go_at_call 25; refine (impl_LastOf s _ (by omega)).mono ?_; rintro _ w9 ⟨rfl, hb9⟩; rw [Hlo.out]; have Hb9 := Lib.hid (show Below wr.heap.size wr w9 by have := Hb8.out; (repeat (with_reducible first | exact Below.refl _ _ | assumption | refine ba ?_ _ | refine bd ?_ | refine bdN ?_ _ | refine bs ?_ (by first | exact Nat.le_refl _ | (dsimp only; omega) | (simp; done)) _ | refine bt ?_ (by assumption)))); have hz9 := Hb9.out.size; clear hb9)
          | (at_builtin; refine wpList_append_own _ rfl _ _ 29 rfl w7.heap.size 9 i0 (.string ByteArray.empty) 1 16 Tryz.underlying29 Hi.out Hz0.out Hz1.out Hz2.out rfl (by decide) _ ds.length _ rfl ((owns_below Hown.out Hb9.out).alloc _) ⟨_, 0, none⟩ 1 1 [.string (mk (last s))] rfl rfl (new_one (by first | rfl | simp)) (fun x hx => by simp at hx; subst hx; rfl) (by unfold maxLen; omega) (by omega) (by simp; omega) ?_; intro v10 w10 hown10 hgrow10 hnil10))
        have Hx10 := Lib.hid (((Hbel.out.trans (Hb9.out.mono hsz)).alloc (by omega) _).grown hgrow10 (by simp; omega) (fun g hg => (Hown.out.lt g hg).1))
        have Hown10 := Lib.hid (show w10.ownsRow w7.heap.size 9 1 v10 (ds ++ [last s]).length ((ds ++ [last s]).map sv) by rw [List.length_append, List.map_append]; exact hown10)
        clear hown10 hgrow10 hnil10
        go_roundw
        case rel => exact ⟨k + 1, by omega, by go_num, by rw [Hs2.out]; exact Hown10.out, Hx10.out⟩
        case measure => simp [intOf]; omega
      · have Hs2 := Lib.hid (show ((L.take (k + 1)).filter (fun s => decide (parent s = p))).map last = ds by rw [Hsn.out, if_neg he, List.append_nil])
        have hne : (parent s == p) = false := by rw [beq_eq_false_iff_ne]; exact he
        clear he
        go_wp2_with (go_at_call 24; refine (impl_ParentOf s _ (by omega)).mono ?_; rintro _ w8 ⟨rfl, hb8⟩; rw [Hpo.out]; have Hb8 := Lib.hid (show Below wr.heap.size wr w8 by (repeat (with_reducible first | exact Below.refl _ _ | assumption | refine ba ?_ _ | refine bd ?_ | refine bdN ?_ _ | refine bs ?_ (by first | exact Nat.le_refl _ | (dsimp only; omega) | (simp; done)) _ | refine bt ?_ (by assumption)))); clear hb8)
        go_roundw
        case rel => exact ⟨k + 1, by omega, by go_num, by rw [Hs2.out]; exact owns_below Hown.out Hb8.out, Hbel.out.trans (Hb8.out.mono hsz)⟩
        case measure => simp [intOf]; omega
    · obtain rfl : k = L.length := by omega
      have Hf := Lib.hid (show ((L.take L.length).filter (fun s => decide (parent s = p))).map last = kidsOf fs path p by rw [List.take_length]; exact Hk.out)
      go_wp2_with fail
      go_ret
      exact ⟨_, rfl, owns_mono (by rw [← Hf.out]; exact Hown.out) Hb7.out.size, Hb7.out.trans (hbel.mono Hb7.out.size)⟩

theorem kids_at {t : List Fil} {path : List Int} {p : Bs} (h : okLook t path = true) (hp : (p.isEmpty || isPack t path p) = true) : sortUp (((allNames t).filter (fun s => decide (parent s = p) && decide ((byParts t path s).kind ≠ 0))).map last) = kidsOf t path p := by
  rw [← kids_eq, kidsOf', h, hp]; rfl
theorem kids_no {t : List Fil} {path : List Int} {p : Bs} (h : (okLook t path && (p.isEmpty || isPack t path p)) = false) : kidsOf t path p = [] := by
  rw [← kids_eq, kidsOf', h]; rfl
set_option maxRecDepth 100000 in
set_option maxHeartbeats 8000000 in
theorem spec_KidsOf (v : Value) (fs : List Fil) (D : Nat → Prop) (pv : Value) (path : List Int) (p : Bs) (w : World) (hr : FilsIn w D v fs) (hz : ShortT 2000000 fs) (hp : IntsIn w pv path) (hsl : p.length ≤ 8000000) :
    Calls Tryz.prog 22 #[.agg #[v], pv, .string (mk p)] w (NewStrs 9 (kidsOf fs path p) w) := by
  have Hr := Lib.hid hr
  have Hz := Lib.hid hz
  have Hz3 := Lib.hid (short2 (B := 3000000) (by omega) hz)
  have Hp := Lib.hid hp
  obtain ⟨aa, ca, rfl, hl, hm⟩ := hr.len
  obtain ⟨pa, pc, rfl, hl1, hm1⟩ := hp.len
  have Hb0 := Lib.hid (Boxed.start w #[.slice aa fs.length ca] 25)
  have hf0 := fld0
  clear hr hz hp hl hm hl1 hm1
  cases h1 : okTree fs
  · have H1 := Lib.hid h1
    have Hs := Lib.hid (kids_no (t := fs) (path := path) (p := p) (by unfold okLook; rw [h1]; simp))
    clear h1
    go_enter Tryz.func22, Tryz.ntmps22
    go_wp2_with (go_at_call 47; refine (spec_validTree _ fs D _ (Hr.out.below (by (repeat (with_reducible first | exact Below.refl _ _ | assumption | refine ba ?_ _ | refine bd ?_ | refine bdN ?_ _ | refine bs ?_ (by first | exact Nat.le_refl _ | (dsimp only; omega) | (simp; done)) _ | refine bt ?_ (by assumption))))) Hz3.out).mono ?_; rintro _ w5 ⟨rfl, hb5⟩; rw [H1.out]; have Hx5 := Lib.hid (Hb0.out.step hb5); have a0 : w5.cell? ⟨w.heap.size, 0, none⟩ = some (.slice aa fs.length ca) := Hx5.out.cell 0; clear hb5)
    go_ret
    exact newStrs_no Hs.out Hx5.out.below
  cases h2 : okPath path
  · have H1 := Lib.hid h1
    have H2 := Lib.hid h2
    have Hs := Lib.hid (kids_no (t := fs) (path := path) (p := p) (by unfold okLook; rw [h2]; simp))
    clear h1 h2
    go_enter Tryz.func22, Tryz.ntmps22
    go_wp2_with (first
      | (go_at_call 47; refine (spec_validTree _ fs D _ (Hr.out.below (by (repeat (with_reducible first | exact Below.refl _ _ | assumption | refine ba ?_ _ | refine bd ?_ | refine bdN ?_ _ | refine bs ?_ (by first | exact Nat.le_refl _ | (dsimp only; omega) | (simp; done)) _ | refine bt ?_ (by assumption))))) Hz3.out).mono ?_; rintro _ w5 ⟨rfl, hb5⟩; rw [H1.out]; have Hx5 := Lib.hid (Hb0.out.step hb5); have a0 : w5.cell? ⟨w.heap.size, 0, none⟩ = some (.slice aa fs.length ca) := Hx5.out.cell 0; clear hb5)
      | (go_at_call 48; refine (spec_validPath _ path _ (Hp.out.below (by have := Hx5.out.below; (repeat (with_reducible first | exact Below.refl _ _ | assumption | refine ba ?_ _ | refine bd ?_ | refine bdN ?_ _ | refine bs ?_ (by first | exact Nat.le_refl _ | (dsimp only; omega) | (simp; done)) _ | refine bt ?_ (by assumption)))))).mono ?_; rintro _ w6 ⟨rfl, hb6⟩; rw [H2.out]; have Hx6 := Lib.hid (Hx5.out.step hb6); clear a0; have a0 : w6.cell? ⟨w.heap.size, 0, none⟩ = some (.slice aa fs.length ca) := Hx6.out.cell 0; have hlt6 := Hx6.out.lt; clear hb6))
    go_ret
    exact newStrs_no Hs.out Hx6.out.below
  have H1 := Lib.hid h1
  have H2 := Lib.hid h2
  have Ht := Lib.hid h1
  have h3 := okPath_len h2
  have h12 := (okTree_all h1).2.2
  have Hvs := Lib.hid (fun x (hx : x ∈ allNames fs) => allNames_vn h1 hx)
  have hL36 : (allNames fs).length ≤ 36 := Nat.le_trans (sortUp_len _) (Nat.le_trans (nmOf_len _ (okTree_all h1).1) (by omega))
  have Hlook := Lib.hid (okLook_of h1 h2)
  clear h1 h2
  obtain ⟨q, hqk⟩ : ∃ q : Bs → Bool, q = fun s => decide (parent s = p) && decide ((byParts fs path s).kind ≠ 0) := ⟨_, rfl⟩
  by_cases hp0 : p = []
  · have Hh := Lib.hid (kids_at (p := p) Hlook.out (by rw [hp0]; rfl))
    rw [← hqk] at Hh
    have Hqk := Lib.hid hqk
    clear hqk
    have hd : p.isEmpty = true := by rw [hp0]; rfl
    clear hp0
    go_enter Tryz.func22, Tryz.ntmps22
    go_wp2_with (first
      | (go_at_call 47; refine (spec_validTree _ fs D _ (Hr.out.below (by (repeat (with_reducible first | exact Below.refl _ _ | assumption | refine ba ?_ _ | refine bd ?_ | refine bdN ?_ _ | refine bs ?_ (by first | exact Nat.le_refl _ | (dsimp only; omega) | (simp; done)) _ | refine bt ?_ (by assumption))))) Hz3.out).mono ?_; rintro _ w5 ⟨rfl, hb5⟩; rw [H1.out]; have Hx5 := Lib.hid (Hb0.out.step hb5); have a0 : w5.cell? ⟨w.heap.size, 0, none⟩ = some (.slice aa fs.length ca) := Hx5.out.cell 0; clear hb5)
      | (go_at_call 48; refine (spec_validPath _ path _ (Hp.out.below (by have := Hx5.out.below; (repeat (with_reducible first | exact Below.refl _ _ | assumption | refine ba ?_ _ | refine bd ?_ | refine bdN ?_ _ | refine bs ?_ (by first | exact Nat.le_refl _ | (dsimp only; omega) | (simp; done)) _ | refine bt ?_ (by assumption)))))).mono ?_; rintro _ w6 ⟨rfl, hb6⟩; rw [H2.out]; have Hx6 := Lib.hid (Hx5.out.step hb6); clear a0; have a0 : w6.cell? ⟨w.heap.size, 0, none⟩ = some (.slice aa fs.length ca) := Hx6.out.cell 0; have hlt6 := Hx6.out.lt; clear hb6)
      | (go_at_call 49; refine (spec_names _ fs D _ (Hr.out.below (by have := Hx6.out.below; (repeat (with_reducible first | exact Below.refl _ _ | assumption | refine ba ?_ _ | refine bd ?_ | refine bdN ?_ _ | refine bs ?_ (by first | exact Nat.le_refl _ | (dsimp only; omega) | (simp; done)) _ | refine bt ?_ (by assumption))))) Hz.out Ht.out).mono ?_; rintro _ w7 ⟨v7, rfl, hown7, hb7⟩; obtain ⟨la, lc, hv7⟩ := owns_shape hown7; subst hv7; have Hl7 := Lib.hid hown7; have Hb7 := Lib.hid hb7; clear hown7 hb7))
    have Hx7 := Lib.hid (Hx6.out.step (bt (ba (Below.refl _ _) _) Hb7.out))
    have Hown0 := Lib.hid (owns_below (World.ownsRow_made (base := w.heap.size + 1) (size := 1) (e := 9) w6 #[] 0 (by omega) (by unfold maxLen; omega) rfl) Hb7.out)
    have hst7 : w6.heap.size < (w6.alloc (.cells #[] 9)).heap.size := by simp
    generalize hLL : allNames fs = L at *
    obtain ⟨Q, hQ⟩ : ∃ Q, Q = (w6.alloc (.cells #[] 9)).heap.size := ⟨_, rfl⟩
    rw [← hQ] at Hl7 hst7
    clear hQ
    go_loopw [7, 9] (fun dv kv wr => ∃ (k g cap : Nat), k ≤ L.length ∧ kv = .int .i64 k ∧ dv = .slice (some ⟨g, 0, none⟩) (sortUp (((L.take k).filter q).map last)).length cap ∧ wr.ownsRow (w.heap.size + 1) 9 1 (.slice (some ⟨g, 0, none⟩) (sortUp (((L.take k).filter q).map last)).length cap) (sortUp (((L.take k).filter q).map last)).length ((sortUp (((L.take k).filter q).map last)).map sv) ∧ Boxed w #[.slice aa fs.length ca] 25 wr ∧ wr.ownsRow Q 9 1 (.slice la L.length lc) L.length (L.map sv) ∧ (∀ b', (Value.slice la L.length lc).ownBlock = some b' → b' ≠ g)) (fun _ kv _ => L.length - (intOf kv).toNat)
    case atStart =>
      have e0 : sortUp (((L.take 0).filter q).map last) = [] := by simp [sortUp]
      refine ⟨0, w6.heap.size, 0, by omega, rfl, ?_, ?_, Hx7.out, Hl7.out, fun b' hb' e => by have h1 := (Hl7.out.lt b' hb').1; omega⟩
      · rw [e0]; rfl
      · rw [e0]; exact Hown0.out
    case round =>
      obtain ⟨k, g, cap, hk, rfl, rfl, hown, hbx, hlist, hdis⟩ := hrel
      have hbel := hbx.below
      have hsz := hbx.lt
      have hA : wr.cell? ⟨w.heap.size, 0, none⟩ = some (.slice aa fs.length ca) := hbx.cell 0
      have Hown := Lib.hid hown
      have Hbx := Lib.hid hbx
      have Hbel := Lib.hid hbel
      have Hlist := Lib.hid hlist
      have Hdis := Lib.hid hdis
      have Hup := Lib.hid (sortUp_up (((L.take k).filter q).map last))
      have hll : (sortUp (((L.take k).filter q).map last)).length ≤ 36 := Nat.le_trans (sortUp_len _) (by rw [List.length_map]; exact Nat.le_trans (List.length_filter_le _ _) (by rw [List.length_take]; omega))
      clear hown hbx hdis a0 Hx7 Hown0 Hb7 Hl7
      by_cases hlt : k < L.length
      · obtain ⟨gl, cl, el, hgl1, hgl2⟩ := hlist.form (by omega)
        simp only [Value.slice.injEq] at el
        obtain ⟨rfl, _, rfl⟩ := el
        have hcj : wr.cell? ⟨gl, k, none⟩ = some (.string (mk L[k])) := by
          rw [hlist.cellAt k (by omega), List.getElem?_map, List.getElem?_eq_getElem hlt]; rfl
        have hgs : gl < wr.heap.size := (hlist.lt gl rfl).2
        have hne : gl ≠ g := Hdis.out gl rfl
        have hv := Hvs.out _ (List.getElem_mem hlt)
        have Hsn := Lib.hid (filter_snoc q L k hlt)
        have hk1 : (k : Int) < (L.length : Int) := by omega
        have hk0 : (0 : Int) ≤ (k : Int) := by omega
        obtain ⟨nm, hnm⟩ : ∃ nm, nm = L[k] := ⟨_, rfl⟩
        rw [← hnm] at hcj hv Hsn
        have Hvn := Lib.hid hv
        have hvl := vn_len hv
        have hpn : q nm = (decide (parent nm = p) && decide ((byParts fs path nm).kind ≠ 0)) := by rw [Hqk.out]
        obtain ⟨sp, hsp⟩ : ∃ sp, sp = byParts fs path nm := ⟨_, rfl⟩
        rw [← hsp] at hpn
        have Hsp := Lib.hid hsp
        have Hk := Lib.hid (fun (w' : World) (hC : Below wr.heap.size wr w') => (⟨(hC.cell (p := ⟨w.heap.size, 0, none⟩) hsz).trans hA, (hC.cell (p := ⟨gl, k, none⟩) hgs).trans hcj, hC⟩ : w'.cell? ⟨w.heap.size, 0, none⟩ = some (.slice aa fs.length ca) ∧ w'.cell? ⟨gl, k, none⟩ = some (.string (mk nm)) ∧ Below wr.heap.size wr w'))
        clear hv hnm hsp hlist hbel
        have Hs0 := Lib.hid (show q nm = false → sortUp (((L.take (k + 1)).filter q).map last) = sortUp (((L.take k).filter q).map last) from fun h => by rw [Hsn.out, h]; simp)
        have Hs1 := Lib.hid (show q nm = true → sortUp (((L.take (k + 1)).filter q).map last) = insTo (sortUp (((L.take k).filter q).map last)) (last nm) from fun h => by rw [Hsn.out, if_pos h, List.map_append, List.map_cons, List.map_nil, sortUp_snoc])
        generalize sortUp (((L.take k).filter q).map last) = ds at *
        obtain ⟨sk, sf, sr⟩ := sp
        dsimp only at hpn
        by_cases hq : parent nm = p
        · have hq1 : (parent nm == p) = true := by simp [hq]
          have Hq := Lib.hid hq
          clear hq
          by_cases he : sk = 0
          · have Hs2 := Lib.hid (Hs0.out (by rw [hpn]; simp [he]))
            subst he
            clear hpn
            go_wp2_with fail
            go_region_held3 (fun w' => w'.cell? ⟨w.heap.size, 0, none⟩ = some (.slice aa fs.length ca) ∧ w'.cell? ⟨gl, k, none⟩ = some (.string (mk nm)) ∧ Below wr.heap.size wr w')
              (exact Hk.out _ (by (repeat (with_reducible first | exact Below.refl _ _ | assumption | refine ba ?_ _ | refine bd ?_ | refine bdN ?_ _ | refine bs ?_ (by first | exact Nat.le_refl _ | (dsimp only; omega) | (simp; done)) _ | refine bt ?_ (by assumption)))))
              (first
                | (go_at_call 61; refine (spec_parent nm _ (by omega)).mono ?_; rintro _ w8 ⟨rfl, hb8⟩)
                | (go_at_call 50; refine (spec_find _ fs D _ path nm _ (Hr.out.below (bt Hbel.out (by (repeat (with_reducible first | exact Below.refl _ _ | assumption | refine ba ?_ _ | refine bd ?_ | refine bdN ?_ _ | refine bs ?_ (by first | exact Nat.le_refl _ | (dsimp only; omega) | (simp; done)) _ | refine bt ?_ (by assumption)))))) Hz.out Ht.out Hvn.out (Hp.out.below (bt Hbel.out (by (repeat (with_reducible first | exact Below.refl _ _ | assumption | refine ba ?_ _ | refine bd ?_ | refine bdN ?_ _ | refine bs ?_ (by first | exact Nat.le_refl _ | (dsimp only; omega) | (simp; done)) _ | refine bt ?_ (by assumption)))))) (by omega)).mono ?_; rintro _ w9 ⟨v9, rfl, hown9, hb9⟩; rw [← Hsp.out]; rw [← Hsp.out] at hown9; dsimp only at hown9 ⊢; obtain ⟨a9, c9, hv9⟩ := owns_shape hown9; subst hv9; clear hown9))
            have Hb9 := Lib.hid (show Below wr.heap.size wr w9 by (repeat (with_reducible first | exact Below.refl _ _ | assumption | refine ba ?_ _ | refine bd ?_ | refine bdN ?_ _ | refine bs ?_ (by first | exact Nat.le_refl _ | (dsimp only; omega) | (simp; done)) _ | refine bt ?_ (by assumption))))
            clear hA hcj
            go_wp2_with fail
            go_roundw
            case rel => exact ⟨k + 1, g, cap, by omega, by go_num, by rw [Hs2.out], by rw [Hs2.out]; exact owns_below Hown.out Hb9.out, Hbx.out.step Hb9.out, owns_below Hlist.out Hb9.out, Hdis.out⟩
            case measure => simp [intOf]; omega
          · have Hs2 := Lib.hid (Hs1.out (by rw [hpn, Hq.out]; simp [he]))
            have hne0 : (sk == (0 : Int)) = false := by rw [beq_eq_false_iff_ne]; exact he
            have hne2 : (sk != (0 : Int)) = true := by rw [bne, hne0]; rfl
            clear he hpn
            go_wp2_with fail
            go_region_held3 (fun w' => w'.cell? ⟨w.heap.size, 0, none⟩ = some (.slice aa fs.length ca) ∧ w'.cell? ⟨gl, k, none⟩ = some (.string (mk nm)) ∧ Below wr.heap.size wr w')
              (exact Hk.out _ (by (repeat (with_reducible first | exact Below.refl _ _ | assumption | refine ba ?_ _ | refine bd ?_ | refine bdN ?_ _ | refine bs ?_ (by first | exact Nat.le_refl _ | (dsimp only; omega) | (simp; done)) _ | refine bt ?_ (by assumption)))))
              (first
                | (go_at_call 61; refine (spec_parent nm _ (by omega)).mono ?_; rintro _ w8 ⟨rfl, hb8⟩)
                | (go_at_call 50; refine (spec_find _ fs D _ path nm _ (Hr.out.below (bt Hbel.out (by (repeat (with_reducible first | exact Below.refl _ _ | assumption | refine ba ?_ _ | refine bd ?_ | refine bdN ?_ _ | refine bs ?_ (by first | exact Nat.le_refl _ | (dsimp only; omega) | (simp; done)) _ | refine bt ?_ (by assumption)))))) Hz.out Ht.out Hvn.out (Hp.out.below (bt Hbel.out (by (repeat (with_reducible first | exact Below.refl _ _ | assumption | refine ba ?_ _ | refine bd ?_ | refine bdN ?_ _ | refine bs ?_ (by first | exact Nat.le_refl _ | (dsimp only; omega) | (simp; done)) _ | refine bt ?_ (by assumption)))))) (by omega)).mono ?_; rintro _ w9 ⟨v9, rfl, hown9, hb9⟩; rw [← Hsp.out]; rw [← Hsp.out] at hown9; dsimp only at hown9 ⊢; obtain ⟨a9, c9, hv9⟩ := owns_shape hown9; subst hv9; clear hown9))
            have Hb9 := Lib.hid (show Below wr.heap.size wr w9 by (repeat (with_reducible first | exact Below.refl _ _ | assumption | refine ba ?_ _ | refine bd ?_ | refine bdN ?_ _ | refine bs ?_ (by first | exact Nat.le_refl _ | (dsimp only; omega) | (simp; done)) _ | refine bt ?_ (by assumption))))
            have hz9 := Hb9.out.size
            clear hA hcj
            obtain ⟨hA, hcj, _⟩ := Hk.out w9 Hb9.out
            have Hown9 := Lib.hid (owns_below Hown.out Hb9.out)
            go_wp2_with (first
              | (go_at_call 63; refine (spec_last nm _ (by omega)).mono ?_; rintro _ w10 ⟨rfl, hb10⟩; have Hb10 := Lib.hid (show Below w9.heap.size w9 w10 by (repeat (with_reducible first | exact Below.refl _ _ | assumption | refine ba ?_ _ | refine bd ?_ | refine bdN ?_ _ | refine bs ?_ (by first | exact Nat.le_refl _ | (dsimp only; omega) | (simp; done)) _ | refine bt ?_ (by assumption)))); have hz10 := Hb10.out.size; clear hb10)
              | (go_at_call 62; refine (spec_insertText (w.heap.size + 1) g cap ds (last nm) _ (owns_below Hown9.out Hb10.out) Hup.out (by omega) (by omega)).mono ?_; rintro _ w11 ⟨g11, c11, rfl, hown11, hb11, ht11, hq11⟩))
            have Hown11 := Lib.hid hown11
            have Hx11 := Lib.hid (boxed_low (Hbx.out.step (bt Hb9.out Hb10.out)) hb11)
            have Hl11 := Lib.hid (owns_turned (owns_below Hlist.out (bt Hb9.out Hb10.out)) ht11 (fun b hb e => hne (by cases hb; exact e)))
            have hne11 : gl ≠ g11 := by omega
            clear hown11 hb11 ht11
            go_roundw
            case rel => exact ⟨k + 1, g11, c11, by omega, by go_num, by rw [Hs2.out], by rw [Hs2.out]; exact Hown11.out, Hx11.out, Hl11.out, fun b hb => by cases hb; exact hne11⟩
            case measure => simp [intOf]; omega
        · have hq1 : (parent nm == p) = false := by rw [beq_eq_false_iff_ne]; exact hq
          have Hs2 := Lib.hid (Hs0.out (by rw [hpn]; simp [hq]))
          clear hq hpn
          have kA := cell_regrown hA
          have kB := cell_regrown hcj
          have cP : ∀ d os, Calls Tryz.prog 61 #[.string (mk nm)] (grow (redrawn wr d) os) fun e w'' => e = .returned (.string (mk (parent nm))) ∧ ∃ p : Regrown, w'' = grow (redrawn wr p.d) p.os := fun d os => Calls.regrown_of (spec_parent nm (grow (redrawn wr d) os) (by omega))
          go_wp2_with fail
          refine wp_region_quiet_below (by kernel_rfl) (by kernel_rfl) ?_
          repeat (go_big_quiet_step (exact cP _ _))
          refine wpQuiet_nil ?_
          intro _ hw'
          obtain ⟨⟨dq, osq⟩, hw2⟩ := hw'
          subst hw2
          have Hb9 := Lib.hid (below_regrown wr dq osq)
          clear cP kA kB hA hcj
          go_wp2_with fail
          go_roundw
          case rel => exact ⟨k + 1, g, cap, by omega, by go_num, by rw [Hs2.out], by rw [Hs2.out]; exact owns_below Hown.out Hb9.out, Hbx.out.step Hb9.out, owns_below Hlist.out Hb9.out, Hdis.out⟩
          case measure => simp [intOf]; omega
      · obtain rfl : k = L.length := by omega
        have Hf := Lib.hid (show sortUp (((L.take L.length).filter q).map last) = kidsOf fs path p by rw [List.take_length]; exact Hh.out)
        clear hlist
        go_wp2_with fail
        go_ret
        refine ⟨_, rfl, ?_, hbel⟩
        rw [← Hf.out]
        exact owns_mono Hown.out (by omega)
  · have hd : p.isEmpty = false := by simpa using hp0
    clear hp0
    cases h4 : isPack fs path p
    · have H3 := Lib.hid h4
      have Hs := Lib.hid (kids_no (t := fs) (path := path) (p := p) (by rw [hd, h4]; simp))
      clear h4 hqk
      go_enter Tryz.func22, Tryz.ntmps22
      go_wp2_with (first
        | (go_at_call 47; refine (spec_validTree _ fs D _ (Hr.out.below (by (repeat (with_reducible first | exact Below.refl _ _ | assumption | refine ba ?_ _ | refine bd ?_ | refine bdN ?_ _ | refine bs ?_ (by first | exact Nat.le_refl _ | (dsimp only; omega) | (simp; done)) _ | refine bt ?_ (by assumption))))) Hz3.out).mono ?_; rintro _ w5 ⟨rfl, hb5⟩; rw [H1.out]; have Hx5 := Lib.hid (Hb0.out.step hb5); have a0 : w5.cell? ⟨w.heap.size, 0, none⟩ = some (.slice aa fs.length ca) := Hx5.out.cell 0; clear hb5)
        | (go_at_call 48; refine (spec_validPath _ path _ (Hp.out.below (by have := Hx5.out.below; (repeat (with_reducible first | exact Below.refl _ _ | assumption | refine ba ?_ _ | refine bd ?_ | refine bdN ?_ _ | refine bs ?_ (by first | exact Nat.le_refl _ | (dsimp only; omega) | (simp; done)) _ | refine bt ?_ (by assumption)))))).mono ?_; rintro _ w6 ⟨rfl, hb6⟩; rw [H2.out]; have Hx6 := Lib.hid (Hx5.out.step hb6); clear a0; have a0 : w6.cell? ⟨w.heap.size, 0, none⟩ = some (.slice aa fs.length ca) := Hx6.out.cell 0; have hlt6 := Hx6.out.lt; clear hb6)
        | (go_at_call 60; refine (spec_IsPackage _ fs D _ path p _ (Hr.out.below (by have := Hx6.out.below; (repeat (with_reducible first | exact Below.refl _ _ | assumption | refine ba ?_ _ | refine bd ?_ | refine bdN ?_ _ | refine bs ?_ (by first | exact Nat.le_refl _ | (dsimp only; omega) | (simp; done)) _ | refine bt ?_ (by assumption))))) Hz.out (Hp.out.below (by have := Hx6.out.below; (repeat (with_reducible first | exact Below.refl _ _ | assumption | refine ba ?_ _ | refine bd ?_ | refine bdN ?_ _ | refine bs ?_ (by first | exact Nat.le_refl _ | (dsimp only; omega) | (simp; done)) _ | refine bt ?_ (by assumption))))) hsl).mono ?_; rintro _ w6b ⟨rfl, hb6⟩; rw [H3.out]; have Hx6b := Lib.hid (Hx6.out.step hb6); clear a0; have a0 : w6b.cell? ⟨w.heap.size, 0, none⟩ = some (.slice aa fs.length ca) := Hx6b.out.cell 0; have hlt6b := Hx6b.out.lt; clear hb6))
      go_ret
      exact newStrs_no Hs.out Hx6b.out.below
    · have H3 := Lib.hid h4
      have Hh := Lib.hid (kids_at (p := p) Hlook.out (by rw [h4]; simp))
      rw [← hqk] at Hh
      have Hqk := Lib.hid hqk
      clear hqk h4
      go_enter Tryz.func22, Tryz.ntmps22
      go_wp2_with (first
        | (go_at_call 47; refine (spec_validTree _ fs D _ (Hr.out.below (by (repeat (with_reducible first | exact Below.refl _ _ | assumption | refine ba ?_ _ | refine bd ?_ | refine bdN ?_ _ | refine bs ?_ (by first | exact Nat.le_refl _ | (dsimp only; omega) | (simp; done)) _ | refine bt ?_ (by assumption))))) Hz3.out).mono ?_; rintro _ w5 ⟨rfl, hb5⟩; rw [H1.out]; have Hx5 := Lib.hid (Hb0.out.step hb5); have a0 : w5.cell? ⟨w.heap.size, 0, none⟩ = some (.slice aa fs.length ca) := Hx5.out.cell 0; clear hb5)
        | (go_at_call 48; refine (spec_validPath _ path _ (Hp.out.below (by have := Hx5.out.below; (repeat (with_reducible first | exact Below.refl _ _ | assumption | refine ba ?_ _ | refine bd ?_ | refine bdN ?_ _ | refine bs ?_ (by first | exact Nat.le_refl _ | (dsimp only; omega) | (simp; done)) _ | refine bt ?_ (by assumption)))))).mono ?_; rintro _ w6 ⟨rfl, hb6⟩; rw [H2.out]; have Hx6 := Lib.hid (Hx5.out.step hb6); clear a0; have a0 : w6.cell? ⟨w.heap.size, 0, none⟩ = some (.slice aa fs.length ca) := Hx6.out.cell 0; have hlt6 := Hx6.out.lt; clear hb6)
        | (go_at_call 60; refine (spec_IsPackage _ fs D _ path p _ (Hr.out.below (by have := Hx6.out.below; (repeat (with_reducible first | exact Below.refl _ _ | assumption | refine ba ?_ _ | refine bd ?_ | refine bdN ?_ _ | refine bs ?_ (by first | exact Nat.le_refl _ | (dsimp only; omega) | (simp; done)) _ | refine bt ?_ (by assumption))))) Hz.out (Hp.out.below (by have := Hx6.out.below; (repeat (with_reducible first | exact Below.refl _ _ | assumption | refine ba ?_ _ | refine bd ?_ | refine bdN ?_ _ | refine bs ?_ (by first | exact Nat.le_refl _ | (dsimp only; omega) | (simp; done)) _ | refine bt ?_ (by assumption))))) hsl).mono ?_; rintro _ w6b ⟨rfl, hb6⟩; rw [H3.out]; have Hx6b := Lib.hid (Hx6.out.step hb6); clear a0; have a0 : w6b.cell? ⟨w.heap.size, 0, none⟩ = some (.slice aa fs.length ca) := Hx6b.out.cell 0; have hlt6b := Hx6b.out.lt; clear hb6)
        | (go_at_call 49; refine (spec_names _ fs D _ (Hr.out.below (by have := Hx6b.out.below; (repeat (with_reducible first | exact Below.refl _ _ | assumption | refine ba ?_ _ | refine bd ?_ | refine bdN ?_ _ | refine bs ?_ (by first | exact Nat.le_refl _ | (dsimp only; omega) | (simp; done)) _ | refine bt ?_ (by assumption))))) Hz.out Ht.out).mono ?_; rintro _ w7 ⟨v7, rfl, hown7, hb7⟩; obtain ⟨la, lc, hv7⟩ := owns_shape hown7; subst hv7; have Hl7 := Lib.hid hown7; have Hb7 := Lib.hid hb7; clear hown7 hb7))
      have Hx7 := Lib.hid (Hx6b.out.step (bt (ba (Below.refl _ _) _) Hb7.out))
      have Hown0 := Lib.hid (owns_below (World.ownsRow_made (base := w.heap.size + 1) (size := 1) (e := 9) w6b #[] 0 (by omega) (by unfold maxLen; omega) rfl) Hb7.out)
      have hst7 : w6b.heap.size < (w6b.alloc (.cells #[] 9)).heap.size := by simp
      generalize hLL : allNames fs = L at *
      obtain ⟨Q, hQ⟩ : ∃ Q, Q = (w6b.alloc (.cells #[] 9)).heap.size := ⟨_, rfl⟩
      rw [← hQ] at Hl7 hst7
      clear hQ
      go_loopw [7, 9] (fun dv kv wr => ∃ (k g cap : Nat), k ≤ L.length ∧ kv = .int .i64 k ∧ dv = .slice (some ⟨g, 0, none⟩) (sortUp (((L.take k).filter q).map last)).length cap ∧ wr.ownsRow (w.heap.size + 1) 9 1 (.slice (some ⟨g, 0, none⟩) (sortUp (((L.take k).filter q).map last)).length cap) (sortUp (((L.take k).filter q).map last)).length ((sortUp (((L.take k).filter q).map last)).map sv) ∧ Boxed w #[.slice aa fs.length ca] 25 wr ∧ wr.ownsRow Q 9 1 (.slice la L.length lc) L.length (L.map sv) ∧ (∀ b', (Value.slice la L.length lc).ownBlock = some b' → b' ≠ g)) (fun _ kv _ => L.length - (intOf kv).toNat)
      case atStart =>
        have e0 : sortUp (((L.take 0).filter q).map last) = [] := by simp [sortUp]
        refine ⟨0, w6b.heap.size, 0, by omega, rfl, ?_, ?_, Hx7.out, Hl7.out, fun b' hb' e => by have h1 := (Hl7.out.lt b' hb').1; omega⟩
        · rw [e0]; rfl
        · rw [e0]; exact Hown0.out
      case round =>
        obtain ⟨k, g, cap, hk, rfl, rfl, hown, hbx, hlist, hdis⟩ := hrel
        have hbel := hbx.below
        have hsz := hbx.lt
        have hA : wr.cell? ⟨w.heap.size, 0, none⟩ = some (.slice aa fs.length ca) := hbx.cell 0
        have Hown := Lib.hid hown
        have Hbx := Lib.hid hbx
        have Hbel := Lib.hid hbel
        have Hlist := Lib.hid hlist
        have Hdis := Lib.hid hdis
        have Hup := Lib.hid (sortUp_up (((L.take k).filter q).map last))
        have hll : (sortUp (((L.take k).filter q).map last)).length ≤ 36 := Nat.le_trans (sortUp_len _) (by rw [List.length_map]; exact Nat.le_trans (List.length_filter_le _ _) (by rw [List.length_take]; omega))
        clear hown hbx hdis a0 Hx7 Hown0 Hb7 Hl7
        by_cases hlt : k < L.length
        · obtain ⟨gl, cl, el, hgl1, hgl2⟩ := hlist.form (by omega)
          simp only [Value.slice.injEq] at el
          obtain ⟨rfl, _, rfl⟩ := el
          have hcj : wr.cell? ⟨gl, k, none⟩ = some (.string (mk L[k])) := by
            rw [hlist.cellAt k (by omega), List.getElem?_map, List.getElem?_eq_getElem hlt]; rfl
          have hgs : gl < wr.heap.size := (hlist.lt gl rfl).2
          have hne : gl ≠ g := Hdis.out gl rfl
          have hv := Hvs.out _ (List.getElem_mem hlt)
          have Hsn := Lib.hid (filter_snoc q L k hlt)
          have hk1 : (k : Int) < (L.length : Int) := by omega
          have hk0 : (0 : Int) ≤ (k : Int) := by omega
          obtain ⟨nm, hnm⟩ : ∃ nm, nm = L[k] := ⟨_, rfl⟩
          rw [← hnm] at hcj hv Hsn
          have Hvn := Lib.hid hv
          have hvl := vn_len hv
          have hpn : q nm = (decide (parent nm = p) && decide ((byParts fs path nm).kind ≠ 0)) := by rw [Hqk.out]
          obtain ⟨sp, hsp⟩ : ∃ sp, sp = byParts fs path nm := ⟨_, rfl⟩
          rw [← hsp] at hpn
          have Hsp := Lib.hid hsp
          have Hk := Lib.hid (fun (w' : World) (hC : Below wr.heap.size wr w') => (⟨(hC.cell (p := ⟨w.heap.size, 0, none⟩) hsz).trans hA, (hC.cell (p := ⟨gl, k, none⟩) hgs).trans hcj, hC⟩ : w'.cell? ⟨w.heap.size, 0, none⟩ = some (.slice aa fs.length ca) ∧ w'.cell? ⟨gl, k, none⟩ = some (.string (mk nm)) ∧ Below wr.heap.size wr w'))
          clear hv hnm hsp hlist hbel
          have Hs0 := Lib.hid (show q nm = false → sortUp (((L.take (k + 1)).filter q).map last) = sortUp (((L.take k).filter q).map last) from fun h => by rw [Hsn.out, h]; simp)
          have Hs1 := Lib.hid (show q nm = true → sortUp (((L.take (k + 1)).filter q).map last) = insTo (sortUp (((L.take k).filter q).map last)) (last nm) from fun h => by rw [Hsn.out, if_pos h, List.map_append, List.map_cons, List.map_nil, sortUp_snoc])
          generalize sortUp (((L.take k).filter q).map last) = ds at *
          obtain ⟨sk, sf, sr⟩ := sp
          dsimp only at hpn
          by_cases hq : parent nm = p
          · have hq1 : (parent nm == p) = true := by simp [hq]
            have Hq := Lib.hid hq
            clear hq
            by_cases he : sk = 0
            · have Hs2 := Lib.hid (Hs0.out (by rw [hpn]; simp [he]))
              subst he
              clear hpn
              go_wp2_with fail
              go_region_held3 (fun w' => w'.cell? ⟨w.heap.size, 0, none⟩ = some (.slice aa fs.length ca) ∧ w'.cell? ⟨gl, k, none⟩ = some (.string (mk nm)) ∧ Below wr.heap.size wr w')
                (exact Hk.out _ (by (repeat (with_reducible first | exact Below.refl _ _ | assumption | refine ba ?_ _ | refine bd ?_ | refine bdN ?_ _ | refine bs ?_ (by first | exact Nat.le_refl _ | (dsimp only; omega) | (simp; done)) _ | refine bt ?_ (by assumption)))))
                (first
                  | (go_at_call 61; refine (spec_parent nm _ (by omega)).mono ?_; rintro _ w8 ⟨rfl, hb8⟩)
                  | (go_at_call 50; refine (spec_find _ fs D _ path nm _ (Hr.out.below (bt Hbel.out (by (repeat (with_reducible first | exact Below.refl _ _ | assumption | refine ba ?_ _ | refine bd ?_ | refine bdN ?_ _ | refine bs ?_ (by first | exact Nat.le_refl _ | (dsimp only; omega) | (simp; done)) _ | refine bt ?_ (by assumption)))))) Hz.out Ht.out Hvn.out (Hp.out.below (bt Hbel.out (by (repeat (with_reducible first | exact Below.refl _ _ | assumption | refine ba ?_ _ | refine bd ?_ | refine bdN ?_ _ | refine bs ?_ (by first | exact Nat.le_refl _ | (dsimp only; omega) | (simp; done)) _ | refine bt ?_ (by assumption)))))) (by omega)).mono ?_; rintro _ w9 ⟨v9, rfl, hown9, hb9⟩; rw [← Hsp.out]; rw [← Hsp.out] at hown9; dsimp only at hown9 ⊢; obtain ⟨a9, c9, hv9⟩ := owns_shape hown9; subst hv9; clear hown9))
              have Hb9 := Lib.hid (show Below wr.heap.size wr w9 by (repeat (with_reducible first | exact Below.refl _ _ | assumption | refine ba ?_ _ | refine bd ?_ | refine bdN ?_ _ | refine bs ?_ (by first | exact Nat.le_refl _ | (dsimp only; omega) | (simp; done)) _ | refine bt ?_ (by assumption))))
              clear hA hcj
              go_wp2_with fail
              go_roundw
              case rel => exact ⟨k + 1, g, cap, by omega, by go_num, by rw [Hs2.out], by rw [Hs2.out]; exact owns_below Hown.out Hb9.out, Hbx.out.step Hb9.out, owns_below Hlist.out Hb9.out, Hdis.out⟩
              case measure => simp [intOf]; omega
            · have Hs2 := Lib.hid (Hs1.out (by rw [hpn, Hq.out]; simp [he]))
              have hne0 : (sk == (0 : Int)) = false := by rw [beq_eq_false_iff_ne]; exact he
              have hne2 : (sk != (0 : Int)) = true := by rw [bne, hne0]; rfl
              clear he hpn
              go_wp2_with fail
              go_region_held3 (fun w' => w'.cell? ⟨w.heap.size, 0, none⟩ = some (.slice aa fs.length ca) ∧ w'.cell? ⟨gl, k, none⟩ = some (.string (mk nm)) ∧ Below wr.heap.size wr w')
                (exact Hk.out _ (by (repeat (with_reducible first | exact Below.refl _ _ | assumption | refine ba ?_ _ | refine bd ?_ | refine bdN ?_ _ | refine bs ?_ (by first | exact Nat.le_refl _ | (dsimp only; omega) | (simp; done)) _ | refine bt ?_ (by assumption)))))
                (first
                  | (go_at_call 61; refine (spec_parent nm _ (by omega)).mono ?_; rintro _ w8 ⟨rfl, hb8⟩)
                  | (go_at_call 50; refine (spec_find _ fs D _ path nm _ (Hr.out.below (bt Hbel.out (by (repeat (with_reducible first | exact Below.refl _ _ | assumption | refine ba ?_ _ | refine bd ?_ | refine bdN ?_ _ | refine bs ?_ (by first | exact Nat.le_refl _ | (dsimp only; omega) | (simp; done)) _ | refine bt ?_ (by assumption)))))) Hz.out Ht.out Hvn.out (Hp.out.below (bt Hbel.out (by (repeat (with_reducible first | exact Below.refl _ _ | assumption | refine ba ?_ _ | refine bd ?_ | refine bdN ?_ _ | refine bs ?_ (by first | exact Nat.le_refl _ | (dsimp only; omega) | (simp; done)) _ | refine bt ?_ (by assumption)))))) (by omega)).mono ?_; rintro _ w9 ⟨v9, rfl, hown9, hb9⟩; rw [← Hsp.out]; rw [← Hsp.out] at hown9; dsimp only at hown9 ⊢; obtain ⟨a9, c9, hv9⟩ := owns_shape hown9; subst hv9; clear hown9))
              have Hb9 := Lib.hid (show Below wr.heap.size wr w9 by (repeat (with_reducible first | exact Below.refl _ _ | assumption | refine ba ?_ _ | refine bd ?_ | refine bdN ?_ _ | refine bs ?_ (by first | exact Nat.le_refl _ | (dsimp only; omega) | (simp; done)) _ | refine bt ?_ (by assumption))))
              have hz9 := Hb9.out.size
              clear hA hcj
              obtain ⟨hA, hcj, _⟩ := Hk.out w9 Hb9.out
              have Hown9 := Lib.hid (owns_below Hown.out Hb9.out)
              go_wp2_with (first
                | (go_at_call 63; refine (spec_last nm _ (by omega)).mono ?_; rintro _ w10 ⟨rfl, hb10⟩; have Hb10 := Lib.hid (show Below w9.heap.size w9 w10 by (repeat (with_reducible first | exact Below.refl _ _ | assumption | refine ba ?_ _ | refine bd ?_ | refine bdN ?_ _ | refine bs ?_ (by first | exact Nat.le_refl _ | (dsimp only; omega) | (simp; done)) _ | refine bt ?_ (by assumption)))); have hz10 := Hb10.out.size; clear hb10)
                | (go_at_call 62; refine (spec_insertText (w.heap.size + 1) g cap ds (last nm) _ (owns_below Hown9.out Hb10.out) Hup.out (by omega) (by omega)).mono ?_; rintro _ w11 ⟨g11, c11, rfl, hown11, hb11, ht11, hq11⟩))
              have Hown11 := Lib.hid hown11
              have Hx11 := Lib.hid (boxed_low (Hbx.out.step (bt Hb9.out Hb10.out)) hb11)
              have Hl11 := Lib.hid (owns_turned (owns_below Hlist.out (bt Hb9.out Hb10.out)) ht11 (fun b hb e => hne (by cases hb; exact e)))
              have hne11 : gl ≠ g11 := by omega
              clear hown11 hb11 ht11
              go_roundw
              case rel => exact ⟨k + 1, g11, c11, by omega, by go_num, by rw [Hs2.out], by rw [Hs2.out]; exact Hown11.out, Hx11.out, Hl11.out, fun b hb => by cases hb; exact hne11⟩
              case measure => simp [intOf]; omega
          · have hq1 : (parent nm == p) = false := by rw [beq_eq_false_iff_ne]; exact hq
            have Hs2 := Lib.hid (Hs0.out (by rw [hpn]; simp [hq]))
            clear hq hpn
            have kA := cell_regrown hA
            have kB := cell_regrown hcj
            have cP : ∀ d os, Calls Tryz.prog 61 #[.string (mk nm)] (grow (redrawn wr d) os) fun e w'' => e = .returned (.string (mk (parent nm))) ∧ ∃ p : Regrown, w'' = grow (redrawn wr p.d) p.os := fun d os => Calls.regrown_of (spec_parent nm (grow (redrawn wr d) os) (by omega))
            go_wp2_with fail
            refine wp_region_quiet_below (by kernel_rfl) (by kernel_rfl) ?_
            repeat (go_big_quiet_step (exact cP _ _))
            refine wpQuiet_nil ?_
            intro _ hw'
            obtain ⟨⟨dq, osq⟩, hw2⟩ := hw'
            subst hw2
            have Hb9 := Lib.hid (below_regrown wr dq osq)
            clear cP kA kB hA hcj
            go_wp2_with fail
            go_roundw
            case rel => exact ⟨k + 1, g, cap, by omega, by go_num, by rw [Hs2.out], by rw [Hs2.out]; exact owns_below Hown.out Hb9.out, Hbx.out.step Hb9.out, owns_below Hlist.out Hb9.out, Hdis.out⟩
            case measure => simp [intOf]; omega
        · obtain rfl : k = L.length := by omega
          have Hf := Lib.hid (show sortUp (((L.take L.length).filter q).map last) = kidsOf fs path p by rw [List.take_length]; exact Hh.out)
          clear hlist
          go_wp2_with fail
          go_ret
          refine ⟨_, rfl, ?_, hbel⟩
          rw [← Hf.out]
          exact owns_mono Hown.out (by omega)
end Go.Proofs.YtggkkehmhapomaaGreat
