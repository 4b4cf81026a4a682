/- The reference's ReachOf. Written by mksreach.py. -/
import Derived.Test.YtfchakfkgmhagaaGreatSReach
import Derived.Test.YtfchakfkgmhagaaGreatSNames
set_option linter.unusedVariables false
set_option linter.unusedSimpArgs false
namespace Go.Proofs.YtfchakfkgmhagaaGreat
open Go.RowKit Go.Proofs.YtfchakfkgmhagaaGreat.Nm
set_option maxRecDepth 100000 in
set_option maxHeartbeats 8000000 in
theorem spec_ReachOf (v : Value) (fs : List Fil) (D : Nat → Prop) (pv : Value) (path : List Int) (s : Bs) (w : World) (hr : FilsIn w D v fs) (hz : ShortT 2000000 fs) (hp : IntsIn w pv path) (hsl : s.length ≤ 8000000) :
    Calls Tryz.prog 29 #[.agg #[v], pv, .string (mk s)] w (NewStrs 9 (reachOf fs path s) w) := by
  have Hr := Lib.hid hr
  have Hz := Lib.hid hz
  have Hz3 := Lib.hid (short2 (B := 3000000) (by omega) hz)
  have Hp := Lib.hid hp
  obtain ⟨aa, ca, rfl, hl, hm⟩ := hr.len
  obtain ⟨pa, pc, rfl, hl1, hm1⟩ := hp.len
  clear hr hz hp hl hm hl1 hm1
  have Hb0 := Lib.hid (Boxed.start w #[.slice aa fs.length ca] 31)
  have Hrv := Lib.hid (show vn s = false → reachOf fs path s = [] from fun h => by
    have e : namesAbove s = [] := by simp [namesAbove, h]
    unfold reachOf; rw [e]; split
    · have : ∀ k, reachK (edgesOf fs path) [] k = [] := fun k => by
        induction k with
        | zero => rfl
        | succ k ih => rw [reachK_end (by rw [ih]; simp), ih]
      unfold reachAll; rw [this]; rfl
    · rfl)
  cases h1 : okTree fs
  · have H1 := Lib.hid h1
    have Hn := Lib.hid (show reachOf fs path s = [] by unfold reachOf okLook; rw [h1]; simp)
    clear h1
    go_enter Tryz.func29, Tryz.ntmps29
    go_wp2_with (first
      | (go_at_call 60; refine (spec_validTree _ fs D _ (Hr.out.below (by have := Hb0.out.below; (repeat (with_reducible first | exact Below.refl _ _ | assumption | refine ba ?_ _ | refine bd ?_ | refine bdN ?_ _ | refine bs ?_ (by first | exact Nat.le_refl _ | (dsimp only; omega) | (simp; done)) _ | refine bt ?_ (by assumption))))) Hz3.out).mono ?_; rintro _ w5 ⟨rfl, hb5⟩; rw [H1.out]; have Hx5 := Lib.hid (Hb0.out.step hb5); clear hb5; have a0 : w5.cell? ⟨w.heap.size, 0, none⟩ = some (.slice aa fs.length ca) := Hx5.out.cell 0))
    go_ret
    have hbw := Hx5.out.below
    exact noStrs Hn.out (by (repeat (with_reducible first | exact Below.refl _ _ | assumption | refine ba ?_ _ | refine bd ?_ | refine bdN ?_ _ | refine bs ?_ (by first | exact Nat.le_refl _ | (dsimp only; omega) | (simp; done)) _ | refine bt ?_ (by assumption))))
  cases h2 : okPath path
  · have H1 := Lib.hid h1
    have H2 := Lib.hid h2
    have Hn := Lib.hid (show reachOf fs path s = [] by unfold reachOf okLook; rw [h2]; simp)
    clear h1 h2
    go_enter Tryz.func29, Tryz.ntmps29
    go_wp2_with (first
      | (go_at_call 60; refine (spec_validTree _ fs D _ (Hr.out.below (by have := Hb0.out.below; (repeat (with_reducible first | exact Below.refl _ _ | assumption | refine ba ?_ _ | refine bd ?_ | refine bdN ?_ _ | refine bs ?_ (by first | exact Nat.le_refl _ | (dsimp only; omega) | (simp; done)) _ | refine bt ?_ (by assumption))))) Hz3.out).mono ?_; rintro _ w5 ⟨rfl, hb5⟩; rw [H1.out]; have Hx5 := Lib.hid (Hb0.out.step hb5); clear hb5; have a0 : w5.cell? ⟨w.heap.size, 0, none⟩ = some (.slice aa fs.length ca) := Hx5.out.cell 0)
      | (go_at_call 61; refine (spec_validPath _ path _ (Hp.out.below (by have := Hx5.out.below; (repeat (with_reducible first | exact Below.refl _ _ | assumption | refine ba ?_ _ | refine bd ?_ | refine bdN ?_ _ | refine bs ?_ (by first | exact Nat.le_refl _ | (dsimp only; omega) | (simp; done)) _ | refine bt ?_ (by assumption)))))).mono ?_; rintro _ w6 ⟨rfl, hb6⟩; rw [H2.out]; have Hx6 := Lib.hid (Hx5.out.step hb6); clear hb6; clear a0; have a0 : w6.cell? ⟨w.heap.size, 0, none⟩ = some (.slice aa fs.length ca) := Hx6.out.cell 0))
    go_ret
    have hbw := Hx6.out.below
    exact noStrs Hn.out (by (repeat (with_reducible first | exact Below.refl _ _ | assumption | refine ba ?_ _ | refine bd ?_ | refine bdN ?_ _ | refine bs ?_ (by first | exact Nat.le_refl _ | (dsimp only; omega) | (simp; done)) _ | refine bt ?_ (by assumption))))
  cases h3 : vn s
  · have H1 := Lib.hid h1
    have H2 := Lib.hid h2
    have H3 := Lib.hid h3
    have Hn := Lib.hid (Hrv.out h3)
    clear h1 h2 h3
    go_enter Tryz.func29, Tryz.ntmps29
    go_wp2_with (first
      | (go_at_call 60; refine (spec_validTree _ fs D _ (Hr.out.below (by have := Hb0.out.below; (repeat (with_reducible first | exact Below.refl _ _ | assumption | refine ba ?_ _ | refine bd ?_ | refine bdN ?_ _ | refine bs ?_ (by first | exact Nat.le_refl _ | (dsimp only; omega) | (simp; done)) _ | refine bt ?_ (by assumption))))) Hz3.out).mono ?_; rintro _ w5 ⟨rfl, hb5⟩; rw [H1.out]; have Hx5 := Lib.hid (Hb0.out.step hb5); clear hb5; have a0 : w5.cell? ⟨w.heap.size, 0, none⟩ = some (.slice aa fs.length ca) := Hx5.out.cell 0)
      | (go_at_call 61; refine (spec_validPath _ path _ (Hp.out.below (by have := Hx5.out.below; (repeat (with_reducible first | exact Below.refl _ _ | assumption | refine ba ?_ _ | refine bd ?_ | refine bdN ?_ _ | refine bs ?_ (by first | exact Nat.le_refl _ | (dsimp only; omega) | (simp; done)) _ | refine bt ?_ (by assumption)))))).mono ?_; rintro _ w6 ⟨rfl, hb6⟩; rw [H2.out]; have Hx6 := Lib.hid (Hx5.out.step hb6); clear hb6; clear a0; have a0 : w6.cell? ⟨w.heap.size, 0, none⟩ = some (.slice aa fs.length ca) := Hx6.out.cell 0)
      | (go_at_call 62; refine (spec_validName s _ hsl).mono ?_; rintro _ w7 ⟨rfl, hb7⟩; rw [H3.out]; have Hx7 := Lib.hid (Hx6.out.step hb7); clear hb7; clear a0; have a0 : w7.cell? ⟨w.heap.size, 0, none⟩ = some (.slice aa fs.length ca) := Hx7.out.cell 0))
    go_ret
    have hbw := Hx7.out.below
    exact noStrs Hn.out (by (repeat (with_reducible first | exact Below.refl _ _ | assumption | refine ba ?_ _ | refine bd ?_ | refine bdN ?_ _ | refine bs ?_ (by first | exact Nat.le_refl _ | (dsimp only; omega) | (simp; done)) _ | refine bt ?_ (by assumption))))
  have H1 := Lib.hid h1
  have H2 := Lib.hid h2
  have H3 := Lib.hid h3
  have Hlk := Lib.hid (okLook_of h1 h2)
  have hna : namesAbove s = above s := by simp [namesAbove, h3]
  obtain ⟨ns, hns⟩ : ∃ ns, ns = above s := ⟨_, rfl⟩
  have Hns := Lib.hid hns
  have hn3 : ns.length ≤ 3 := by rw [hns, ← hna]; exact namesAbove_le3 s
  have hn1 : 1 ≤ ns.length := by rw [hns]; exact List.length_pos_iff.2 (above_pos s)
  have Hnd := Lib.hid (show ns.Nodup by rw [hns, ← hna]; exact namesAbove_nodup s)
  have Hnv := Lib.hid (show ∀ x ∈ ns, vn x = true by rw [hns]; exact above_vn h3)
  obtain ⟨L, hL⟩ : ∃ L, L = reachAll fs path ns := ⟨_, rfl⟩
  have hLl : L.length ≤ 291 := by rw [hL]; have := reachAll_len (t := fs) (path := path) (okLook_tree Hlk.out) Hnd.out; omega
  have HL := Lib.hid hL
  have Hre := Lib.hid (show reachOf fs path s = L.foldl insTo [] by unfold reachOf; rw [Hlk.out, hna, ← hns, ← hL]; rfl)
  clear h1 h2 h3 hna hns hL
  go_enter Tryz.func29, Tryz.ntmps29
  go_wp2_with (first
    | (go_at_call 60; refine (spec_validTree _ fs D _ (Hr.out.below (by have := Hb0.out.below; (repeat (with_reducible first | exact Below.refl _ _ | assumption | refine ba ?_ _ | refine bd ?_ | refine bdN ?_ _ | refine bs ?_ (by first | exact Nat.le_refl _ | (dsimp only; omega) | (simp; done)) _ | refine bt ?_ (by assumption))))) Hz3.out).mono ?_; rintro _ w5 ⟨rfl, hb5⟩; rw [H1.out]; have Hx5 := Lib.hid (Hb0.out.step hb5); clear hb5; have a0 : w5.cell? ⟨w.heap.size, 0, none⟩ = some (.slice aa fs.length ca) := Hx5.out.cell 0)
    | (go_at_call 61; refine (spec_validPath _ path _ (Hp.out.below (by have := Hx5.out.below; (repeat (with_reducible first | exact Below.refl _ _ | assumption | refine ba ?_ _ | refine bd ?_ | refine bdN ?_ _ | refine bs ?_ (by first | exact Nat.le_refl _ | (dsimp only; omega) | (simp; done)) _ | refine bt ?_ (by assumption)))))).mono ?_; rintro _ w6 ⟨rfl, hb6⟩; rw [H2.out]; have Hx6 := Lib.hid (Hx5.out.step hb6); clear hb6; clear a0; have a0 : w6.cell? ⟨w.heap.size, 0, none⟩ = some (.slice aa fs.length ca) := Hx6.out.cell 0)
    | (go_at_call 62; refine (spec_validName s _ hsl).mono ?_; rintro _ w7 ⟨rfl, hb7⟩; rw [H3.out]; have Hx7 := Lib.hid (Hx6.out.step hb7); clear hb7; clear a0; have a0 : w7.cell? ⟨w.heap.size, 0, none⟩ = some (.slice aa fs.length ca) := Hx7.out.cell 0; have hlt7 := Hx7.out.lt))
  obtain ⟨W8, hW8⟩ : ∃ W, W = w7.alloc (.cells #[] 9) := ⟨_, rfl⟩
  rw [← hW8]
  have HX8 := Lib.hid (show Boxed w #[.slice aa fs.length ca] 31 W8 by rw [hW8]; exact Hx7.out.step (ba (Below.refl _ _) _))
  have HE8 := Lib.hid (show W8.ownsRow (w.heap.size + 1) 9 1 (.slice (some ⟨w7.heap.size, 0, none⟩) 0 0) 0 [] by rw [hW8]; exact World.ownsRow_lit (size := 1) w7 #[] 0 hlt7 (by unfold maxLen; omega) rfl)
  have hs8 : W8.heap.size = w7.heap.size + 1 := by rw [hW8]; simp
  have Hbel8 := Lib.hid HX8.out.below
  have lt8 := HX8.out.lt
  have hA8 : W8.cell? ⟨w.heap.size, 0, none⟩ = some (.slice aa fs.length ca) := HX8.out.cell 0
  have Hk := Lib.hid (fun (w' : World) (hC : Below W8.heap.size W8 w') => (⟨(HX8.out.step hC).cell 0, hC⟩ : w'.cell? ⟨w.heap.size, 0, none⟩ = some (.slice aa fs.length ca) ∧ Below W8.heap.size W8 w'))
  clear hW8 a0 Hx7 Hx6 Hx5
  go_region_held3 (fun w' => w'.cell? ⟨w.heap.size, 0, none⟩ = some (.slice aa fs.length ca) ∧ Below W8.heap.size W8 w')
    (first | exact Hk.out _ Hb10.out | exact Hk.out _ Hb9.out | exact Hk.out _ (by (repeat (with_reducible first | exact Below.refl _ _ | assumption | refine ba ?_ _ | refine bd ?_ | refine bdN ?_ _ | refine bs ?_ (by first | exact Nat.le_refl _ | (dsimp only; omega) | (simp; done)) _ | refine bt ?_ (by assumption)))))
    (first
      | (go_at_call 74; refine (spec_above s _ hsl).mono ?_; rintro _ w9 ⟨v9, rfl, hown9, hb9⟩; rw [← Hns.out] at hown9; obtain ⟨a9, c9, hv9⟩ := owns_shape hown9; subst hv9; have R9 := Lib.hid (Reads.of_owns hown9); have Hb9 := Lib.hid (show Below W8.heap.size W8 w9 by (repeat (with_reducible first | exact Below.refl _ _ | assumption | refine ba ?_ _ | refine bd ?_ | refine bdN ?_ _ | refine bs ?_ (by first | exact Nat.le_refl _ | (dsimp only; omega) | (simp; done)) _ | refine bt ?_ (by assumption)))); clear hown9 hb9)
      | (go_at_call 73; refine (spec_reach _ fs D _ path _ ns _ (Hr.out.below (bt Hbel8.out (by first | exact Hb9.out | (have := Hb9.out; (repeat (with_reducible first | exact Below.refl _ _ | assumption | refine ba ?_ _ | refine bd ?_ | refine bdN ?_ _ | refine bs ?_ (by first | exact Nat.le_refl _ | (dsimp only; omega) | (simp; done)) _ | refine bt ?_ (by assumption))))))) Hz.out Hlk.out (Hp.out.below (bt Hbel8.out (by first | exact Hb9.out | (have := Hb9.out; (repeat (with_reducible first | exact Below.refl _ _ | assumption | refine ba ?_ _ | refine bd ?_ | refine bdN ?_ _ | refine bs ?_ (by first | exact Nat.le_refl _ | (dsimp only; omega) | (simp; done)) _ | refine bt ?_ (by assumption))))))) (Reads.below R9.out (by (repeat (with_reducible first | exact Below.refl _ _ | assumption | refine ba ?_ _ | refine bd ?_ | refine bdN ?_ _ | refine bs ?_ (by first | exact Nat.le_refl _ | (dsimp only; omega) | (simp; done)) _ | refine bt ?_ (by assumption))))) hn1 (by omega) Hnd.out Hnv.out).mono ?_; rintro _ w10 ⟨v10, rfl, hown10, hb10⟩; rw [← HL.out] at hown10; obtain ⟨a10, c10, hv10⟩ := owns_shape hown10; subst hv10; have Hl10 := Lib.hid (owns_mono hown10 (show W8.heap.size ≤ _ from Nat.le_trans Hb9.out.size (by first | exact Nat.le_refl _ | exact (show Below _ _ _ by (repeat (with_reducible first | exact Below.refl _ _ | assumption | refine ba ?_ _ | refine bd ?_ | refine bdN ?_ _ | refine bs ?_ (by first | exact Nat.le_refl _ | (dsimp only; omega) | (simp; done)) _ | refine bt ?_ (by assumption)))).size))); have Hb10 := Lib.hid (Hb9.out.trans (hb10.mono Hb9.out.size)); clear hown10 hb10))
  have HE10 := Lib.hid (owns_below HE8.out Hb10.out)
  have HX10 := Lib.hid (HX8.out.step Hb10.out)
  have HLw := Lib.hid (owns_mono Hl10.out (show w.heap.size + 1 ≤ W8.heap.size from lt8))
  have Hdis := Lib.hid (show ∀ b, (Value.slice a10 L.length c10).ownBlock = some b → b ≠ w7.heap.size from fun b hb => by have := (owns_block Hl10.out hb).1; omega)
  clear hA8 Hl10 HE8 HX8 Hbel8 hs8
  go_wp2_with fail
  go_loopw [7, 9] (fun nv kv wr => ∃ (k g cp : Nat), k ≤ L.length ∧ kv = .int .i64 k ∧ nv = .slice (some ⟨g, 0, none⟩) ((L.take k).foldl insTo []).length cp ∧ wr.ownsRow (w.heap.size + 1) 9 1 (.slice (some ⟨g, 0, none⟩) ((L.take k).foldl insTo []).length cp) ((L.take k).foldl insTo []).length (((L.take k).foldl insTo []).map sv) ∧ Boxed w #[.slice aa fs.length ca] 31 wr ∧ wr.ownsRow (w.heap.size + 1) 9 1 (.slice a10 L.length c10) L.length (L.map sv) ∧ (∀ b, (Value.slice a10 L.length c10).ownBlock = some b → b ≠ g)) (fun _ kv _ => L.length - (intOf kv).toNat)
  case atStart => exact ⟨0, w7.heap.size, 0, by omega, rfl, rfl, HE10.out, HX10.out, HLw.out, Hdis.out⟩
  case round =>
    obtain ⟨k, g, cp, hk, rfl, rfl, hown, hbx, hlist, hdis⟩ := hrel
    have Hown := Lib.hid hown
    have Hbx := Lib.hid hbx
    have Hdis2 := Lib.hid hdis
    have hsz := hbx.lt
    have Hup := Lib.hid (show Up ((L.take k).foldl insTo []) from foldIns_up _ (by simp [Up]))
    have hlj : ((L.take k).foldl insTo []).length ≤ 291 := Nat.le_trans (foldIns_len _ _) (by simp; omega)
    clear hown hbx hdis HE10 HX10 HLw Hdis
    by_cases hlt : k < L.length
    · obtain ⟨gl, cl, el, hgl1, hgl2⟩ := hlist.form (by omega)
      simp only [Value.slice.injEq] at el
      obtain ⟨rfl, _, rfl⟩ := el
      have hcj : wr.cell? ⟨gl, k, none⟩ = some (.string (mk L[k])) := by
        rw [hlist.cellAt k (by omega), List.getElem?_map, List.getElem?_eq_getElem hlt]; rfl
      have Hlist := Lib.hid hlist
      have hne : gl ≠ g := Hdis2.out gl rfl
      have Hst := Lib.hid (foldIns_next [] L k hlt)
      have hk1 : (k : Int) < (L.length : Int) := by omega
      have hk0 : (0 : Int) ≤ (k : Int) := by omega
      clear hlist
      generalize L[k] = y at *
      generalize (L.take k).foldl insTo [] = M at *
      go_wp2_with (go_at_call 75; refine (spec_insertText (w.heap.size + 1) g cp M y _ Hown.out Hup.out (by omega) (by omega)).mono ?_; rintro _ w12 ⟨g7, c7, rfl, hown7, hb7, ht7, hq7⟩)
      have Hown7 := Lib.hid hown7
      have Hx7 := Lib.hid (boxed_low Hbx.out hb7)
      have Hl7 := Lib.hid (owns_turned Hlist.out ht7 (fun b hb e => hne (by cases hb; exact e)))
      have hglw : gl < wr.heap.size := (Hlist.out.lt gl rfl).2
      have hne7 : gl ≠ g7 := by omega
      clear hown7 hb7 ht7
      go_roundw
      case rel => exact ⟨k + 1, g7, c7, by omega, by go_num, by rw [Hst.out], by rw [Hst.out]; exact Hown7.out, Hx7.out, Hl7.out, fun b hb => by cases hb; exact hne7⟩
      case measure => simp [intOf]; omega
    · obtain rfl : k = L.length := by omega
      clear hlist
      rw [List.take_length] at Hown ⊢
      go_wp2_with fail
      go_ret
      refine ⟨_, rfl, ?_, Hbx.out.below⟩
      rw [Hre.out]
      exact owns_mono Hown.out (Nat.le_succ _)
end Go.Proofs.YtfchakfkgmhagaaGreat
