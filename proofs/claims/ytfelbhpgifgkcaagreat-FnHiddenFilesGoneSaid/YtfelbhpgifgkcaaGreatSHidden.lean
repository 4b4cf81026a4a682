/- Contracts of the model's functions that tell which files are hidden, and why. -/
import Derived.Test.YtfelbhpgifgkcaaGreatHidden
set_option linter.unusedVariables false
set_option linter.unusedSimpArgs false
namespace Go.Proofs.YtfelbhpgifgkcaaGreat
open Go.RowKit Go.Proofs.YtfelbhpgifgkcaaGreat.Nm

set_option maxRecDepth 100000 in
set_option maxHeartbeats 4000000 in
theorem spec_HiddenFiles (v : Value) (fs : List Fil) (D : Nat → Prop) (pv : Value) (path : List Int) (w : World) (hr : FilsIn w D v fs) (hz : ShortT 2000000 fs) (hp : IntsIn w pv path) :
    Calls Tryz.prog 16 #[.agg #[v], pv] w (NewInts 3 (hidden fs path) w) := by
  obtain ⟨i0, hi, hz0, hz1, hz2⟩ := info_parts infoI
  have Hi := Lib.hid hi
  have Hz0 := Lib.hid hz0
  have Hz1 := Lib.hid hz1
  have Hz2 := Lib.hid hz2
  have Hr := Lib.hid hr
  have Hz := Lib.hid hz
  have Hz3 := Lib.hid (short2 (B := 3000000) (by omega) hz)
  have Hp := Lib.hid hp
  obtain ⟨aa, ca, rfl, hl, hm⟩ := hr.len
  obtain ⟨pa, pc, rfl, hl1, hm1⟩ := hp.len
  have Hb0 := Lib.hid (Boxed.start w #[.slice aa fs.length ca] 25)
  have hf1 := fld1
  clear hr hz hp hl hm hl1 hm1 hi hz0 hz1 hz2
  cases h1 : okTree fs
  · have H1 := Lib.hid h1
    have Hs := Lib.hid (hidden_no (t := fs) (path := path) (by unfold okLook; rw [h1]; simp))
    clear h1
    go_enter Tryz.func16, Tryz.ntmps16
    go_wp2_with (go_at_call 48; refine (spec_validTree _ fs D _ (Hr.out.below (by (repeat (with_reducible first | exact Below.refl _ _ | assumption | refine ba ?_ _ | refine bd ?_ | refine bdN ?_ _ | refine bs ?_ (by first | exact Nat.le_refl _ | (dsimp only; omega) | (simp; done)) _ | refine bt ?_ (by assumption))))) Hz3.out).mono ?_; (rintro _ _ ⟨rfl, hb⟩; obtain ⟨hc, hf, hs⟩ := bcell hb); rw [H1.out])
    go_ret
    exact newInts_no Hs.out (by (repeat (with_reducible first | exact Below.refl _ _ | assumption | refine ba ?_ _ | refine bd ?_ | refine bdN ?_ _ | refine bs ?_ (by first | exact Nat.le_refl _ | (dsimp only; omega) | (simp; done)) _ | refine bt ?_ (by assumption))))
  cases h2 : okPath path
  · have H1 := Lib.hid h1
    have H2 := Lib.hid h2
    have Hs := Lib.hid (hidden_no (t := fs) (path := path) (by unfold okLook; rw [h2]; simp))
    clear h1 h2
    go_enter Tryz.func16, Tryz.ntmps16
    go_wp2_with (first
      | (go_at_call 48; refine (spec_validTree _ fs D _ (Hr.out.below (by (repeat (with_reducible first | exact Below.refl _ _ | assumption | refine ba ?_ _ | refine bd ?_ | refine bdN ?_ _ | refine bs ?_ (by first | exact Nat.le_refl _ | (dsimp only; omega) | (simp; done)) _ | refine bt ?_ (by assumption))))) Hz3.out).mono ?_; rintro _ w5 ⟨rfl, hb5⟩; rw [H1.out]; have Hx5 := Lib.hid (Hb0.out.step hb5))
      | (go_at_call 59; refine (spec_validPath _ path _ (Hp.out.below (by have := Hx5.out.below; (repeat (with_reducible first | exact Below.refl _ _ | assumption | refine ba ?_ _ | refine bd ?_ | refine bdN ?_ _ | refine bs ?_ (by first | exact Nat.le_refl _ | (dsimp only; omega) | (simp; done)) _ | refine bt ?_ (by assumption)))))).mono ?_; rintro _ w6 ⟨rfl, hb6⟩; rw [H2.out]))
    go_ret
    exact newInts_no Hs.out (bt Hx5.out.below hb6)
  have H1 := Lib.hid h1
  have H2 := Lib.hid h2
  have Ht := Lib.hid h1
  have h3 := okPath_len h2
  have h12 := (okTree_all h1).2.2
  have Hh := Lib.hid (hidden_at (okLook_of h1 h2))
  have Hall := Lib.hid (fun f (hf : f ∈ fs) => okFil_mod (okTree_file h1 hf))
  clear h1 h2
  go_enter Tryz.func16, Tryz.ntmps16
  go_wp2_with (first
    | (go_at_call 48; refine (spec_validTree _ fs D _ (Hr.out.below (by (repeat (with_reducible first | exact Below.refl _ _ | assumption | refine ba ?_ _ | refine bd ?_ | refine bdN ?_ _ | refine bs ?_ (by first | exact Nat.le_refl _ | (dsimp only; omega) | (simp; done)) _ | refine bt ?_ (by assumption))))) Hz3.out).mono ?_; rintro _ w5 ⟨rfl, hb5⟩; rw [H1.out]; have Hx5 := Lib.hid (Hb0.out.step hb5))
    | (go_at_call 59; refine (spec_validPath _ path _ (Hp.out.below (by have := Hx5.out.below; (repeat (with_reducible first | exact Below.refl _ _ | assumption | refine ba ?_ _ | refine bd ?_ | refine bdN ?_ _ | refine bs ?_ (by first | exact Nat.le_refl _ | (dsimp only; omega) | (simp; done)) _ | refine bt ?_ (by assumption)))))).mono ?_; rintro _ w6 ⟨rfl, hb6⟩; rw [H2.out]; have Hx6 := Lib.hid (Hx5.out.step hb6); have hlt6 := Hx6.out.lt))
  go_loopw [5, 6] (fun dv kv wr => ∃ (k : Nat), k ≤ fs.length ∧ kv = .int .i64 k ∧ wr.ownsRow (w.heap.size + 1) 3 1 dv (hiddenGo fs path (fs.take k) 0).length ((hiddenGo fs path (fs.take k) 0).map iv) ∧ Boxed w #[.slice aa fs.length ca] 25 wr) (fun _ kv _ => fs.length - (intOf kv).toNat)
  case atStart => exact ⟨0, by omega, rfl, lit_own #[] 0 (by simp) (by omega) (by unfold maxLen; omega) rfl, Hx6.out.step (ba (Below.refl _ _) _)⟩
  case round =>
    obtain ⟨k, hk, rfl, hown, hbx⟩ := hrel
    have hbel := hbx.below
    have hsz := hbx.lt
    have hA : wr.cell? ⟨w.heap.size, 0, none⟩ = some (.slice aa fs.length ca) := hbx.cell 0
    have Hown := Lib.hid hown
    have Hbx := Lib.hid hbx
    have Hbel := Lib.hid hbel
    clear hown hbx Hx5 Hx6 hb6 hb5 hlt6
    by_cases hlt : k < fs.length
    · have Hsn := Lib.hid (hidden_snoc fs path k hlt)
      have hll : (hiddenGo fs path (fs.take k) 0).length ≤ 12 := Nat.le_trans (hiddenGo_len fs path _ 0) (by rw [List.length_take]; omega)
      obtain ⟨b, off, cap, bv, e, hD, hb, hbody, c0, c1, c2, c3, c4, c5⟩ := (Hr.out.below hbel).at_ hlt
      simp only [Value.slice.injEq] at e
      obtain ⟨rfl, _, rfl⟩ := e
      obtain ⟨ba', bc', rfl, hbl, hbm⟩ := hbody.len
      obtain ⟨z1, z2, z3⟩ := Hz.out _ (List.getElem_mem hlt)
      have hmod := Hall.out _ (List.getElem_mem hlt)
      have hk1 : (k : Int) < (fs.length : Int) := by omega
      have hk0 : (0 : Int) ≤ (k : Int) := by omega
      obtain ⟨f, hf⟩ : ∃ f, f = fs[k] := ⟨_, rfl⟩
      rw [← hf] at c0 c1 c2 c3 c4 c5 z1 z2 hmod Hsn
      clear hf hbody hbl hbm z3 hbel
      obtain ⟨fr, fp, fn, fi, fst, fb⟩ := f
      dsimp only at c0 c1 c2 c3 c4 c5 z1 z2
      have hvl := vn_len hmod.2
      have Hvn := Lib.hid hmod.2
      obtain ⟨nm, hnm⟩ : ∃ nm, nm = modName ⟨fr, fp, fn, fi, fst, fb⟩ := ⟨_, rfl⟩
      rw [← hnm] at hvl Hvn
      have Hnm := Lib.hid hnm
      have hff : foundFor fs path ⟨fr, fp, fn, fi, fst, fb⟩ = (byParts fs path nm).file := by rw [hnm]; rfl
      rw [hff] at Hsn
      obtain ⟨sp, hsp⟩ : ∃ sp, sp = byParts fs path nm := ⟨_, rfl⟩
      rw [← hsp] at Hsn
      have Hsp := Lib.hid hsp
      have Hk := Lib.hid (fun (w' : World) (hC : Below wr.heap.size wr w') => (by
        have hc := fun o => hC.cell (p := ⟨b, o, none⟩) hb
        exact ⟨(hC.cell (p := ⟨w.heap.size, 0, none⟩) hsz).trans hA, (hc _).trans c0, (hc _).trans c1, (hc _).trans c2, (hc _).trans c3, (hc _).trans c4, (hc _).trans c5, hC⟩ :
        w'.cell? ⟨w.heap.size, 0, none⟩ = some (.slice (some ⟨b, off, none⟩) fs.length ca) ∧ w'.cell? ⟨b, off + k * 6, none⟩ = some (.int .i64 fr) ∧ w'.cell? ⟨b, off + k * 6 + 1, none⟩ = some (.string (mk fp)) ∧ w'.cell? ⟨b, off + k * 6 + 2, none⟩ = some (.string (mk fn)) ∧ w'.cell? ⟨b, off + k * 6 + 3, none⟩ = some (.bool fi) ∧ w'.cell? ⟨b, off + k * 6 + 4, none⟩ = some (.int .i64 fst) ∧ w'.cell? ⟨b, off + k * 6 + 5, none⟩ = some (.slice ba' fb.length bc') ∧ Below wr.heap.size wr w'))
      clear hmod hnm hff hsp c0 c1 c2 c3 c4 c5
      generalize hiddenGo fs path (fs.take k) 0 = ds at *
      obtain ⟨sk, sf, sr⟩ := sp
      dsimp only at Hsn
      by_cases he : sf = (k : Int)
      · have Hs2 := Lib.hid (show hiddenGo fs path (fs.take (k + 1)) 0 = ds by rw [Hsn.out, if_pos he, List.append_nil])
        subst he
        go_wp2_with fail
        go_region_held3 (fun w' => w'.cell? ⟨w.heap.size, 0, none⟩ = some (.slice (some ⟨b, off, none⟩) fs.length ca) ∧ w'.cell? ⟨b, off + k * 6, none⟩ = some (.int .i64 fr) ∧ w'.cell? ⟨b, off + k * 6 + 1, none⟩ = some (.string (mk fp)) ∧ w'.cell? ⟨b, off + k * 6 + 2, none⟩ = some (.string (mk fn)) ∧ w'.cell? ⟨b, off + k * 6 + 3, none⟩ = some (.bool fi) ∧ w'.cell? ⟨b, off + k * 6 + 4, none⟩ = some (.int .i64 fst) ∧ w'.cell? ⟨b, off + k * 6 + 5, none⟩ = some (.slice ba' fb.length bc') ∧ Below wr.heap.size wr w')
          (exact Hk.out _ (by (repeat (with_reducible first | exact Below.refl _ _ | assumption | refine ba ?_ _ | refine bd ?_ | refine bdN ?_ _ | refine bs ?_ (by first | exact Nat.le_refl _ | (dsimp only; omega) | (simp; done)) _ | refine bt ?_ (by assumption)))))
          (first
            | (go_at_call 61; refine (spec_moduleName _ _ _ _ _ _ fb _ (by omega) (by omega)).mono ?_; rintro _ w5 ⟨rfl, hb5⟩; rw [← Hnm.out])
            | (go_at_call 60; refine (spec_find _ fs D _ path nm _ (Hr.out.below (bt Hbel.out (by (repeat (with_reducible first | exact Below.refl _ _ | assumption | refine ba ?_ _ | refine bd ?_ | refine bdN ?_ _ | refine bs ?_ (by first | exact Nat.le_refl _ | (dsimp only; omega) | (simp; done)) _ | refine bt ?_ (by assumption)))))) Hz.out Ht.out Hvn.out (Hp.out.below (bt Hbel.out (by (repeat (with_reducible first | exact Below.refl _ _ | assumption | refine ba ?_ _ | refine bd ?_ | refine bdN ?_ _ | refine bs ?_ (by first | exact Nat.le_refl _ | (dsimp only; omega) | (simp; done)) _ | refine bt ?_ (by assumption)))))) (by omega)).mono ?_; rintro _ w6 ⟨v6, rfl, hown6, hb6⟩; rw [← Hsp.out]; rw [← Hsp.out] at hown6; dsimp only at hown6 ⊢; obtain ⟨a6, c6, hv6⟩ := owns_shape hown6; subst hv6; clear hown6))
        have Hb6 := Lib.hid (show Below wr.heap.size wr w6 by (repeat (with_reducible first | exact Below.refl _ _ | assumption | refine ba ?_ _ | refine bd ?_ | refine bdN ?_ _ | refine bs ?_ (by first | exact Nat.le_refl _ | (dsimp only; omega) | (simp; done)) _ | refine bt ?_ (by assumption))))
        clear hA
        go_wp2_with fail
        go_roundw
        case rel => exact ⟨k + 1, by omega, by go_num, by rw [Hs2.out]; exact owns_below Hown.out Hb6.out, Hbx.out.step Hb6.out⟩
        case measure => simp [intOf]; omega
      · have Hne := Lib.hid he
        have hne : (sf == (k : Int)) = false := by rw [beq_eq_false_iff_ne]; exact he
        have hne2 : (sf != (k : Int)) = true := by rw [bne, hne]; rfl
        clear he
        go_wp2_with fail
        go_region_held3 (fun w' => w'.cell? ⟨w.heap.size, 0, none⟩ = some (.slice (some ⟨b, off, none⟩) fs.length ca) ∧ w'.cell? ⟨b, off + k * 6, none⟩ = some (.int .i64 fr) ∧ w'.cell? ⟨b, off + k * 6 + 1, none⟩ = some (.string (mk fp)) ∧ w'.cell? ⟨b, off + k * 6 + 2, none⟩ = some (.string (mk fn)) ∧ w'.cell? ⟨b, off + k * 6 + 3, none⟩ = some (.bool fi) ∧ w'.cell? ⟨b, off + k * 6 + 4, none⟩ = some (.int .i64 fst) ∧ w'.cell? ⟨b, off + k * 6 + 5, none⟩ = some (.slice ba' fb.length bc') ∧ Below wr.heap.size wr w')
          (exact Hk.out _ (by (repeat (with_reducible first | exact Below.refl _ _ | assumption | refine ba ?_ _ | refine bd ?_ | refine bdN ?_ _ | refine bs ?_ (by first | exact Nat.le_refl _ | (dsimp only; omega) | (simp; done)) _ | refine bt ?_ (by assumption)))))
          (first
            | (go_at_call 61; refine (spec_moduleName _ _ _ _ _ _ fb _ (by omega) (by omega)).mono ?_; rintro _ w5 ⟨rfl, hb5⟩; rw [← Hnm.out])
            | (go_at_call 60; refine (spec_find _ fs D _ path nm _ (Hr.out.below (bt Hbel.out (by (repeat (with_reducible first | exact Below.refl _ _ | assumption | refine ba ?_ _ | refine bd ?_ | refine bdN ?_ _ | refine bs ?_ (by first | exact Nat.le_refl _ | (dsimp only; omega) | (simp; done)) _ | refine bt ?_ (by assumption)))))) Hz.out Ht.out Hvn.out (Hp.out.below (bt Hbel.out (by (repeat (with_reducible first | exact Below.refl _ _ | assumption | refine ba ?_ _ | refine bd ?_ | refine bdN ?_ _ | refine bs ?_ (by first | exact Nat.le_refl _ | (dsimp only; omega) | (simp; done)) _ | refine bt ?_ (by assumption)))))) (by omega)).mono ?_; rintro _ w6 ⟨v6, rfl, hown6, hb6⟩; rw [← Hsp.out]; rw [← Hsp.out] at hown6; dsimp only at hown6 ⊢; obtain ⟨a6, c6, hv6⟩ := owns_shape hown6; subst hv6; clear hown6))
        have Hb6 := Lib.hid (show Below wr.heap.size wr w6 by (repeat (with_reducible first | exact Below.refl _ _ | assumption | refine ba ?_ _ | refine bd ?_ | refine bdN ?_ _ | refine bs ?_ (by first | exact Nat.le_refl _ | (dsimp only; omega) | (simp; done)) _ | refine bt ?_ (by assumption))))
        have hz6 := Hb6.out.size
        clear hA
        go_wp2_with (at_builtin; refine wpList_append_own _ rfl _ _ 35 rfl (w.heap.size + 1) 3 i0 (.int .i64 0) 1 8 Tryz.underlying35 Hi.out Hz0.out Hz1.out Hz2.out rfl (by decide) _ ds.length _ rfl ((owns_below Hown.out Hb6.out).alloc _) ⟨_, 0, none⟩ 1 1 [.int .i64 k] rfl rfl (new_one (by first | rfl | simp)) (fun x hx => by simp at hx; subst hx; rfl) (by unfold maxLen; omega) (by omega) (by simp; omega) ?_; intro v8 w8 hown8 hgrow8 hnil8)
        have Hx8 := Lib.hid (below_first Hbx.out (ba Hb6.out _) hgrow8 (fun g hg => (Hown.out.lt g hg).1))
        have Hown8 := Lib.hid (show w8.ownsRow (w.heap.size + 1) 3 1 v8 (ds ++ [(k : Int)]).length ((ds ++ [(k : Int)]).map iv) by rw [List.length_append, List.map_append]; exact hown8)
        clear hown8 hgrow8 hnil8
        go_roundw
        case rel => exact ⟨k + 1, by omega, by go_num, by rw [Hsn.out, if_neg Hne.out]; exact Hown8.out, Hx8.out⟩
        case measure => simp [intOf]; omega
    · obtain rfl : k = fs.length := by omega
      go_wp2_with fail
      go_ret
      exact ⟨_, rfl, owns_mono (by rw [← Hh.out]; exact Hown.out) (by omega), hbel⟩

end Go.Proofs.YtfelbhpgifgkcaaGreat
