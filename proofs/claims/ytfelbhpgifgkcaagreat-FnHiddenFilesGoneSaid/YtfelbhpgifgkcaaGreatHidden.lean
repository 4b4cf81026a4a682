/- Contracts of the functions that tell which files are hidden, and why. -/
import Derived.Test.YtfelbhpgifgkcaaGreatSLooks
import Derived.Test.YtfelbhpgifgkcaaGreatHasF
set_option linter.unusedVariables false
set_option linter.unusedSimpArgs false
namespace Go.Proofs.YtfelbhpgifgkcaaGreat
open Go.RowKit Go.Proofs.YtfelbhpgifgkcaaGreat.Nm

theorem ret_num {a b : Int} (h : a = b) : Ending.returned (.int .i64 a) = .returned (.int .i64 b) := by rw [h]
theorem ret_pair {a b c d : Int} (h1 : a = c) (h2 : b = d) : Ending.returned (.tuple #[.int .i64 a, .int .i64 b]) = .returned (.tuple #[.int .i64 c, .int .i64 d]) := by rw [h1, h2]
theorem newInts_no {T : TypeId} {xs : List Int} {w w' : World} (h : xs = []) (hb : Below w.heap.size w w') : NewInts T xs w (.returned (.slice none 0 0)) w' := by
  subst h; exact ⟨_, rfl, World.ownsRow_nil _ _ _ _, hb⟩
theorem hidden_no {t : List Fil} {path : List Int} (h : okLook t path = false) : hidden t path = [] := by rw [hidden, h]; rfl
theorem found_lt (fs : List Fil) (path : List Int) (f : Fil) : -1 ≤ foundFor fs path f ∧ foundFor fs path f < fs.length := (byParts_ok fs path _).file
set_option maxRecDepth 100000 in
set_option maxHeartbeats 2000000 in
theorem impl_foundFor (v : Value) (fs : List Fil) (D : Nat → Prop) (pv : Value) (path : List Int) (k : Nat) (w : World) (hr : FilsIn w D v fs) (hz : ShortT 2000000 fs) (ht : okTree fs = true) (hp : IntsIn w pv path) (hpl : path.length ≤ 100) (hk : k < fs.length) :
    Calls Tryz.prog 58 #[.agg #[v], pv, .int .i64 k] w fun e w' => e = .returned (.int .i64 (foundFor fs path fs[k])) ∧ Below w.heap.size w w' := by
  have Hr := Lib.hid hr
  have Hz := Lib.hid hz
  have Ht := Lib.hid ht
  have Hp := Lib.hid hp
  have hf1 := fld1
  obtain ⟨b, off, cap, bv, e, hD, hb, hbody, c0, c1, c2, c3, c4, c5⟩ := hr.at_ hk
  subst e
  obtain ⟨ba', bc', rfl, hbl, hbm⟩ := hbody.len
  obtain ⟨z1, z2, z3⟩ := hz _ (List.getElem_mem hk)
  have hmod := okFil_mod (okTree_file ht (List.getElem_mem hk))
  obtain ⟨pa, pc, rfl, hl1, hm1⟩ := hp.len
  obtain ⟨_, _, e2, hl, hm⟩ := hr.len
  have hk1 : (k : Int) < (fs.length : Int) := by omega
  have hk0 : (0 : Int) ≤ (k : Int) := by omega
  have hfl : fs.length ≤ 12 := (okTree_all ht).2.2
  obtain ⟨f, hf⟩ : ∃ f, f = fs[k] := ⟨_, rfl⟩
  rw [← hf] at c0 c1 c2 c3 c4 c5 z1 z2 hmod ⊢
  clear hf hbody hbl hbm z3 hr hz ht hp e2 hl hm hl1 hm1
  obtain ⟨fr, fp, fn, fi, fst, fb⟩ := f
  dsimp only at c0 c1 c2 c3 c4 c5 z1 z2
  have Hmod := Lib.hid hmod.1
  have hvl := vn_len hmod.2
  obtain ⟨nm, hnm⟩ : ∃ nm, nm = modName ⟨fr, fp, fn, fi, fst, fb⟩ := ⟨_, rfl⟩
  rw [← hnm] at Hmod hvl
  have Hff := Lib.hid (show foundFor fs path ⟨fr, fp, fn, fi, fst, fb⟩ = (byParts fs path nm).file by rw [hnm]; rfl)
  obtain ⟨sp, hsp⟩ : ∃ sp, sp = byParts fs path nm := ⟨_, rfl⟩
  rw [← hsp] at Hff
  have Hsp := Lib.hid hsp
  clear hmod hnm hsp
  have hb0 := Boxed.start w #[.slice (some ⟨b, off, none⟩) fs.length cap] 25
  obtain ⟨W, hW⟩ : ∃ W, W = w.alloc (.cells #[.slice (some ⟨b, off, none⟩) fs.length cap] 25) := ⟨_, rfl⟩
  rw [← hW] at hb0
  have HW := Lib.hid hW
  have hbw := hb0.below
  have a0 : W.cell? ⟨w.heap.size, 0, none⟩ = some (.slice (some ⟨b, off, none⟩) fs.length cap) := hb0.cell 0
  have hlt := hb0.lt
  have hbW : b < W.heap.size := Nat.lt_of_lt_of_le hb hbw.size
  have Hk := Lib.hid (fun (w' : World) (hC : Below W.heap.size W w') => (by
    have hc := fun o => (hC.cell (p := ⟨b, o, none⟩) hbW).trans (hbw.cell (p := ⟨b, o, none⟩) hb)
    exact ⟨(hC.cell (p := ⟨w.heap.size, 0, none⟩) hlt).trans a0, (hc _).trans c0, (hc _).trans c1, (hc _).trans c2, (hc _).trans c3, (hc _).trans c4, (hc _).trans c5, hC⟩ :
    w'.cell? ⟨w.heap.size, 0, none⟩ = some (.slice (some ⟨b, off, none⟩) fs.length cap) ∧ w'.cell? ⟨b, off + k * 6, none⟩ = some (.int .i64 fr) ∧ w'.cell? ⟨b, off + k * 6 + 1, none⟩ = some (.string (mk fp)) ∧ w'.cell? ⟨b, off + k * 6 + 2, none⟩ = some (.string (mk fn)) ∧ w'.cell? ⟨b, off + k * 6 + 3, none⟩ = some (.bool fi) ∧ w'.cell? ⟨b, off + k * 6 + 4, none⟩ = some (.int .i64 fst) ∧ w'.cell? ⟨b, off + k * 6 + 5, none⟩ = some (.slice ba' fb.length bc') ∧ Below W.heap.size W w'))
  have Hbw := Lib.hid hbw
  clear hW hb0 hbw c0 c1 c2 c3 c4 c5 a0
  go_enter Tryz.func58, Tryz.ntmps58
  go_wp2_with fail
  rw [← HW.out]
  go_region_held3 (fun w' => w'.cell? ⟨w.heap.size, 0, none⟩ = some (.slice (some ⟨b, off, none⟩) fs.length cap) ∧ w'.cell? ⟨b, off + k * 6, none⟩ = some (.int .i64 fr) ∧ w'.cell? ⟨b, off + k * 6 + 1, none⟩ = some (.string (mk fp)) ∧ w'.cell? ⟨b, off + k * 6 + 2, none⟩ = some (.string (mk fn)) ∧ w'.cell? ⟨b, off + k * 6 + 3, none⟩ = some (.bool fi) ∧ w'.cell? ⟨b, off + k * 6 + 4, none⟩ = some (.int .i64 fst) ∧ w'.cell? ⟨b, off + k * 6 + 5, none⟩ = some (.slice ba' fb.length bc') ∧ Below W.heap.size W w')
    (exact Hk.out _ (by (repeat (with_reducible first | exact Below.refl _ _ | assumption | refine ba ?_ _ | refine bd ?_ | refine bdN ?_ _ | refine bs ?_ (by first | exact Nat.le_refl _ | (dsimp only; omega) | (simp; done)) _ | refine bt ?_ (by assumption)))))
    (first
      | (go_at_call 108; refine (impl_moduleAt _ _ _ _ _ _ fb _ (by omega) (by omega)).mono ?_; rintro _ w5 ⟨rfl, hb5⟩; rw [Hmod.out])
      | (go_at_call 56; refine (impl_findByParts _ fs D _ path nm _ (Hr.out.below (bt Hbw.out (by (repeat (with_reducible first | exact Below.refl _ _ | assumption | refine ba ?_ _ | refine bd ?_ | refine bdN ?_ _ | refine bs ?_ (by first | exact Nat.le_refl _ | (dsimp only; omega) | (simp; done)) _ | refine bt ?_ (by assumption)))))) Hz.out Ht.out (Hp.out.below (bt Hbw.out (by (repeat (with_reducible first | exact Below.refl _ _ | assumption | refine ba ?_ _ | refine bd ?_ | refine bdN ?_ _ | refine bs ?_ (by first | exact Nat.le_refl _ | (dsimp only; omega) | (simp; done)) _ | refine bt ?_ (by assumption)))))) hpl (by omega)).mono ?_; rintro _ w6 ⟨v6, rfl, hown6, hb6⟩; rw [← Hsp.out]; rw [← Hsp.out] at hown6; obtain ⟨a6, c6, hv6⟩ := owns_shape hown6; subst hv6; clear hown6))
  go_wp2_with fail
  go_ret
  exact ⟨ret_num Hff.out.symm, bt Hbw.out (by (repeat (with_reducible first | exact Below.refl _ _ | assumption | refine ba ?_ _ | refine bd ?_ | refine bdN ?_ _ | refine bs ?_ (by first | exact Nat.le_refl _ | (dsimp only; omega) | (simp; done)) _ | refine bt ?_ (by assumption))))⟩

set_option maxRecDepth 100000 in
set_option maxHeartbeats 2000000 in
theorem impl_HiddenFiles (v : Value) (fs : List Fil) (D : Nat → Prop) (pv : Value) (path : List Int) (w : World) (hr : FilsIn w D v fs) (hz : ShortT 2000000 fs) (hp : IntsIn w pv path) :
    Calls Tryz.prog 14 #[.agg #[v], pv] w (NewInts 3 (hidden fs path) w) := by
  obtain ⟨i0, hi, hz0, hz1, hz2⟩ := info_parts infoI
  have Hi := Lib.hid hi
  have Hz0 := Lib.hid hz0
  have Hz1 := Lib.hid hz1
  have Hz2 := Lib.hid hz2
  have Hr := Lib.hid hr
  have Hz := Lib.hid hz
  have Hp := Lib.hid hp
  obtain ⟨aa, ca, rfl, hl, hm⟩ := hr.len
  obtain ⟨pa, pc, rfl, hl1, hm1⟩ := hp.len
  clear hr hz hp hl hm hl1 hm1 hi hz0 hz1 hz2
  cases h1 : okLook fs path
  · have H1 := Lib.hid h1
    have Hs := Lib.hid (hidden_no h1)
    clear h1
    go_enter Tryz.func14, Tryz.ntmps14
    go_wp2_with (go_at_call 53; refine (impl_validLook _ fs D _ path _ (Hr.out.below (by (repeat (with_reducible first | exact Below.refl _ _ | assumption | refine ba ?_ _ | refine bd ?_ | refine bdN ?_ _ | refine bs ?_ (by first | exact Nat.le_refl _ | (dsimp only; omega) | (simp; done)) _ | refine bt ?_ (by assumption))))) Hz.out (Hp.out.below (by (repeat (with_reducible first | exact Below.refl _ _ | assumption | refine ba ?_ _ | refine bd ?_ | refine bdN ?_ _ | refine bs ?_ (by first | exact Nat.le_refl _ | (dsimp only; omega) | (simp; done)) _ | refine bt ?_ (by assumption)))))).mono ?_; (rintro _ _ ⟨rfl, hb⟩; obtain ⟨hc, hf, hs⟩ := bcell hb); rw [H1.out])
    go_ret
    exact newInts_no Hs.out (by (repeat (with_reducible first | exact Below.refl _ _ | assumption | refine ba ?_ _ | refine bd ?_ | refine bdN ?_ _ | refine bs ?_ (by first | exact Nat.le_refl _ | (dsimp only; omega) | (simp; done)) _ | refine bt ?_ (by assumption))))
  · have H1 := Lib.hid h1
    have Ht := Lib.hid (okLook_tree h1)
    have h3 := okPath_len (okLook_path h1)
    have h12 := (okTree_all (okLook_tree h1)).2.2
    have Hh := Lib.hid (hidden_at h1)
    clear h1
    go_enter Tryz.func14, Tryz.ntmps14
    go_wp2_with (go_at_call 53; refine (impl_validLook _ fs D _ path _ (Hr.out.below (by (repeat (with_reducible first | exact Below.refl _ _ | assumption | refine ba ?_ _ | refine bd ?_ | refine bdN ?_ _ | refine bs ?_ (by first | exact Nat.le_refl _ | (dsimp only; omega) | (simp; done)) _ | refine bt ?_ (by assumption))))) Hz.out (Hp.out.below (by (repeat (with_reducible first | exact Below.refl _ _ | assumption | refine ba ?_ _ | refine bd ?_ | refine bdN ?_ _ | refine bs ?_ (by first | exact Nat.le_refl _ | (dsimp only; omega) | (simp; done)) _ | refine bt ?_ (by assumption)))))).mono ?_; rintro _ w5 ⟨rfl, hb5⟩; rw [H1.out]; have Hx5 := Lib.hid ((Boxed.start w #[.slice aa fs.length ca] 25).step hb5); have hA : w5.cell? ⟨w.heap.size, 0, none⟩ = some (.slice aa fs.length ca) := Hx5.out.cell 0; clear hb5)
    clear hA
    go_loopw [5, 14] (fun dv kv wr => ∃ (k : Nat), k ≤ fs.length ∧ kv = .int .i64 k ∧ wr.ownsRow (w.heap.size + 1) 3 1 dv (hiddenGo fs path (fs.take k) 0).length ((hiddenGo fs path (fs.take k) 0).map iv) ∧ Boxed w #[.slice aa fs.length ca] 25 wr) (fun _ kv _ => fs.length - (intOf kv).toNat)
    case atStart => exact ⟨0, by omega, rfl, World.ownsRow_nil _ _ _ _, Hx5.out⟩
    case round =>
      obtain ⟨k, hk, rfl, hown, hbx⟩ := hrel
      have hbel := hbx.below
      have hsz := hbx.lt
      have hA : wr.cell? ⟨w.heap.size, 0, none⟩ = some (.slice aa fs.length ca) := hbx.cell 0
      have Hown := Lib.hid hown
      have Hbx := Lib.hid hbx
      clear hown hbx Hx5
      by_cases hlt : k < fs.length
      · have Hsn := Lib.hid (hidden_snoc fs path k hlt)
        have hll : (hiddenGo fs path (fs.take k) 0).length ≤ 12 := Nat.le_trans (hiddenGo_len fs path _ 0) (by rw [List.length_take]; omega)
        have Hfc := Lib.hid (fun W (hW : Below w.heap.size w W) => impl_foundFor _ fs D _ path k W (Hr.out.below hW) Hz.out Ht.out (Hp.out.below hW) (by omega) hlt)
        obtain ⟨ff, hff⟩ : ∃ ff, ff = foundFor fs path fs[k] := ⟨_, rfl⟩
        rw [← hff] at Hsn Hfc
        clear hff
        generalize hiddenGo fs path (fs.take k) 0 = ds at *
        by_cases he : ff = (k : Int)
        · have Hs2 := Lib.hid (show hiddenGo fs path (fs.take (k + 1)) 0 = ds by rw [Hsn.out, if_pos he, List.append_nil])
          subst he
          go_wp2_with (go_at_call 58; refine (Hfc.out _ (by (repeat (with_reducible first | exact Below.refl _ _ | assumption | refine ba ?_ _ | refine bd ?_ | refine bdN ?_ _ | refine bs ?_ (by first | exact Nat.le_refl _ | (dsimp only; omega) | (simp; done)) _ | refine bt ?_ (by assumption))))).mono ?_; rintro _ w6 ⟨rfl, hb6⟩; have Hb6 := Lib.hid (show Below wr.heap.size wr w6 by (repeat (with_reducible first | exact Below.refl _ _ | assumption | refine ba ?_ _ | refine bd ?_ | refine bdN ?_ _ | refine bs ?_ (by first | exact Nat.le_refl _ | (dsimp only; omega) | (simp; done)) _ | refine bt ?_ (by assumption)))); clear hb6)
          go_roundw
          case rel => exact ⟨k + 1, by omega, by go_num, by rw [Hs2.out]; exact owns_below Hown.out Hb6.out, Hbx.out.step Hb6.out⟩
          case measure => simp [intOf]; omega
        · have Hne := Lib.hid he
          have hne : (ff == (k : Int)) = false := by rw [beq_eq_false_iff_ne]; exact he
          have hne2 : (ff != (k : Int)) = true := by rw [bne, hne]; rfl
          clear he
          go_wp2_with (first
            | (go_at_call 58; refine (Hfc.out _ (by (repeat (with_reducible first | exact Below.refl _ _ | assumption | refine ba ?_ _ | refine bd ?_ | refine bdN ?_ _ | refine bs ?_ (by first | exact Nat.le_refl _ | (dsimp only; omega) | (simp; done)) _ | refine bt ?_ (by assumption))))).mono ?_; rintro _ w6 ⟨rfl, hb6⟩; have Hb6 := Lib.hid (show Below wr.heap.size wr w6 by (repeat (with_reducible first | exact Below.refl _ _ | assumption | refine ba ?_ _ | refine bd ?_ | refine bdN ?_ _ | refine bs ?_ (by first | exact Nat.le_refl _ | (dsimp only; omega) | (simp; done)) _ | refine bt ?_ (by assumption)))); have hz6 := Hb6.out.size; clear hb6)
            | (at_builtin; refine wpList_append_own _ rfl _ _ 35 rfl (w.heap.size + 1) 3 i0 (.int .i64 0) 1 8 Tryz.underlying35 Hi.out Hz0.out Hz1.out Hz2.out rfl (by decide) _ ds.length _ rfl ((owns_below Hown.out Hb6.out).alloc _) ⟨_, 0, none⟩ 1 1 [.int .i64 k] rfl rfl (new_one (by first | rfl | simp)) (fun x hx => by simp at hx; subst hx; rfl) (by unfold maxLen; omega) (by omega) (by simp; omega) ?_; intro v8 w8 hown8 hgrow8 hnil8))
          have Hx8 := Lib.hid (below_first Hbx.out (ba Hb6.out _) hgrow8 (fun g hg => (Hown.out.lt g hg).1))
          have Hown8 := Lib.hid (show w8.ownsRow (w.heap.size + 1) 3 1 v8 (ds ++ [(k : Int)]).length ((ds ++ [(k : Int)]).map iv) by rw [List.length_append, List.map_append]; exact hown8)
          clear hown8 hgrow8 hnil8
          go_roundw
          case rel => exact ⟨k + 1, by omega, by go_num, by rw [Hsn.out, if_neg Hne.out]; exact Hown8.out, Hx8.out⟩
          case measure => simp [intOf]; omega
      · obtain rfl : k = fs.length := by omega
        clear hA
        go_wp2_with fail
        go_ret
        exact ⟨_, rfl, owns_mono (by rw [← Hh.out]; exact Hown.out) (by omega), hbel⟩

end Go.Proofs.YtfelbhpgifgkcaaGreat
