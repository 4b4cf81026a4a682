/- The names that are reached: contracts of the reference's side. -/
import Derived.Test.YtfchakfkgmhagaaGreatSGraph
import Derived.Test.YtfchakfkgmhagaaGreatPlainQ
import Derived.Deep.DeepCutAuto
import Derived.Deep.RegionHeld3
set_option linter.unusedVariables false
set_option linter.unusedSimpArgs false
namespace Go.Proofs.YtfchakfkgmhagaaGreat
open Go.RowKit Go.Proofs.YtfchakfkgmhagaaGreat.Nm
set_option maxRecDepth 100000 in
set_option maxHeartbeats 8000000 in
theorem spec_reach (v : Value) (fs : List Fil) (D : Nat → Prop) (pv : Value) (path : List Int) (nv : Value) (xs : List Bs) (w : World) (hr : FilsIn w D v fs) (hz : ShortT 2000000 fs) (hlk : okLook fs path = true) (hp : IntsIn w pv path) (hn : Reads w nv xs) (hx1 : 1 ≤ xs.length) (hxl : xs.length ≤ 100) (hnd : xs.Nodup) (hv : ∀ x ∈ xs, vn x = true) :
    Calls Tryz.prog 73 #[.agg #[v], pv, nv] w (NewStrs 9 (reachAll fs path xs) w) := by
  obtain ⟨i0, hi, hz0, hz1, hz2⟩ := info_parts infoS
  have Hi := Lib.hid hi
  have Hz0 := Lib.hid hz0
  have Hz1 := Lib.hid hz1
  have Hz2 := Lib.hid hz2
  have Hr := Lib.hid hr
  have Hz := Lib.hid hz
  have Hp := Lib.hid hp
  have Hlk := Lib.hid hlk
  have ht := okLook_tree hlk
  obtain ⟨aa, ca, rfl, hl, hm⟩ := hr.len
  obtain ⟨bn, on, cn, rfl, hlc, hmc, hbn, hcn⟩ := Reads.some hn hx1
  obtain ⟨rk, hrk⟩ : ∃ f : Nat → List Bs, f = reachK (edgesOf fs path) xs := ⟨_, rfl⟩
  have hrl : ∀ k, (rk k).length ≤ xs.length + 288 := by rw [hrk]; exact reachK_len ht hnd
  have Hrk := Lib.hid hrk
  have Hvn := Lib.hid (show ∀ k, ∀ x ∈ rk k, vn x = true by rw [hrk]; exact reachK_all hv (fun n _ y hy => (edgesOf_ok fs path n).1 y hy))
  have Hcn := Lib.hid hcn
  have H0 := Lib.hid (show rk 0 = xs by rw [hrk]; rfl)
  have Hend := Lib.hid (show ∀ k, (rk k).length ≤ k → k ≤ xs.length + 288 → rk k = reachAll fs path xs by rw [hrk]; exact fun k h1 h2 => reachAll_at ht hnd h1 h2)
  have Hstep := Lib.hid (show ∀ k (h : k < (rk k).length), rk (k + 1) = addNew (rk k) (edgesOf fs path (rk k)[k]) by rw [hrk]; exact fun k h => reachK_step h)
  clear hr hz hp hlk hn hl hm hcn hrk hi hz0 hz1 hz2
  go_enter Tryz.func73, Tryz.ntmps73
  go_upto_region 1 with fail
  obtain ⟨W1, hW1⟩ : ∃ W, W = w.alloc (.cells #[.slice aa fs.length ca] 31) := ⟨_, rfl⟩
  have HT1 := Lib.hid (show HB W1 w.heap.size 31 #[.slice aa fs.length ca] by rw [hW1]; exact HB.new _ _ _)
  have hs1 : W1.heap.size = w.heap.size + 1 := by rw [hW1]; simp
  have Hb1 := Lib.hid (show Below w.heap.size w W1 by rw [hW1]; exact ba (Below.refl _ _) _)
  rw [← hW1]
  clear hW1
  have HE := Lib.hid (show (W1.alloc (.cells #[] 9)).ownsRow (w.heap.size + 1) 9 1 (.slice (some ⟨w.heap.size + 1, 0, none⟩) 0 0) 0 [] by
    have h := World.ownsRow_lit (size := 1) (base := w.heap.size + 1) (e := 9) W1 #[] 0 (by omega) (by unfold maxLen; omega) rfl
    rw [hs1] at h; exact h)
  have Hcc := Lib.hid (show ∀ (j : Nat) (u : Value), (xs.map sv)[j]? = some u → (W1.alloc (.cells #[] 9)).cell? ((⟨bn, on, none⟩ : Addr).add j) = some u from fun j u hu => by
    have hj : j < xs.length := by have := (List.getElem?_eq_some_iff.1 hu).1; simpa using this
    have hb2 : Below w.heap.size w (W1.alloc (.cells #[] 9)) := ba Hb1.out _
    have hadd : (⟨bn, on, none⟩ : Addr).add j = ⟨bn, on + j, none⟩ := by unfold Addr.add; split <;> simp_all
    rw [hadd, hb2.cell (p := ⟨bn, on + j, none⟩) hbn, Hcn.out j hj]
    rw [List.getElem?_map, List.getElem?_eq_getElem hj] at hu
    exact hu)
  go_wp2_with (at_builtin; refine wpList_append_own _ rfl _ _ 27 rfl (w.heap.size + 1) 9 i0 (.string ByteArray.empty) 1 16 Tryz.underlying27 Hi.out Hz0.out Hz1.out Hz2.out rfl (by decide) _ 0 _ rfl HE.out ⟨bn, on, none⟩ xs.length cn (xs.map sv) rfl (by simp) Hcc.out (fun x hx => by obtain ⟨b, _, rfl⟩ := List.mem_map.1 hx; rfl) (by unfold maxLen; omega) (by omega) (by simp; omega) ?_; intro v2 w2 hown2 hg2 hnil2; have Hown2 := Lib.hid hown2; have Hg2 := Lib.hid (show (W1.alloc (.cells #[] 9)).grownBy w2 (some (w.heap.size + 1)) from hg2); clear hown2 hg2 hnil2)
  have Hst := Lib.hid (show w2.ownsRow (w.heap.size + 1) 9 1 v2 (rk 0).length ((rk 0).map sv) by rw [H0.out]; have h := Hown2.out; simpa using h)
  have HT2 := Lib.hid ((HT1.out.alloc _).grown Hg2.out (by simp))
  have Hb2 := Lib.hid (((ba Hb1.out (.cells #[] 9)).grown Hg2.out (by simp; omega) (fun x hx => by simp only [Option.some.injEq] at hx; omega)))
  clear HE Hcc Hown2 Hg2 HT1 Hb1 hs1
  go_loopw [7, 8] (fun nv kv wr => ∃ (k : Nat), k ≤ (rk k).length ∧ kv = .int .i64 k ∧ wr.ownsRow (w.heap.size + 1) 9 1 nv (rk k).length ((rk k).map sv) ∧ HB wr w.heap.size 31 #[.slice aa fs.length ca] ∧ Below w.heap.size w wr) (fun _ kv _ => xs.length + 288 - (intOf kv).toNat)
  case atStart => exact ⟨0, by omega, rfl, Hst.out, HT2.out, Hb2.out⟩
  case round =>
    obtain ⟨k, hk, rfl, hown, hbx, hbel⟩ := hrel
    obtain ⟨na, nc, rfl⟩ := owns_shape hown
    have Hown := Lib.hid hown
    have Hbx := Lib.hid hbx
    have Hbel := Lib.hid hbel
    have lx := hbx.lt
    have x0 := hbx.cell 0
    have hkl := hrl k
    clear hbx hbel Hst HT2 Hb2
    by_cases hlt : k < (rk k).length
    · obtain ⟨gl, cl, el, hgl1, hgl2⟩ := hown.form (by omega)
      simp only [Value.slice.injEq] at el
      obtain ⟨rfl, _, rfl⟩ := el
      have hcj : wr.cell? ⟨gl, k, none⟩ = some (.string (mk (rk k)[k])) := by
        rw [hown.cellAt k (by omega), List.getElem?_map, List.getElem?_eq_getElem hlt]; rfl
      have hgs : gl < wr.heap.size := (hown.lt gl rfl).2
      have hk1 : (k : Int) < ((rk k).length : Int) := by omega
      have hk0 : (0 : Int) ≤ (k : Int) := by omega
      have Hv := Lib.hid (Hvn.out k _ (List.getElem_mem hlt))
      have Hnext := Lib.hid (Hstep.out k hlt)
      have hrl1 := hrl (k + 1)
      have Hpl := Lib.hid (show k + 1 ≤ (rk (k + 1)).length by
        rw [Hnext.out]
        have := (addNew_pre (rk k) (edgesOf fs path (rk k)[k])).length_le
        omega)
      clear hown hgl1 hgl2
      obtain ⟨x, hx⟩ : ∃ x, x = (rk k)[k] := ⟨_, rfl⟩
      rw [← hx] at hcj Hv Hnext
      clear hx
      obtain ⟨es, hes⟩ : ∃ es, es = edgesOf fs path x := ⟨_, rfl⟩
      have heL : es.length ≤ 24 := by rw [hes]; exact (edgesOf_ok fs path x).2.2
      rw [← hes] at Hnext
      have Hes := Lib.hid hes.symm
      have Hk := Lib.hid (fun (w' : World) (hC : Below wr.heap.size wr w') => (⟨(Hbx.out.step hC).cell 0, (hC.cell (p := ⟨gl, k, none⟩) hgs).trans hcj, hC⟩ : w'.cell? ⟨w.heap.size, 0, none⟩ = some (.slice aa fs.length ca) ∧ w'.cell? ⟨gl, k, none⟩ = some (.string (mk x)) ∧ Below wr.heap.size wr w'))
      clear hes
      go_upto_region 5 with fail
      go_region_held3 (fun w' => w'.cell? ⟨w.heap.size, 0, none⟩ = some (.slice aa fs.length ca) ∧ w'.cell? ⟨gl, k, none⟩ = some (.string (mk x)) ∧ Below wr.heap.size wr w')
        (first | exact Hk.out _ Hb9.out | exact Hk.out _ (by (repeat (with_reducible first | exact Below.refl _ _ | assumption | refine ba ?_ _ | refine bd ?_ | refine bdN ?_ _ | refine bs ?_ (by first | exact Nat.le_refl _ | (dsimp only; omega) | (simp; done)) _ | refine bt ?_ (by assumption)))))
        (first
          | (go_at_call 71; refine (spec_edges _ fs D _ path x _ (Hr.out.below (bt Hbel.out (by (repeat (with_reducible first | exact Below.refl _ _ | assumption | refine ba ?_ _ | refine bd ?_ | refine bdN ?_ _ | refine bs ?_ (by first | exact Nat.le_refl _ | (dsimp only; omega) | (simp; done)) _ | refine bt ?_ (by assumption)))))) Hz.out Hlk.out Hv.out (Hp.out.below (bt Hbel.out (by (repeat (with_reducible first | exact Below.refl _ _ | assumption | refine ba ?_ _ | refine bd ?_ | refine bdN ?_ _ | refine bs ?_ (by first | exact Nat.le_refl _ | (dsimp only; omega) | (simp; done)) _ | refine bt ?_ (by assumption))))))).mono ?_; rintro _ w9 ⟨v9, rfl, hown9, hb9⟩; rw [Hes.out] at hown9; obtain ⟨a9, c9, rfl⟩ := owns_shape hown9; have Hown9 := Lib.hid (owns_mono hown9 (show wr.heap.size ≤ _ from (show Below wr.heap.size wr _ by (repeat (with_reducible first | exact Below.refl _ _ | assumption | refine ba ?_ _ | refine bd ?_ | refine bdN ?_ _ | refine bs ?_ (by first | exact Nat.le_refl _ | (dsimp only; omega) | (simp; done)) _ | refine bt ?_ (by assumption)))).size)); have Hb9 := Lib.hid (show Below wr.heap.size wr w9 by (repeat (with_reducible first | exact Below.refl _ _ | assumption | refine ba ?_ _ | refine bd ?_ | refine bdN ?_ _ | refine bs ?_ (by first | exact Nat.le_refl _ | (dsimp only; omega) | (simp; done)) _ | refine bt ?_ (by assumption)))); clear hown9 hb9))
      clear x0 hcj
      have HA0 := Lib.hid (owns_below Hown.out Hb9.out)
      have HX0 := Lib.hid (Hbx.out.step Hb9.out)
      have HB0 := Lib.hid (Hbel.out.trans (Hb9.out.mono Hbel.out.size))
      have HE0 := Lib.hid (owns_mono Hown9.out (show w.heap.size + 1 ≤ wr.heap.size from lx))
      have Hap0 := Lib.hid (show ∀ y, (Value.slice a9 es.length c9).ownBlock = some y → (Value.slice (some ⟨gl, 0, none⟩) (rk k).length nc).ownBlock ≠ some y from fun y hy e => by
        have h1 := (owns_block Hown9.out hy).1
        simp only [Value.ownBlock, Option.some.injEq] at e
        omega)
      clear Hown9 Hb9
      go_wp2_with fail
      go_loopw [7, 10] (fun nv jv wr => ∃ (j : Nat), j ≤ es.length ∧ jv = .int .i64 j ∧ wr.ownsRow (w.heap.size + 1) 9 1 nv (addNew (rk k) (es.take j)).length ((addNew (rk k) (es.take j)).map sv) ∧ wr.ownsRow (w.heap.size + 1) 9 1 (.slice a9 es.length c9) es.length (es.map sv) ∧ (∀ x, (Value.slice a9 es.length c9).ownBlock = some x → nv.ownBlock ≠ some x) ∧ HB wr w.heap.size 31 #[.slice aa fs.length ca] ∧ Below w.heap.size w wr) (fun _ jv _ => es.length - (intOf jv).toNat)
      case atStart => exact ⟨0, by omega, rfl, HA0.out, HE0.out, Hap0.out, HX0.out, HB0.out⟩
      case round =>
        obtain ⟨j, hj, rfl, hown5, hown6, hap, hbx5, hbel5⟩ := hrel
        obtain ⟨na5, nc5, rfl⟩ := owns_shape hown5
        have Hown5 := Lib.hid hown5
        have Hown6 := Lib.hid hown6
        have Hap := Lib.hid hap
        have Hbx5 := Lib.hid hbx5
        have Hbel5 := Lib.hid hbel5
        have hz5 : w.heap.size + 1 ≤ wr.heap.size := hbx5.lt
        clear hown5 hown6 hap hbx5 hbel5 HA0 HE0 Hap0 HX0 HB0
        by_cases hjlt : j < es.length
        · have hdl : (addNew (rk k) (es.take j)).length ≤ 500 := by have := addNew_len (rk k) (es.take j); rw [List.length_take] at this; omega
          obtain ⟨ge, ce, el, hge1, hge2⟩ := Hown6.out.form (by omega)
          simp only [Value.slice.injEq] at el
          obtain ⟨rfl, _, rfl⟩ := el
          have hcj : wr.cell? ⟨ge, j, none⟩ = some (.string (mk es[j])) := by
            rw [Hown6.out.cellAt j (by omega), List.getElem?_map, List.getElem?_eq_getElem hjlt]; rfl
          have Hsn := Lib.hid (addNew_snoc (rk k) es j hjlt)
          have hj0' : (0 : Int) ≤ (j : Int) := by omega
          have hjlt' : (j : Int) < (es.length : Int) := by omega
          obtain ⟨t, ht2⟩ : ∃ t, t = es[j] := ⟨_, rfl⟩
          rw [← ht2] at hcj Hsn
          clear ht2 hge1 hge2
          obtain ⟨ds, hds⟩ : ∃ ds, ds = addNew (rk k) (es.take j) := ⟨_, rfl⟩
          rw [← hds] at Hown5 hdl Hsn Hap ⊢
          clear hds
          by_cases hm : t ∈ ds
          · have Hs2 := Lib.hid (show addNew (rk k) (es.take (j + 1)) = ds by rw [Hsn.out]; unfold addOne; rw [if_pos hm])
            have Hm2 := Lib.hid (show decide (t ∈ ds) = true from decide_eq_true hm)
            clear hm
            go_wp2_with (go_at_call 85; refine (spec_hasText _ ds t _ (Reads.of_owns Hown5.out) (by omega)).mono ?_; rintro _ _ ⟨rfl, rfl⟩; rw [Hm2.out])
            go_roundw
            case rel => exact ⟨j + 1, by omega, by go_num, by rw [Hs2.out]; exact Hown5.out, Hown6.out, Hap.out, Hbx5.out, Hbel5.out⟩
            case measure => simp [intOf]; omega
          · have Hs2 := Lib.hid (show addNew (rk k) (es.take (j + 1)) = ds ++ [t] by rw [Hsn.out]; unfold addOne; rw [if_neg hm])
            have Hm2 := Lib.hid (show decide (t ∈ ds) = false from decide_eq_false hm)
            clear hm
            go_wp2_with (first
              | (go_at_call 85; refine (spec_hasText _ ds t _ (Reads.of_owns Hown5.out) (by omega)).mono ?_; rintro _ _ ⟨rfl, rfl⟩; rw [Hm2.out])
              | (at_builtin; refine wpList_append_own_at _ rfl _ _ 27 rfl (w.heap.size + 1) 9 i0 (.string ByteArray.empty) 1 16 Tryz.underlying27 Hi.out Hz0.out Hz1.out Hz2.out rfl (by decide) _ ds.length _ rfl (Hown5.out.alloc _) ⟨_, 0, none⟩ 1 1 [.string (mk t)] rfl rfl (new_one (by first | rfl | simp)) (fun x hx => by simp at hx; subst hx; rfl) (by unfold maxLen; omega) (by omega) (by simp; omega) ?_; intro v10 w10 hown10 hgrow10 hnil10 hat10))
            have Hg10 := Lib.hid (gb_step (World.grownBy_alloc wr (.cells #[.string (mk t)] 9) (Value.slice na5 ds.length nc5).ownBlock) hgrow10 (fun x hx => .inl hx))
            have Hown10 := Lib.hid (show w10.ownsRow (w.heap.size + 1) 9 1 v10 (ds ++ [t]).length ((ds ++ [t]).map sv) by rw [List.length_append, List.map_append]; exact hown10)
            have Hat10 := Lib.hid hat10
            clear hown10 hgrow10 hnil10 hat10
            go_roundw
            case rel =>
              refine ⟨j + 1, by omega, by go_num, by rw [Hs2.out]; exact Hown10.out, owns_heap Hown6.out (fun x hx => Hg10.out.block x (owns_block Hown6.out hx).2 (fun e => Hap.out x hx e.symm)), fun x hx e => ?_, Hbx5.out.grown Hg10.out (fun e => by have := (Hown5.out.lt _ e).1; omega), Hbel5.out.grown Hg10.out (by omega) (fun x hx => by have := (Hown5.out.lt x hx).1; omega)⟩
              rcases Hat10.out with h | h
              · have h' : v10.ownBlock = (Value.slice na5 ds.length nc5).ownBlock := h
                exact Hap.out x hx (h'.symm.trans e)
              · rw [h] at e
                have h1 := (owns_block Hown6.out hx).2
                simp at e
                omega
            case measure => simp [intOf]; omega
        · obtain rfl : j = es.length := by omega
          rw [List.take_length] at Hown5 Hap ⊢
          rw [← Hnext.out] at Hown5 Hap ⊢
          go_wp2_with fail
          go_roundw
          case rel => exact ⟨k + 1, Hpl.out, by go_num, Hown5.out, Hbx5.out, Hbel5.out⟩
          case measure => simp [intOf]; omega
    · have hek : (rk k).length = k := by omega
      go_wp2_with fail
      go_ret
      refine ⟨_, rfl, ?_, Hbel.out⟩
      rw [← Hend.out k (by omega) (by omega)]
      exact owns_mono Hown.out (Nat.le_succ _)
end Go.Proofs.YtfchakfkgmhagaaGreat
