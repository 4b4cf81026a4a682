/- FnStampOf returns true for every code. -/
import Derived.Test.YtgecemngfpgcoaaDrawDb
import Derived.Test.YtgecemngfpgcoaaDisks4
import Derived.Test.YtgecemngfpgcoaaPlainKd
import Derived.Test.YtgecemngfpgcoaaFrame
import Derived.OwnWalk
set_option linter.unusedVariables false
set_option linter.unusedSimpArgs false
namespace Go.Proofs.Ytgecemngfpgcoaa.FnStampOf
open Go.ChangeShapes Go.WideShapes Go.ChangeAt Go.RowKit Go.Proofs.Ytgecemngfpgcoaa.Nm

/-- Whether a directory at a place with a stamp is among some. -/
def anyD (ds : List Dr) (root : Int) (p : Bs) (m : Int) : Bool := ds.any (fun d => d.root == root && (d.pack == p && d.stamp == m))
theorem anyD_snoc {ds : List Dr} {k : Nat} (h : k < ds.length) (root : Int) (p : Bs) (m : Int) : anyD (ds.take (k + 1)) root p m = (anyD (ds.take k) root p m || (ds[k].root == root && (ds[k].pack == p && ds[k].stamp == m))) := by
  unfold anyD
  rw [List.take_succ_eq_append_getElem h, List.any_append]
  simp
theorem anyD_mem {ds : List Dr} {root : Int} {p : Bs} {m : Int} (h : ∃ x ∈ ds, x.root = root ∧ x.pack = p ∧ x.stamp = m) : anyD ds root p m = true := by
  obtain ⟨x, hx, h1, h2, h3⟩ := h
  unfold anyD
  rw [List.any_eq_true]
  exact ⟨x, hx, by rw [h1, h2, h3]; simp⟩
set_option maxRecDepth 100000 in
set_option maxHeartbeats 2000000 in
theorem walk (a : Option Addr) (n cap : Nat) (w : World) (hc : Code w w.heap.size a n cap) :
    Calls Try.prog 7 #[.slice a n cap] w fun e w' => e = .returned (.bool true) ∧ Below w.heap.size w w' := by
  by_cases hn : (1048576 : Int) < (n : Int)
  · go_enter Try.func7, Try.ntmps7
    go_wp2_with fail
    go_ret
    exact ⟨rfl, Below.refl _ _⟩
  · have Hc := Lib.hid hc
    clear hc
    go_enter Try.func7, Try.ntmps7
    go_wp2_with fail
    refine (spec_DrawStampOf a n cap w Hc.out).mono ?_
    rintro e w1 ⟨v, ps, u, qs, cl, root, p, rfl, ⟨hown, hfine, hc1, hc2⟩, hr1, hr2, hp, hb1⟩
    obtain ⟨⟨oa, oc, rfl⟩, ⟨ua, uc, rfl⟩⟩ := hown.len
    have Hz := Lib.hid hfine.short
    have Hql := Lib.hid (show qs.length ≤ 21 by have h := hfine.2.2.2.2; rwa [List.length_map] at h)
    have B1 := BoxC.start w1 #[.slice oa ps.length oc, .int .i64 cl, .slice ua qs.length uc] 28
    obtain ⟨W1, hW1⟩ : ∃ W, W = w1.alloc (.cells #[.slice oa ps.length oc, .int .i64 cl, .slice ua qs.length uc] 28) := ⟨_, rfl⟩
    have hbw : Below w1.heap.size w1 W1 := by rw [hW1]; (repeat (with_reducible first | exact Below.refl _ _ | assumption | refine ba ?_ _ | refine bd ?_ | refine bdN ?_ _ | refine bs ?_ (by first | exact Nat.le_refl _ | (dsimp only; omega) | (simp; done)) _ | refine bt ?_ (by assumption)))
    rw [← hW1] at B1
    have HB1 := Lib.hid (hb1.trans (hbw.mono hb1.size))
    have HX := Lib.hid B1
    have Hin := Lib.hid (show DskIn W1 (fun _ => True) (.slice oa ps.length oc) (ps.map (·.1)) (.slice ua qs.length uc) (qs.map (·.1)) from dsk_in (hown.below hbw) rfl rfl)
    have HW1 := Lib.hid hW1
    have HO := Lib.hid (hown.2.below hbw)
    have hx : ∀ w', Below W1.heap.size W1 w' → w'.cell? ⟨w1.heap.size, 0, none⟩ = some (.slice oa ps.length oc) ∧ w'.cell? ⟨w1.heap.size, 1, none⟩ = some (.int .i64 cl) ∧ w'.cell? ⟨w1.heap.size, 2, none⟩ = some (.slice ua qs.length uc) := fun w' h => ⟨(HX.out.below h).2 0, (HX.out.below h).2 1, (HX.out.below h).2 2⟩
    have Hx := Lib.hid hx
    clear hown hfine hb1 hbw B1 hW1 hx
    obtain ⟨x0, x1, x2⟩ := Hx.out _ (Below.refl _ _)
    obtain ⟨m, hm⟩ : ∃ m, stampOf ⟨ps.map (·.1), cl, qs.map (·.1)⟩ root p = m := ⟨_, rfl⟩
    have Hm := Lib.hid hm
    have Hpast := Lib.hid (fun (h : 0 ≤ m) => stampOf_past (d := ⟨ps.map (·.1), cl, qs.map (·.1)⟩) (root := root) (p := p) (by rw [hm]; exact h))
    have HV1 := Lib.hid (Below.refl W1.heap.size W1)
    clear hm
    by_cases hneg : m < 0
    · go_wp2_with fail
      rw [← HW1.out]
      refine (impl_StampOf _ (ps.map (·.1)) cl _ (qs.map (·.1)) (fun _ => True) root p _ (Hin.out.below HV1.out) Hz.out (by omega)).mono ?_
      rintro _ w2 ⟨rfl, hb⟩
      rw [Hm.out]
      have Hw2 := Lib.hid (HV1.out.trans (hb.mono HV1.out.size))
      clear hb
      obtain ⟨x0, x1, x2⟩ := Hx.out w2 Hw2.out
      go_wp2_with fail
      refine (spec_StampOf _ (ps.map (·.1)) cl _ (qs.map (·.1)) (fun _ => True) root p _ (Hin.out.below Hw2.out) Hz.out (by omega)).mono ?_
      rintro _ w3 ⟨rfl, hb⟩
      rw [Hm.out]
      have Hw3 := Lib.hid (Hw2.out.trans (hb.mono Hw2.out.size))
      clear hb
      obtain ⟨x0, x1, x2⟩ := Hx.out w3 Hw3.out
      go_wp2_with fail
      refine (spec_StampOf _ (ps.map (·.1)) cl _ (qs.map (·.1)) (fun _ => True) root p _ (Hin.out.below Hw3.out) Hz.out (by omega)).mono ?_
      rintro _ w4 ⟨rfl, hb⟩
      rw [Hm.out]
      have Hw4 := Lib.hid (Hw3.out.trans (hb.mono Hw3.out.size))
      clear hb
      obtain ⟨x0, x1, x2⟩ := Hx.out w4 Hw4.out
      go_wp2_with fail
      go_ret
      exact ⟨rfl, HB1.out.trans (Hw4.out.mono HB1.out.size)⟩
    · obtain ⟨_, hle, hex⟩ := Hpast.out (by omega)
      rw [Hm.out] at hle hex
      have Hle := Lib.hid (show m ≤ cl from hle)
      have Hex := Lib.hid hex
      have hneg' : ¬ m < 0 := hneg
      clear hle hex
      go_wp2_with fail
      rw [← HW1.out]
      refine (impl_StampOf _ (ps.map (·.1)) cl _ (qs.map (·.1)) (fun _ => True) root p _ (Hin.out.below HV1.out) Hz.out (by omega)).mono ?_
      rintro _ w2 ⟨rfl, hb⟩
      rw [Hm.out]
      have Hw2 := Lib.hid (HV1.out.trans (hb.mono HV1.out.size))
      clear hb
      obtain ⟨x0, x1, x2⟩ := Hx.out w2 Hw2.out
      go_wp2_with fail
      refine (spec_StampOf _ (ps.map (·.1)) cl _ (qs.map (·.1)) (fun _ => True) root p _ (Hin.out.below Hw2.out) Hz.out (by omega)).mono ?_
      rintro _ w3 ⟨rfl, hb⟩
      rw [Hm.out]
      have Hw3 := Lib.hid (Hw2.out.trans (hb.mono Hw2.out.size))
      clear hb
      obtain ⟨x0, x1, x2⟩ := Hx.out w3 Hw3.out
      have HO3 := Lib.hid (HO.out.below Hw3.out)
      obtain ⟨nq, hnq⟩ : ∃ nq, nq = qs.length := ⟨_, rfl⟩
      have Hnq := Lib.hid hnq
      rw [← hnq] at HO3 Hql x2 ⊢
      clear hnq
      have hql := Hql.out
      go_wp2_with fail
      go_loop [7, 8] (fun mv iv => ∃ (k : Nat) (b : Bool), k ≤ nq ∧ iv = .int .i64 k ∧ mv = .bool b ∧ b = anyD ((qs.map (·.1)).take k) root p m) (fun _ iv => nq - (intOf iv).toNat)
      case atStart => exact ⟨0, false, by omega, rfl, rfl, by simp [anyD]⟩
      case round =>
        obtain ⟨k, b, hk, rfl, rfl, hb⟩ := hrel
        have Hb := Lib.hid hb
        clear hb
        by_cases hlt : k < nq
        · have hkq : k < qs.length := by have := Hnq.out; omega
          obtain ⟨g, cap', e1, hg, hg2⟩ := HO3.out.1.form (by omega)
          simp only [Value.slice.injEq] at e1
          obtain ⟨rfl, hnn, rfl⟩ := e1
          clear hnn hg hg2
          have hrow := HO3.out.1
          rw [← Hnq.out] at hrow
          obtain ⟨⟨c0, c1, c2, _⟩, _⟩ := own4 hrow k hkq
          have Hsn := Lib.hid (show anyD ((qs.map (·.1)).take (k + 1)) root p m = (b || (qs[k].1.root == root && (qs[k].1.pack == p && qs[k].1.stamp == m))) from by
            have h := anyD_snoc (ds := qs.map (·.1)) (k := k) (by rw [List.length_map]; exact hkq) root p m
            rw [← Hb.out, List.getElem_map] at h
            exact h)
          obtain ⟨d0, hd0⟩ : ∃ d0, d0 = qs[k].1 := ⟨_, rfl⟩
          rw [← hd0] at c0 c1 c2 Hsn
          clear hd0 hrow
          obtain ⟨dr, dp, ds0, dn⟩ := d0
          dsimp only at c0 c1 c2 Hsn
          have hkI : (k : Int) < (nq : Int) := by omega
          have hkJ : (0 : Int) ≤ (k : Int) := by omega
          cases b
          · cases h1 : (dr == root)
            · have Hs := Lib.hid (show anyD ((qs.map (·.1)).take (k + 1)) root p m = false by rw [Hsn.out, h1]; rfl)
              go_wp2_with fail
              go_round
              case rel => exact ⟨k + 1, false, by omega, by go_num, rfl, Hs.out.symm⟩
              case measure => simp [intOf]; omega
            · cases h2 : (dp == p)
              · have Hs := Lib.hid (show anyD ((qs.map (·.1)).take (k + 1)) root p m = false by rw [Hsn.out, h1, h2]; rfl)
                go_wp2_with fail
                go_round
                case rel => exact ⟨k + 1, false, by omega, by go_num, rfl, Hs.out.symm⟩
                case measure => simp [intOf]; omega
              · cases h3 : (ds0 == m)
                · have Hs := Lib.hid (show anyD ((qs.map (·.1)).take (k + 1)) root p m = false by rw [Hsn.out, h1, h2, h3]; rfl)
                  go_wp2_with fail
                  go_round
                  case rel => exact ⟨k + 1, false, by omega, by go_num, rfl, Hs.out.symm⟩
                  case measure => simp [intOf]; omega
                · have Hs := Lib.hid (show anyD ((qs.map (·.1)).take (k + 1)) root p m = true by rw [Hsn.out, h1, h2, h3]; rfl)
                  go_wp2_with fail
                  go_round
                  case rel => exact ⟨k + 1, true, by omega, by go_num, rfl, Hs.out.symm⟩
                  case measure => simp [intOf]; omega
          · have Hs := Lib.hid (show anyD ((qs.map (·.1)).take (k + 1)) root p m = true by rw [Hsn.out]; rfl)
            go_wp2_with fail
            go_round
            case rel => exact ⟨k + 1, true, by omega, by go_num, rfl, Hs.out.symm⟩
            case measure => simp [intOf]; omega
        · have Hall := Lib.hid (show b = true ∨ m = 0 by
            rcases Hex.out with h | h
            · left
              rw [Hb.out, List.take_of_length_le (by rw [List.length_map]; have := Hnq.out; omega)]
              exact anyD_mem h
            · exact .inr h)
          have hle := Hle.out
          have hkn : ¬ ((k : Int) < (nq : Int)) := by omega
          cases b
          · have hm0 : m = 0 := by rcases Hall.out with h | h; exact absurd h (by simp); exact h
            subst hm0
            go_wp2_with fail
            go_ret
            exact ⟨rfl, HB1.out.trans (Hw3.out.mono HB1.out.size)⟩
          · go_wp2_with fail
            go_ret
            exact ⟨rfl, HB1.out.trans (Hw3.out.mono HB1.out.size)⟩

/-! ### THE STEP TO THE ROW -/
set_option maxRecDepth 100000 in
theorem lifted (os : Os) (started : os.Started) (H : Type) (enc : TypeId × Value → H) :
    ReturnsInHanded {} Try.checked os 7 .any (Rows.fnStampOfSpec.pre6 enc Try.prog Try.f7 Rows.fnStampOfRow.domain false) (Rows.fnStampOfSpec.post enc Try.prog Try.f7 false true false false) := by
  refine returnsInHanded_of_change (C := Try.checked) own started (by kernel_rfl) Try.func7
    (ChangeSpec.witness6 (enc := enc) (C := Try.checked) false ⟨#[], #[.slice none 0 0], []⟩ 8 (by kernel_rfl) (by kernel_rfl) (by kernel_rfl) (by kernel_rfl)) ?_
  intro W base args ds gs before hval0 hW hcnd _
  have hval : ∀ (j : Nat) t v, Try.f7.params[j]? = some t → args[j]? = some v → Value.okWide Try.prog W .any base t v := hval0
  have hW' := hW
  obtain ⟨p, q, hA0, hV, rfl, hfz, hnd⟩ := hW
  have hA : DataW.TrodAll enc Try.prog W 0 (fun _ => true) true Try.f7.params.toList args.toList ds p := hA0
  rw [Try.params7] at hA hval
  obtain ⟨v0, vs0, d0, ds0, p0, q0, hargs, rfl, rfl, h0, r0⟩ := trodAll_cons hA
  obtain ⟨rfl, rfl, rfl⟩ := trodAll_nil r0
  obtain rfl : args = #[v0] := by cases args; simp_all
  obtain ⟨rfl, rfl⟩ := trodVars_none hV
  obtain ⟨a0, len0, cap0, rfl⟩ := okWide_slice Try.underlying22 (hval 0 22 v0 rfl rfl)
  have k0 := h0
  have lt0 : ∀ x ∈ p0, x.block < W.heap.size := by obtain ⟨m, hm⟩ := k0; exact DataW.trod_lt m _ _ _ hm
  have w0 : Code W W.heap.size a0 len0 cap0 := by
    obtain ⟨fuel, hf⟩ := h0
    rcases open_ints Try.underlying22 Try.underlying5 (by kernel_rfl) hf with ⟨hcs, _⟩ | ⟨x, l, c, zs, hcs, _, hl, hm, hz, _, hcell, hwz⟩
    · simp [Value.cells] at hcs
      obtain ⟨rfl, rfl, rfl⟩ := hcs
      exact .inl ⟨rfl, by unfold maxLen; omega⟩
    · simp [Value.cells] at hcs
      obtain ⟨rfl, rfl, rfl⟩ := hcs
      exact code_row W _ _ _ zs hl hm (by simpa using hz) hcell hwz
  clear hA0 hval0
  refine (walk a0 len0 cap0 W w0).mono fun e W' ⟨he, bel⟩ => ?_
  subst he
  exact ⟨_, rfl, _, _, _, [], _, [], hW', trodAll_mk1 (shut_bool Try.underlying4 _), (trodAll_cons_mk (Below.trod laidOut (by kernel_rfl) (of_decide_eq_true (by kernel_rfl)) k0 bel lt0) trodAll_mk0), rfl, bel.frame _, fun h => by cases h⟩

theorem over : Rows.fnStampOfRow.holds Try.pinned (OpenSpec.ofChange Rows.fnStampOfSpec) :=
  OpenClaim.holds_of_wide 7 Try.f7 rfl rfl rfl rfl rfl rfl rfl ⟨rfl, rfl, rfl, rfl, rfl⟩ rfl rfl rfl rfl rfl (by kernel_rfl) Try.func7 (by kernel_rfl)
    (of_decide_eq_true (by kernel_rfl)) (by unfold Func.isWrapper; first | (rw [if_pos (by decide +kernel)]; kernel_rfl) | (rw [if_neg (by decide +kernel)]; exact ⟨rfl, rfl⟩))
    (fun os started H enc _ => lifted os started H enc)

/-- THE STATEMENT -/
theorem proved : Rows.FnStampOfSaid := over
end Go.Proofs.Ytgecemngfpgcoaa.FnStampOf
