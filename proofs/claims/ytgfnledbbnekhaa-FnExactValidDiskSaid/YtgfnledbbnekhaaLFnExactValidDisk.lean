/- FnExactValidDisk returns true for every argument. -/
import Derived.Test.YtgfnledbbnekhaaDisks4
import Derived.Test.YtgfnledbbnekhaaDisks2
import Derived.Test.YtgfnledbbnekhaaExDisk
import Derived.Test.YtgfnledbbnekhaaExTools
import Derived.Test.YtgfnledbbnekhaaSzTree
import Derived.Test.YtgfnledbbnekhaaReadIn
import Derived.Test.YtgfnledbbnekhaaHeld
import Derived.Test.YtgfnledbbnekhaaMarks2
import Derived.Test.YtgfnledbbnekhaaInts
import Derived.Test.YtgfnledbbnekhaaStrs
import Derived.Test.YtgfnledbbnekhaaFrame
set_option linter.unusedVariables false
set_option linter.unusedSimpArgs false
namespace Go.Proofs.Ytgfnledbbnekhaa.FnExactValidDisk
open Go.ChangeShapes Go.WideShapes Go.ChangeAt Go.RowKit Go.Proofs.Ytgfnledbbnekhaa.Nm

set_option maxRecDepth 100000 in
set_option maxHeartbeats 16000000 in
theorem walk (v0 : Value) (fs0 : List Fil) (k0 : Int) (u0 : Value) (ds0 : List Dr) (w : World) (h0 : DskIn w (fun _ => True) v0 fs0 u0 ds0 ∧ ShortK maxLen fs0 ds0) :
    Calls Try.prog 3 #[.agg #[v0, .int .i64 k0, u0]] w fun e w' => e = .returned (.bool true) ∧ Below w.heap.size w w' := by
  obtain ⟨hr0, hz0⟩ := h0
  have HR0 := Lib.hid hr0
  have HZ0 := Lib.hid hz0
  obtain ⟨⟨aa0, ca0, rfl, hlc0, hmc0⟩, ⟨ab0, cb0, rfl, hld0, hmd0⟩⟩ := hr0.len
  clear hr0 hz0 hmc0 hmd0 hlc0 hld0
  obtain ⟨C0, hC0⟩ : ∃ C, C = dskCost fs0 ds0 := ⟨_, rfl⟩
  have HC0 := Lib.hid hC0
  clear hC0
  obtain ⟨g0, hg0⟩ : ∃ g, g = okDisk ⟨fs0, k0, ds0⟩ := ⟨_, rfl⟩
  have HG0 := Lib.hid hg0
  clear hg0
  go_enter Try.func3, Try.ntmps3
  go_wp2_with fail
  refine (laws_szDiskX _ fs0 _ _ ds0 _ 1048576 _ (HR0.out.below (by (repeat (with_reducible first | exact Below.refl _ _ | assumption | refine ba ?_ _ | refine bd ?_ | refine bdN ?_ _ | refine bs ?_ (by first | exact Nat.le_refl _ | (dsimp only; omega) | (simp; done)) _ | refine bt ?_ (by assumption))))) HZ0.out (by omega)).mono ?_
  rintro _ w1 ⟨r1, rfl, hr1, hb1⟩
  have hs1 : Below w.heap.size w w1 := by (repeat (with_reducible first | exact Below.refl _ _ | assumption | refine ba ?_ _ | refine bd ?_ | refine bdN ?_ _ | refine bs ?_ (by first | exact Nat.le_refl _ | (dsimp only; omega) | (simp; done)) _ | refine bt ?_ (by assumption)))
  have Bw1 := Lib.hid (hs1)
  have X2 := Lib.hid (show BoxC w1 (w.heap.size) #[.slice aa0 fs0.length ca0, .int .i64 k0, .slice ab0 ds0.length cb0] from ((BoxC.start w #[.slice aa0 fs0.length ca0, .int .i64 k0, .slice ab0 ds0.length cb0] 27).below hb1).at (by simp))
  rw [← HC0.out] at hr1
  have k3_0 : w1.cell? ⟨w.heap.size, 0, none⟩ = some (.slice aa0 fs0.length ca0) := (X2.out).2 0
  have k3_1 : w1.cell? ⟨w.heap.size, 1, none⟩ = some (.int .i64 k0) := (X2.out).2 1
  have k3_2 : w1.cell? ⟨w.heap.size, 2, none⟩ = some (.slice ab0 ds0.length cb0) := (X2.out).2 2
  have kl3 := (X2.out).1
  by_cases hn1 : r1 < 0
  · go_wp2_with fail
    go_ret
    exact ⟨rfl, Bw1.out⟩
  obtain ⟨R1, rfl⟩ := Int.eq_ofNat_of_zero_le (show 0 ≤ r1 by omega)
  have hR1 : R1 + C0 ≤ 1048576 := by omega
  clear hr1
  have HL0 := Lib.hid (dskCosts_of (by rw [← HC0.out]; omega : dskCost fs0 ds0 ≤ 1048576))
  have HS0 := Lib.hid (shortK_mono (B := 2000000) (by omega) (shortK_of (by rw [← HC0.out]; omega : dskCost fs0 ds0 ≤ 1048576)))
  have Hse0 := Lib.hid (sameDsk_self fs0 k0 ds0)
  go_wp2_with fail
  refine (laws_toDiskX _ fs0 _ _ ds0 _ _ (HR0.out.below (bt Bw1.out (by (repeat (with_reducible first | exact Below.refl _ _ | assumption | refine ba ?_ _ | refine bd ?_ | refine bdN ?_ _ | refine bs ?_ (by first | exact Nat.le_refl _ | (dsimp only; omega) | (simp; done)) _ | refine bt ?_ (by assumption)))))) HL0.out).mono ?_
  rintro _ w4 ⟨v4, ps4, u4, qs4, rfl, hps4, hqs4, ho4, hq4, hb4⟩
  clear k3_0 k3_1 k3_2 kl3
  have hs4 : Below w1.heap.size w1 w4 := by (repeat (with_reducible first | exact Below.refl _ _ | assumption | refine ba ?_ _ | refine bd ?_ | refine bdN ?_ _ | refine bs ?_ (by first | exact Nat.le_refl _ | (dsimp only; omega) | (simp; done)) _ | refine bt ?_ (by assumption)))
  have Bw4 := Lib.hid (bt Bw1.out hs4)
  have X5 := Lib.hid (X2.out.below hs4)
  clear Bw1 X2
  obtain ⟨a4, c4, rfl⟩ := ho4.len
  obtain ⟨e4, f4, rfl⟩ := hq4.len
  have hpl4 : ps4.length = fs0.length := (by rw [← hps4, List.length_map])
  have hql4 : qs4.length = ds0.length := (by rw [← hqs4, List.length_map])
  rw [hpl4] at ho4 ⊢
  rw [hql4] at hq4 ⊢
  have I4 := Lib.hid (show DskIn w4 (fun _ => True) (.slice a4 fs0.length c4) fs0 (.slice e4 ds0.length f4) ds0 from ⟨by have h := ho4.fils (D := (fun _ => True)) (fun _ _ => trivial); rw [hps4] at h; exact h, by have h := hq4.dirs (D := (fun _ => True)) (fun _ _ => trivial); rw [hqs4] at h; exact h⟩)
  clear ho4 hps4 hq4 hqs4
  go_wp2_with fail
  refine (spec_ValidDisk _ fs0 _ _ ds0 (fun _ => True) _ (I4.out.below (by (repeat (with_reducible first | exact Below.refl _ _ | assumption | refine ba ?_ _ | refine bd ?_ | refine bdN ?_ _ | refine bs ?_ (by first | exact Nat.le_refl _ | (dsimp only; omega) | (simp; done)) _ | refine bt ?_ (by assumption))))) HS0.out).mono ?_
  rintro _ w6 ⟨rfl, hb6⟩
  have hs6 : Below w4.heap.size w4 w6 := by (repeat (with_reducible first | exact Below.refl _ _ | assumption | refine ba ?_ _ | refine bd ?_ | refine bdN ?_ _ | refine bs ?_ (by first | exact Nat.le_refl _ | (dsimp only; omega) | (simp; done)) _ | refine bt ?_ (by assumption)))
  have Bw6 := Lib.hid (bt Bw4.out hs6)
  have X7 := Lib.hid (X5.out.below hs6)
  have J8 := Lib.hid (I4.out.below hs6)
  clear Bw4 X5 I4
  have Hz6 := Lib.hid (show w4.heap.size ≤ w6.heap.size by have h := hb6.size; first | omega | (simp at h; omega))
  try rw [← HG0.out]
  obtain ⟨WW, hWW⟩ : ∃ WW, WW = w6 := ⟨_, rfl⟩
  have hWs : WW.heap.size = w6.heap.size + 0 := by rw [hWW]; simp
  have hcW : Below w6.heap.size w6 WW := by rw [hWW]; (repeat (with_reducible first | exact Below.refl _ _ | assumption | refine ba ?_ _ | refine bd ?_ | refine bdN ?_ _ | refine bs ?_ (by first | exact Nat.le_refl _ | (dsimp only; omega) | (simp; done)) _ | refine bt ?_ (by assumption)))
  have HwW := Lib.hid (bt Bw6.out hcW)
  have Hpl0 := Lib.hid (show w.heap.size < WW.heap.size by have := X7.out.1; omega)
  have HWs := Lib.hid hWs
  clear hWs hcW
  have k9_0 : w6.cell? ⟨w.heap.size, 0, none⟩ = some (.slice aa0 fs0.length ca0) := (X7.out).2 0
  have k9_1 : w6.cell? ⟨w.heap.size, 1, none⟩ = some (.int .i64 k0) := (X7.out).2 1
  have k9_2 : w6.cell? ⟨w.heap.size, 2, none⟩ = some (.slice ab0 ds0.length cb0) := (X7.out).2 2
  have kl9 := (X7.out).1
  go_wp2_with fail
  refine (laws_toDiskX _ fs0 _ _ ds0 _ _ (HR0.out.below (bt Bw6.out (by (repeat (with_reducible first | exact Below.refl _ _ | assumption | refine ba ?_ _ | refine bd ?_ | refine bdN ?_ _ | refine bs ?_ (by first | exact Nat.le_refl _ | (dsimp only; omega) | (simp; done)) _ | refine bt ?_ (by assumption)))))) HL0.out).mono ?_
  rintro _ w10 ⟨v10, ps10, u10, qs10, rfl, hps10, hqs10, ho10, hq10, hb10⟩
  clear k9_0 k9_1 k9_2 kl9
  have hs10 : Below w6.heap.size w6 w10 := by (repeat (with_reducible first | exact Below.refl _ _ | assumption | refine ba ?_ _ | refine bd ?_ | refine bdN ?_ _ | refine bs ?_ (by first | exact Nat.le_refl _ | (dsimp only; omega) | (simp; done)) _ | refine bt ?_ (by assumption)))
  have Bw10 := Lib.hid (bt Bw6.out hs10)
  have BW10 := Lib.hid (show Below WW.heap.size WW w10 by rw [hWW]; exact hb10)
  have X11 := Lib.hid (X7.out.below hs10)
  clear Bw6 X7
  have Hz10 := Lib.hid (show w6.heap.size ≤ w10.heap.size by have h := hb10.size; first | omega | (simp at h; omega))
  obtain ⟨a10, c10, rfl⟩ := ho10.len
  obtain ⟨e10, f10, rfl⟩ := hq10.len
  have hpl10 : ps10.length = fs0.length := (by rw [← hps10, List.length_map])
  have hql10 : qs10.length = ds0.length := (by rw [← hqs10, List.length_map])
  rw [hpl10] at ho10 ⊢
  rw [hql10] at hq10 ⊢
  have I10 := Lib.hid (show DskIn w10 (fun _ => True) (.slice a10 fs0.length c10) fs0 (.slice e10 ds0.length f10) ds0 from ⟨by have h := ho10.fils (D := (fun _ => True)) (fun _ _ => trivial); rw [hps10] at h; exact h, by have h := hq10.dirs (D := (fun _ => True)) (fun _ _ => trivial); rw [hqs10] at h; exact h⟩)
  clear ho10 hps10 hq10 hqs10
  go_wp2_with fail
  refine (impl_ValidDisk _ fs0 _ _ ds0 (fun _ => True) _ (I10.out.below (by (repeat (with_reducible first | exact Below.refl _ _ | assumption | refine ba ?_ _ | refine bd ?_ | refine bdN ?_ _ | refine bs ?_ (by first | exact Nat.le_refl _ | (dsimp only; omega) | (simp; done)) _ | refine bt ?_ (by assumption))))) HS0.out).mono ?_
  rintro _ w12 ⟨rfl, hb12⟩
  have hs12 : Below w10.heap.size w10 w12 := by (repeat (with_reducible first | exact Below.refl _ _ | assumption | refine ba ?_ _ | refine bd ?_ | refine bdN ?_ _ | refine bs ?_ (by first | exact Nat.le_refl _ | (dsimp only; omega) | (simp; done)) _ | refine bt ?_ (by assumption)))
  have Bw12 := Lib.hid (bt Bw10.out hs12)
  have BW12 := Lib.hid (bt BW10.out hs12)
  have X13 := Lib.hid (X11.out.below hs12)
  have X14 := Lib.hid (show BoxC w12 (w10.heap.size) #[.slice a10 fs0.length c10, .int .i64 k0, .slice e10 ds0.length f10] from ((BoxC.start w10 #[.slice a10 fs0.length c10, .int .i64 k0, .slice e10 ds0.length f10] 35).below hb12).at (by simp))
  have J15 := Lib.hid (I10.out.below hs12)
  clear Bw10 BW10 X11 I10
  have Hz12 := Lib.hid (show w10.heap.size + 1 ≤ w12.heap.size by have h := hb12.size; first | omega | (simp at h; omega))
  try rw [← HG0.out]
  have Hk16 := Lib.hid (fun (w' : World) (hC : Below w12.heap.size w12 w') => (⟨((X13.out).below hC).2 0, ((X13.out).below hC).2 1, ((X13.out).below hC).2 2, ((X14.out).below hC).2 0, ((X14.out).below hC).2 1, ((X14.out).below hC).2 2, hC⟩ : w'.cell? ⟨w.heap.size, 0, none⟩ = some (.slice aa0 fs0.length ca0) ∧ w'.cell? ⟨w.heap.size, 1, none⟩ = some (.int .i64 k0) ∧ w'.cell? ⟨w.heap.size, 2, none⟩ = some (.slice ab0 ds0.length cb0) ∧ w'.cell? ⟨w10.heap.size, 0, none⟩ = some (.slice a10 fs0.length c10) ∧ w'.cell? ⟨w10.heap.size, 1, none⟩ = some (.int .i64 k0) ∧ w'.cell? ⟨w10.heap.size, 2, none⟩ = some (.slice e10 ds0.length f10) ∧ Below w12.heap.size w12 w'))
  have HPHk16 := Lib.hid (HR0.out.below Bw12.out)
  go_wp2_with fail
  go_region_held3 (fun w' => w'.cell? ⟨w.heap.size, 0, none⟩ = some (.slice aa0 fs0.length ca0) ∧ w'.cell? ⟨w.heap.size, 1, none⟩ = some (.int .i64 k0) ∧ w'.cell? ⟨w.heap.size, 2, none⟩ = some (.slice ab0 ds0.length cb0) ∧ w'.cell? ⟨w10.heap.size, 0, none⟩ = some (.slice a10 fs0.length c10) ∧ w'.cell? ⟨w10.heap.size, 1, none⟩ = some (.int .i64 k0) ∧ w'.cell? ⟨w10.heap.size, 2, none⟩ = some (.slice e10 ds0.length f10) ∧ Below w12.heap.size w12 w')
    (exact Hk16.out _ (by (repeat (with_reducible first | exact Below.refl _ _ | assumption | refine ba ?_ _ | refine bd ?_ | refine bdN ?_ _ | refine bs ?_ (by first | exact Nat.le_refl _ | (dsimp only; omega) | (simp; done)) _ | refine bt ?_ (by assumption)))))
    (first
      | (go_at_call 14; refine (laws_toDiskX _ fs0 _ _ ds0 _ _ (HPHk16.out.below (by (repeat (with_reducible first | exact Below.refl _ _ | assumption | refine ba ?_ _ | refine bd ?_ | refine bdN ?_ _ | refine bs ?_ (by first | exact Nat.le_refl _ | (dsimp only; omega) | (simp; done)) _ | refine bt ?_ (by assumption))))) HL0.out).mono ?_; rintro _ w17 ⟨v17, ps17, u17, qs17, rfl, hps17, hqs17, ho17, hq17, hb17⟩; obtain ⟨a17, c17, rfl⟩ := ho17.len; obtain ⟨e17, f17, rfl⟩ := hq17.len; have hpl17 : ps17.length = fs0.length := (by rw [← hps17, List.length_map]); have hql17 : qs17.length = ds0.length := (by rw [← hqs17, List.length_map]); rw [hpl17] at ho17 ⊢; rw [hql17] at hq17 ⊢; have I17 := Lib.hid (show DskIn w17 (fun _ => True) (.slice a17 fs0.length c17) fs0 (.slice e17 ds0.length f17) ds0 from ⟨by have h := ho17.fils (D := (fun _ => True)) (fun _ _ => trivial); rw [hps17] at h; exact h, by have h := hq17.dirs (D := (fun _ => True)) (fun _ _ => trivial); rw [hqs17] at h; exact h⟩); clear ho17 hps17 hq17 hqs17)
      | (go_at_call 16; refine (laws_eqDiskX _ _ fs0 fs0 _ _ _ _ ds0 ds0 (fun _ => True) (fun _ => True) _ (J15.out.below (by (repeat (with_reducible first | exact Below.refl _ _ | assumption | refine ba ?_ _ | refine bd ?_ | refine bdN ?_ _ | refine bs ?_ (by first | exact Nat.le_refl _ | (dsimp only; omega) | (simp; done)) _ | refine bt ?_ (by assumption))))) (I17.out.below (by (repeat (with_reducible first | exact Below.refl _ _ | assumption | refine ba ?_ _ | refine bd ?_ | refine bdN ?_ _ | refine bs ?_ (by first | exact Nat.le_refl _ | (dsimp only; omega) | (simp; done)) _ | refine bt ?_ (by assumption)))))).mono ?_; rintro _ w18 ⟨rfl, hb18⟩; rw [Hse0.out]))
  have hs18 : Below w12.heap.size w12 w18 := by (repeat (with_reducible first | exact Below.refl _ _ | assumption | refine ba ?_ _ | refine bd ?_ | refine bdN ?_ _ | refine bs ?_ (by first | exact Nat.le_refl _ | (dsimp only; omega) | (simp; done)) _ | refine bt ?_ (by assumption)))
  have Bw18 := Lib.hid (bt Bw12.out hs18)
  have BW18 := Lib.hid (bt BW12.out hs18)
  have X19 := Lib.hid (X13.out.below hs18)
  have X20 := Lib.hid (X14.out.below hs18)
  have J21 := Lib.hid (J15.out.below hs18)
  clear Bw12 BW12 X13 X14 J15
  go_wp2_with fail
  go_ret
  exact ⟨rfl, Bw18.out⟩

/-! ### THE STEP TO THE ROW -/
set_option maxRecDepth 100000 in
theorem lifted (os : Os) (started : os.Started) (H : Type) (enc : TypeId × Value → H) :
    ReturnsInHanded {} Try.checked os 3 .any (Rows.fnExactValidDiskSpec.pre6 enc Try.prog Try.f3 Rows.fnExactValidDiskRow.domain false) (Rows.fnExactValidDiskSpec.post enc Try.prog Try.f3 false true false false) := by
  refine returnsInHanded_of_change (C := Try.checked) own started (by kernel_rfl) Try.func3
    (ChangeSpec.witness6 (enc := enc) (C := Try.checked) false ⟨#[], #[.agg #[.slice none 0 0, .int .i64 0, .slice none 0 0]], []⟩ 8 (by kernel_rfl) (by kernel_rfl) (by kernel_rfl) (by kernel_rfl)) ?_
  intro W base args ds gs before hval0 hW hcnd _
  have hval : ∀ (j : Nat) t v, Try.f3.params[j]? = some t → args[j]? = some v → Value.okWide Try.prog W .any base t v := hval0
  have hW' := hW
  obtain ⟨p, q, hA0, hV, rfl, hfz, hnd⟩ := hW
  have hA : DataW.TrodAll enc Try.prog W 0 (fun _ => true) true Try.f3.params.toList args.toList ds p := hA0
  rw [Try.params3] at hA hval
  obtain ⟨v0, vs0, d0, ds0, p0, q0, hargs, rfl, rfl, h0, r0⟩ := trodAll_cons hA
  obtain ⟨rfl, rfl, rfl⟩ := trodAll_nil r0
  obtain rfl : args = #[v0] := by cases args; simp_all
  obtain ⟨rfl, rfl⟩ := trodVars_none hV
  obtain ⟨cs0, rfl, _⟩ := okWide_struct Try.underlying27 (hval 0 27 v0 rfl rfl)
  have k0 := h0
  have lt0 : ∀ x ∈ p0, x.block < W.heap.size := by obtain ⟨m, hm⟩ := k0; exact DataW.trod_lt m _ _ _ hm
  obtain ⟨xs0, tv0, c0, ys0, uv0, et0, w0⟩ : ∃ fs tv c ds uv, cs0 = #[tv, .int .i64 c, uv] ∧ DskIn W (fun _ => True) tv fs uv ds ∧ ShortK maxLen fs ds := by
    obtain ⟨fuel, hf⟩ := h0
    obtain ⟨a, len, cap, fs, c, a', len', cap', ds, e0, e1, e2, e3, e4⟩ := read_disk hf
    exact ⟨fs, _, c, ds, _, by rw [← Array.toList_inj]; simpa [Value.cells] using e0, ⟨e1, e3⟩, ⟨e2, e4⟩⟩
  subst et0
  clear hA0 hval0
  refine (walk tv0 xs0 c0 uv0 ys0 W w0).mono fun e W' ⟨he, bel⟩ => ?_
  subst he
  exact ⟨_, rfl, _, _, _, [], _, [], hW', trodAll_mk1 (shut_bool Try.underlying4 _), (trodAll_cons_mk (Below.trod laidOut (by kernel_rfl) (of_decide_eq_true (by kernel_rfl)) k0 bel lt0) trodAll_mk0), rfl, bel.frame _, fun h => by cases h⟩

theorem over : Rows.fnExactValidDiskRow.holds Try.pinned (OpenSpec.ofChange Rows.fnExactValidDiskSpec) :=
  OpenClaim.holds_of_wide 3 Try.f3 rfl rfl rfl rfl rfl rfl rfl ⟨rfl, rfl, rfl, rfl, rfl⟩ rfl rfl rfl rfl rfl (by kernel_rfl) Try.func3 (by kernel_rfl)
    (of_decide_eq_true (by kernel_rfl)) (by unfold Func.isWrapper; first | (rw [if_pos (by decide +kernel)]; kernel_rfl) | (rw [if_neg (by decide +kernel)]; exact ⟨rfl, rfl⟩))
    (fun os started H enc _ => lifted os started H enc)

/-- THE STATEMENT -/
theorem proved : Rows.FnExactValidDiskSaid := over
end Go.Proofs.Ytgfnledbbnekhaa.FnExactValidDisk
