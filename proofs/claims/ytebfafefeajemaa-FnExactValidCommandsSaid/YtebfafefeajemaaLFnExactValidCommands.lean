/- FnExactValidCommands returns true for every argument. -/
import Derived.Test.YtebfafefeajemaaCmds
import Derived.Test.YtebfafefeajemaaExTools
import Derived.Test.YtebfafefeajemaaSzTree
import Derived.Test.YtebfafefeajemaaReadIn
import Derived.Test.YtebfafefeajemaaHeld
import Derived.Test.YtebfafefeajemaaMarks2
import Derived.Test.YtebfafefeajemaaInts
import Derived.Test.YtebfafefeajemaaStrs
import Derived.Test.YtebfafefeajemaaFrame
set_option linter.unusedVariables false
set_option linter.unusedSimpArgs false
namespace Go.Proofs.Ytebfafefeajemaa.FnExactValidCommands
open Go.ChangeShapes Go.WideShapes Go.ChangeAt Go.RowKit Go.Proofs.Ytebfafefeajemaa.Nm

set_option maxRecDepth 100000 in
set_option maxHeartbeats 16000000 in
theorem walk (v0 : Value) (cs0 : List Cmd) (w : World) (h0 : CmdsIn w (fun _ => True) v0 cs0 ∧ ShortCmd maxLen cs0) :
    Calls Try.prog 12 #[v0] w fun e w' => e = .returned (.bool true) ∧ Below w.heap.size w w' := by
  obtain ⟨hr0, hz0⟩ := h0
  have HR0 := Lib.hid hr0
  have HZ0 := Lib.hid hz0
  obtain ⟨aa0, ca0, rfl, hlc0, hmc0⟩ := hr0.len
  clear hr0 hz0 hmc0
  obtain ⟨C0, hC0⟩ : ∃ C, C = cmdsCost cs0 := ⟨_, rfl⟩
  have HC0 := Lib.hid hC0
  clear hC0
  obtain ⟨g0, hg0⟩ : ∃ g, g = okCmds cs0 := ⟨_, rfl⟩
  have HG0 := Lib.hid hg0
  clear hg0
  go_enter Try.func12, Try.ntmps12
  go_wp2_with fail
  refine (laws_szCommandS _ cs0 _ 1048576 _ (HR0.out.below (by (repeat (with_reducible first | exact Below.refl _ _ | assumption | refine ba ?_ _ | refine bd ?_ | refine bdN ?_ _ | refine bs ?_ (by first | exact Nat.le_refl _ | (dsimp only; omega) | (simp; done)) _ | refine bt ?_ (by assumption))))) HZ0.out (by omega)).mono ?_
  rintro _ w1 ⟨r1, rfl, hr1, hb1⟩
  have hs1 : Below w.heap.size w w1 := by (repeat (with_reducible first | exact Below.refl _ _ | assumption | refine ba ?_ _ | refine bd ?_ | refine bdN ?_ _ | refine bs ?_ (by first | exact Nat.le_refl _ | (dsimp only; omega) | (simp; done)) _ | refine bt ?_ (by assumption)))
  have Bw1 := Lib.hid (hs1)
  rw [← HC0.out] at hr1
  by_cases hn1 : r1 < 0
  · go_wp2_with fail
    go_ret
    exact ⟨rfl, Bw1.out⟩
  obtain ⟨R1, rfl⟩ := Int.eq_ofNat_of_zero_le (show 0 ≤ r1 by omega)
  have hR1 : R1 + C0 ≤ 1048576 := by omega
  clear hr1
  have HS0 := Lib.hid (shortCmd_mono (B := 8000000) (by omega) (shortCmd_of (by rw [← HC0.out]; omega : cmdsCost cs0 ≤ 1048576)))
  have hln0 : cs0.length ≤ C0 := by have := HC0.out; unfold cmdsCost at this; omega
  have Hse0 := Lib.hid (show sameCmds cs0 cs0 = true from decide_eq_true rfl)
  go_wp2_with fail
  refine (laws_toCommandS _ cs0 _ _ (HR0.out.below (bt Bw1.out (by (repeat (with_reducible first | exact Below.refl _ _ | assumption | refine ba ?_ _ | refine bd ?_ | refine bdN ?_ _ | refine bs ?_ (by first | exact Nat.le_refl _ | (dsimp only; omega) | (simp; done)) _ | refine bt ?_ (by assumption)))))) (by omega)).mono ?_
  rintro _ w2 ⟨v2, rfl, ho2, hb2⟩
  have hs2 : Below w1.heap.size w1 w2 := by (repeat (with_reducible first | exact Below.refl _ _ | assumption | refine ba ?_ _ | refine bd ?_ | refine bdN ?_ _ | refine bs ?_ (by first | exact Nat.le_refl _ | (dsimp only; omega) | (simp; done)) _ | refine bt ?_ (by assumption)))
  have Bw2 := Lib.hid (bt Bw1.out hs2)
  clear Bw1
  obtain ⟨a2, c2, rfl⟩ := owns_shape ho2
  have I2 := Lib.hid (show CmdsIn w2 (fun _ => True) (.slice a2 cs0.length c2) cs0 from CmdsIn.of_owns ho2 (fun _ _ => trivial))
  have O2 := Lib.hid ho2
  clear ho2
  go_wp2_with fail
  refine (spec_ValidCommands _ cs0 (fun _ => True) _ (I2.out.below (by (repeat (with_reducible first | exact Below.refl _ _ | assumption | refine ba ?_ _ | refine bd ?_ | refine bdN ?_ _ | refine bs ?_ (by first | exact Nat.le_refl _ | (dsimp only; omega) | (simp; done)) _ | refine bt ?_ (by assumption))))) HS0.out).mono ?_
  rintro _ w3 ⟨rfl, hb3⟩
  have hs3 : Below w2.heap.size w2 w3 := by (repeat (with_reducible first | exact Below.refl _ _ | assumption | refine ba ?_ _ | refine bd ?_ | refine bdN ?_ _ | refine bs ?_ (by first | exact Nat.le_refl _ | (dsimp only; omega) | (simp; done)) _ | refine bt ?_ (by assumption)))
  have Bw3 := Lib.hid (bt Bw2.out hs3)
  have J4 := Lib.hid (I2.out.below hs3)
  clear Bw2 I2
  have Hz3 := Lib.hid (show w2.heap.size ≤ w3.heap.size by have h := hb3.size; first | omega | (simp at h; omega))
  try rw [← HG0.out]
  obtain ⟨WW, hWW⟩ : ∃ WW, WW = w3 := ⟨_, rfl⟩
  have hWs : WW.heap.size = w3.heap.size + 0 := by rw [hWW]; simp
  have hcW : Below w3.heap.size w3 WW := by rw [hWW]; (repeat (with_reducible first | exact Below.refl _ _ | assumption | refine ba ?_ _ | refine bd ?_ | refine bdN ?_ _ | refine bs ?_ (by first | exact Nat.le_refl _ | (dsimp only; omega) | (simp; done)) _ | refine bt ?_ (by assumption)))
  have HwW := Lib.hid (bt Bw3.out hcW)
  have HWs := Lib.hid hWs
  clear hWs hcW
  go_wp2_with fail
  refine (laws_toCommandS _ cs0 _ _ (HR0.out.below (bt Bw3.out (by (repeat (with_reducible first | exact Below.refl _ _ | assumption | refine ba ?_ _ | refine bd ?_ | refine bdN ?_ _ | refine bs ?_ (by first | exact Nat.le_refl _ | (dsimp only; omega) | (simp; done)) _ | refine bt ?_ (by assumption)))))) (by omega)).mono ?_
  rintro _ w5 ⟨v5, rfl, ho5, hb5⟩
  have hs5 : Below w3.heap.size w3 w5 := by (repeat (with_reducible first | exact Below.refl _ _ | assumption | refine ba ?_ _ | refine bd ?_ | refine bdN ?_ _ | refine bs ?_ (by first | exact Nat.le_refl _ | (dsimp only; omega) | (simp; done)) _ | refine bt ?_ (by assumption)))
  have Bw5 := Lib.hid (bt Bw3.out hs5)
  have BW5 := Lib.hid (show Below WW.heap.size WW w5 by rw [hWW]; exact hb5)
  clear Bw3
  have Hz5 := Lib.hid (show w3.heap.size ≤ w5.heap.size by have h := hb5.size; first | omega | (simp at h; omega))
  obtain ⟨a5, c5, rfl⟩ := owns_shape ho5
  have I5 := Lib.hid (show CmdsIn w5 (fun _ => True) (.slice a5 cs0.length c5) cs0 from CmdsIn.of_owns ho5 (fun _ _ => trivial))
  have O5 := Lib.hid ho5
  clear ho5
  go_wp2_with fail
  refine (impl_ValidCommands _ cs0 (fun _ => True) _ (I5.out.below (by (repeat (with_reducible first | exact Below.refl _ _ | assumption | refine ba ?_ _ | refine bd ?_ | refine bdN ?_ _ | refine bs ?_ (by first | exact Nat.le_refl _ | (dsimp only; omega) | (simp; done)) _ | refine bt ?_ (by assumption))))) HS0.out).mono ?_
  rintro _ w6 ⟨rfl, hb6⟩
  have hs6 : Below w5.heap.size w5 w6 := by (repeat (with_reducible first | exact Below.refl _ _ | assumption | refine ba ?_ _ | refine bd ?_ | refine bdN ?_ _ | refine bs ?_ (by first | exact Nat.le_refl _ | (dsimp only; omega) | (simp; done)) _ | refine bt ?_ (by assumption)))
  have Bw6 := Lib.hid (bt Bw5.out hs6)
  have BW6 := Lib.hid (bt BW5.out hs6)
  have J7 := Lib.hid (I5.out.below hs6)
  clear Bw5 BW5 I5
  have Hz6 := Lib.hid (show w5.heap.size ≤ w6.heap.size by have h := hb6.size; first | omega | (simp at h; omega))
  try rw [← HG0.out]
  go_wp2_with fail
  refine (laws_toCommandS _ cs0 _ _ (HR0.out.below (bt Bw6.out (by (repeat (with_reducible first | exact Below.refl _ _ | assumption | refine ba ?_ _ | refine bd ?_ | refine bdN ?_ _ | refine bs ?_ (by first | exact Nat.le_refl _ | (dsimp only; omega) | (simp; done)) _ | refine bt ?_ (by assumption)))))) (by omega)).mono ?_
  rintro _ w8 ⟨v8, rfl, ho8, hb8⟩
  have hs8 : Below w6.heap.size w6 w8 := by (repeat (with_reducible first | exact Below.refl _ _ | assumption | refine ba ?_ _ | refine bd ?_ | refine bdN ?_ _ | refine bs ?_ (by first | exact Nat.le_refl _ | (dsimp only; omega) | (simp; done)) _ | refine bt ?_ (by assumption)))
  have Bw8 := Lib.hid (bt Bw6.out hs8)
  have BW8 := Lib.hid (bt BW6.out hs8)
  have J9 := Lib.hid (J7.out.below hs8)
  clear Bw6 BW6 J7
  obtain ⟨a8, c8, rfl⟩ := owns_shape ho8
  have I8 := Lib.hid (show CmdsIn w8 (fun _ => True) (.slice a8 cs0.length c8) cs0 from CmdsIn.of_owns ho8 (fun _ _ => trivial))
  have O8 := Lib.hid ho8
  clear ho8
  go_wp2_with fail
  refine (laws_eqCommandS _ _ cs0 cs0 (fun _ => True) (fun _ => True) _ (J9.out.below (by (repeat (with_reducible first | exact Below.refl _ _ | assumption | refine ba ?_ _ | refine bd ?_ | refine bdN ?_ _ | refine bs ?_ (by first | exact Nat.le_refl _ | (dsimp only; omega) | (simp; done)) _ | refine bt ?_ (by assumption))))) (I8.out.below (by (repeat (with_reducible first | exact Below.refl _ _ | assumption | refine ba ?_ _ | refine bd ?_ | refine bdN ?_ _ | refine bs ?_ (by first | exact Nat.le_refl _ | (dsimp only; omega) | (simp; done)) _ | refine bt ?_ (by assumption)))))).mono ?_
  rintro _ w10 ⟨rfl, hb10⟩
  have hs10 : Below w8.heap.size w8 w10 := by (repeat (with_reducible first | exact Below.refl _ _ | assumption | refine ba ?_ _ | refine bd ?_ | refine bdN ?_ _ | refine bs ?_ (by first | exact Nat.le_refl _ | (dsimp only; omega) | (simp; done)) _ | refine bt ?_ (by assumption)))
  have Bw10 := Lib.hid (bt Bw8.out hs10)
  have BW10 := Lib.hid (bt BW8.out hs10)
  have J11 := Lib.hid (J9.out.below hs10)
  clear Bw8 BW8 J9
  rw [Hse0.out]
  go_wp2_with fail
  go_ret
  exact ⟨rfl, Bw10.out⟩

/-! ### THE STEP TO THE ROW -/
set_option maxRecDepth 100000 in
theorem lifted (os : Os) (started : os.Started) (H : Type) (enc : TypeId × Value → H) :
    ReturnsInHanded {} Try.checked os 12 .any (Rows.fnExactValidCommandsSpec.pre6 enc Try.prog Try.f12 Rows.fnExactValidCommandsRow.domain false) (Rows.fnExactValidCommandsSpec.post enc Try.prog Try.f12 false true false false) := by
  refine returnsInHanded_of_change (C := Try.checked) own started (by kernel_rfl) Try.func12
    (ChangeSpec.witness6 (enc := enc) (C := Try.checked) false ⟨#[], #[.slice none 0 0], []⟩ 8 (by kernel_rfl) (by kernel_rfl) (by kernel_rfl) (by kernel_rfl)) ?_
  intro W base args ds gs before hval0 hW hcnd _
  have hval : ∀ (j : Nat) t v, Try.f12.params[j]? = some t → args[j]? = some v → Value.okWide Try.prog W .any base t v := hval0
  have hW' := hW
  obtain ⟨p, q, hA0, hV, rfl, hfz, hnd⟩ := hW
  have hA : DataW.TrodAll enc Try.prog W 0 (fun _ => true) true Try.f12.params.toList args.toList ds p := hA0
  rw [Try.params12] at hA hval
  obtain ⟨v0, vs0, d0, ds0, p0, q0, hargs, rfl, rfl, h0, r0⟩ := trodAll_cons hA
  obtain ⟨rfl, rfl, rfl⟩ := trodAll_nil r0
  obtain rfl : args = #[v0] := by cases args; simp_all
  obtain ⟨rfl, rfl⟩ := trodVars_none hV
  obtain ⟨a0, len0, cap0, rfl⟩ := okWide_slice Try.underlying83 (hval 0 83 v0 rfl rfl)
  have k0 := h0
  have lt0 : ∀ x ∈ p0, x.block < W.heap.size := by obtain ⟨m, hm⟩ := k0; exact DataW.trod_lt m _ _ _ hm
  obtain ⟨xs0, w0⟩ : ∃ ss, CmdsIn W (fun _ => True) (.slice a0 len0 cap0) ss ∧ ShortCmd maxLen ss := by
    obtain ⟨fuel, hf⟩ := h0
    obtain ⟨a', len', cap', ss, e0, _, e1, e2⟩ := read_cmds hf
    simp [Value.cells] at e0
    obtain ⟨rfl, rfl, rfl⟩ := e0
    exact ⟨ss, e1, e2⟩
  clear hA0 hval0
  refine (walk _ xs0 W w0).mono fun e W' ⟨he, bel⟩ => ?_
  subst he
  exact ⟨_, rfl, _, _, _, [], _, [], hW', trodAll_mk1 (shut_bool Try.underlying4 _), (trodAll_cons_mk (Below.trod laidOut (by kernel_rfl) (of_decide_eq_true (by kernel_rfl)) k0 bel lt0) trodAll_mk0), rfl, bel.frame _, fun h => by cases h⟩

theorem over : Rows.fnExactValidCommandsRow.holds Try.pinned (OpenSpec.ofChange Rows.fnExactValidCommandsSpec) :=
  OpenClaim.holds_of_wide 12 Try.f12 rfl rfl rfl rfl rfl rfl rfl ⟨rfl, rfl, rfl, rfl, rfl⟩ rfl rfl rfl rfl rfl (by kernel_rfl) Try.func12 (by kernel_rfl)
    (of_decide_eq_true (by kernel_rfl)) (by unfold Func.isWrapper; first | (rw [if_pos (by decide +kernel)]; kernel_rfl) | (rw [if_neg (by decide +kernel)]; exact ⟨rfl, rfl⟩))
    (fun os started H enc _ => lifted os started H enc)

/-- THE STATEMENT -/
theorem proved : Rows.FnExactValidCommandsSaid := over
end Go.Proofs.Ytebfafefeajemaa.FnExactValidCommands
