/- FnValidDisk returns true for every code. -/
import Derived.Test.YtgecemngfpgcoaaDrawDb
import Derived.Test.YtgecemngfpgcoaaDisks4
import Derived.Test.YtgecemngfpgcoaaPlainKd
import Derived.Test.YtgecemngfpgcoaaFrame
import Derived.OwnWalk
set_option linter.unusedVariables false
set_option linter.unusedSimpArgs false
namespace Go.Proofs.Ytgecemngfpgcoaa.FnValidDisk
open Go.ChangeShapes Go.WideShapes Go.ChangeAt Go.RowKit Go.Proofs.Ytgecemngfpgcoaa.Nm

set_option maxRecDepth 100000 in
set_option maxHeartbeats 2000000 in
theorem walk (a : Option Addr) (n cap : Nat) (w : World) (hc : Code w w.heap.size a n cap) :
    Calls Try.prog 8 #[.slice a n cap] w fun e w' => e = .returned (.bool true) ∧ Below w.heap.size w w' := by
  by_cases hn : (1048576 : Int) < (n : Int)
  · go_enter Try.func8, Try.ntmps8
    go_wp2_with fail
    go_ret
    exact ⟨rfl, Below.refl _ _⟩
  · have Hc := Lib.hid hc
    clear hc
    go_enter Try.func8, Try.ntmps8
    go_wp2_with fail
    refine (spec_DrawValidDisk a n cap w Hc.out).mono ?_
    rintro e w1 ⟨v, ps, u, qs, cl, rfl, ⟨hown, hfine, hc1, hc2⟩, hb1⟩
    obtain ⟨⟨oa, oc, rfl⟩, ⟨ua, uc, rfl⟩⟩ := hown.len
    have Hz := Lib.hid hfine.short
    have Hz0 := Lib.hid (show ShortK 2000000 (ps.map (·.1)) ([] : List Dr) from ⟨hfine.short.1, fun d hd => by cases hd⟩)
    have B1 := BoxC.start w1 #[.slice oa ps.length oc, .int .i64 cl, .slice ua qs.length uc] 28
    obtain ⟨W1, hW1⟩ : ∃ W, W = w1.alloc (.cells #[.slice oa ps.length oc, .int .i64 cl, .slice ua qs.length uc] 28) := ⟨_, rfl⟩
    have hbw : Below w1.heap.size w1 W1 := by rw [hW1]; (repeat (with_reducible first | exact Below.refl _ _ | assumption | refine ba ?_ _ | refine bd ?_ | refine bdN ?_ _ | refine bs ?_ (by first | exact Nat.le_refl _ | (dsimp only; omega) | (simp; done)) _ | refine bt ?_ (by assumption)))
    rw [← hW1] at B1
    have HB1 := Lib.hid (hb1.trans (hbw.mono hb1.size))
    have HX := Lib.hid B1
    have Hin := Lib.hid (show DskIn W1 (fun _ => True) (.slice oa ps.length oc) (ps.map (·.1)) (.slice ua qs.length uc) (qs.map (·.1)) from dsk_in (hown.below hbw) rfl rfl)
    have HW1 := Lib.hid hW1
    have hx : ∀ w', Below W1.heap.size W1 w' → w'.cell? ⟨w1.heap.size, 0, none⟩ = some (.slice oa ps.length oc) ∧ w'.cell? ⟨w1.heap.size, 1, none⟩ = some (.int .i64 cl) ∧ w'.cell? ⟨w1.heap.size, 2, none⟩ = some (.slice ua qs.length uc) := fun w' h => ⟨(HX.out.below h).2 0, (HX.out.below h).2 1, (HX.out.below h).2 2⟩
    have Hx := Lib.hid hx
    clear hown hfine hb1 hbw B1 hW1 hx
    obtain ⟨x0, x1, x2⟩ := Hx.out _ (Below.refl _ _)
    cases hok : okDisk ⟨ps.map (·.1), cl, qs.map (·.1)⟩
    · have Hok := Lib.hid hok
      clear hok
      have HV1 := Lib.hid (Below.refl W1.heap.size W1)
      go_wp2_with fail
      rw [← HW1.out]
      refine (impl_ValidDisk _ (ps.map (·.1)) cl _ (qs.map (·.1)) (fun _ => True) _ (Hin.out.below HV1.out) Hz.out).mono ?_
      rintro _ w2 ⟨rfl, hb⟩
      rw [Hok.out]
      have Hw2 := Lib.hid (HV1.out.trans (hb.mono HV1.out.size))
      clear hb
      obtain ⟨x0, x1, x2⟩ := Hx.out w2 Hw2.out
      go_wp2_with fail
      refine (spec_ValidDisk _ (ps.map (·.1)) cl _ (qs.map (·.1)) (fun _ => True) _ (Hin.out.below Hw2.out) Hz.out).mono ?_
      rintro _ w3 ⟨rfl, hb⟩
      rw [Hok.out]
      have Hw3 := Lib.hid (Hw2.out.trans (hb.mono Hw2.out.size))
      clear hb
      obtain ⟨x0, x1, x2⟩ := Hx.out w3 Hw3.out
      go_wp2_with fail
      refine (spec_ValidDisk _ (ps.map (·.1)) cl _ (qs.map (·.1)) (fun _ => True) _ (Hin.out.below Hw3.out) Hz.out).mono ?_
      rintro _ w4 ⟨rfl, hb⟩
      rw [Hok.out]
      have Hw4 := Lib.hid (Hw3.out.trans (hb.mono Hw3.out.size))
      clear hb
      obtain ⟨x0, x1, x2⟩ := Hx.out w4 Hw4.out
      go_wp2_with fail
      go_ret
      exact ⟨rfl, HB1.out.trans (Hw4.out.mono HB1.out.size)⟩
    · have hcl : 0 ≤ cl ∧ cl ≤ 200 := by have h := (okDisk_all hok).1; unfold inr at h; simpa using h
      obtain ⟨l1, l2⟩ := okDisk_less hok
      have Hok := Lib.hid hok
      have L1 := Lib.hid l1
      have L3 := Lib.hid (fun (h : cl + 1 ≤ 200) => (show okDisk ⟨ps.map (·.1), cl + 1, qs.map (·.1)⟩ = true by rw [Int.min_eq_left h] at l2; exact l2))
      have L4 := Lib.hid (fun (h : 200 ≤ cl + 1) => (show okDisk ⟨ps.map (·.1), 200, qs.map (·.1)⟩ = true by rw [Int.min_eq_right h] at l2; exact l2))
      have Hin0 := Lib.hid (show DskIn W1 (fun _ => True) (.slice oa ps.length oc) (ps.map (·.1)) (.slice none 0 0) [] from ⟨Hin.out.1, (ownDirs_nil W1 0).dirs (fun _ _ => trivial)⟩)
      clear hok l1 l2
      have HV1 := Lib.hid (Below.refl W1.heap.size W1)
      have hwr : IntKind.i64.wrap (cl + 1) = cl + 1 := IntWalk.i64_in _ (by omega)
      go_wp2_with fail
      rw [← HW1.out]
      refine (impl_ValidDisk _ (ps.map (·.1)) cl _ (qs.map (·.1)) (fun _ => True) _ (Hin.out.below HV1.out) Hz.out).mono ?_
      rintro _ w2 ⟨rfl, hb⟩
      rw [Hok.out]
      have Hw2 := Lib.hid (HV1.out.trans (hb.mono HV1.out.size))
      clear hb
      obtain ⟨x0, x1, x2⟩ := Hx.out w2 Hw2.out
      go_wp2_with fail
      refine (spec_ValidDisk _ (ps.map (·.1)) cl _ (qs.map (·.1)) (fun _ => True) _ (Hin.out.below Hw2.out) Hz.out).mono ?_
      rintro _ w3 ⟨rfl, hb⟩
      rw [Hok.out]
      have Hw3 := Lib.hid (Hw2.out.trans (hb.mono Hw2.out.size))
      clear hb
      obtain ⟨x0, x1, x2⟩ := Hx.out w3 Hw3.out
      go_wp2_with fail
      refine (impl_ValidDisk _ (ps.map (·.1)) cl _ [] (fun _ => True) _ (Hin0.out.below Hw3.out) Hz0.out).mono ?_
      rintro _ w4 ⟨rfl, hb⟩
      rw [L1.out]
      have Hw4 := Lib.hid (Hw3.out.trans (hb.mono Hw3.out.size))
      clear hb
      obtain ⟨x0, x1, x2⟩ := Hx.out w4 Hw4.out
      go_wp2_with fail
      all_goals
        refine (impl_ValidDisk _ (ps.map (·.1)) _ _ (qs.map (·.1)) (fun _ => True) _ (Hin.out.below Hw4.out) Hz.out).mono ?_
        rintro _ w5 ⟨rfl, hb⟩
        first
          | (rw [L3.out (by omega)])
          | (rw [L4.out (by omega)])
        have Hw5 := Lib.hid (Hw4.out.trans (hb.mono Hw4.out.size))
        clear hb
        go_wp2_with fail
        go_ret
        exact ⟨rfl, HB1.out.trans (Hw5.out.mono HB1.out.size)⟩

/-! ### THE STEP TO THE ROW -/
set_option maxRecDepth 100000 in
theorem lifted (os : Os) (started : os.Started) (H : Type) (enc : TypeId × Value → H) :
    ReturnsInHanded {} Try.checked os 8 .any (Rows.fnValidDiskSpec.pre6 enc Try.prog Try.f8 Rows.fnValidDiskRow.domain false) (Rows.fnValidDiskSpec.post enc Try.prog Try.f8 false true false false) := by
  refine returnsInHanded_of_change (C := Try.checked) own started (by kernel_rfl) Try.func8
    (ChangeSpec.witness6 (enc := enc) (C := Try.checked) false ⟨#[], #[.slice none 0 0], []⟩ 8 (by kernel_rfl) (by kernel_rfl) (by kernel_rfl) (by kernel_rfl)) ?_
  intro W base args ds gs before hval0 hW hcnd _
  have hval : ∀ (j : Nat) t v, Try.f8.params[j]? = some t → args[j]? = some v → Value.okWide Try.prog W .any base t v := hval0
  have hW' := hW
  obtain ⟨p, q, hA0, hV, rfl, hfz, hnd⟩ := hW
  have hA : DataW.TrodAll enc Try.prog W 0 (fun _ => true) true Try.f8.params.toList args.toList ds p := hA0
  rw [Try.params8] at hA hval
  obtain ⟨v0, vs0, d0, ds0, p0, q0, hargs, rfl, rfl, h0, r0⟩ := trodAll_cons hA
  obtain ⟨rfl, rfl, rfl⟩ := trodAll_nil r0
  obtain rfl : args = #[v0] := by cases args; simp_all
  obtain ⟨rfl, rfl⟩ := trodVars_none hV
  obtain ⟨a0, len0, cap0, rfl⟩ := okWide_slice Try.underlying22 (hval 0 22 v0 rfl rfl)
  have k0 := h0
  have lt0 : ∀ x ∈ p0, x.block < W.heap.size := by obtain ⟨m, hm⟩ := k0; exact DataW.trod_lt m _ _ _ hm
  have w0 : Code W W.heap.size a0 len0 cap0 := by
    obtain ⟨fuel, hf⟩ := h0
    rcases open_ints Try.underlying22 Try.underlying5 (by kernel_rfl) hf with ⟨hcs, _⟩ | ⟨x, l, c, zs, hcs, _, hl, hm, hz, _, hcell, hwz⟩
    · simp [Value.cells] at hcs
      obtain ⟨rfl, rfl, rfl⟩ := hcs
      exact .inl ⟨rfl, by unfold maxLen; omega⟩
    · simp [Value.cells] at hcs
      obtain ⟨rfl, rfl, rfl⟩ := hcs
      exact code_row W _ _ _ zs hl hm (by simpa using hz) hcell hwz
  clear hA0 hval0
  refine (walk a0 len0 cap0 W w0).mono fun e W' ⟨he, bel⟩ => ?_
  subst he
  exact ⟨_, rfl, _, _, _, [], _, [], hW', trodAll_mk1 (shut_bool Try.underlying4 _), (trodAll_cons_mk (Below.trod laidOut (by kernel_rfl) (of_decide_eq_true (by kernel_rfl)) k0 bel lt0) trodAll_mk0), rfl, bel.frame _, fun h => by cases h⟩

theorem over : Rows.fnValidDiskRow.holds Try.pinned (OpenSpec.ofChange Rows.fnValidDiskSpec) :=
  OpenClaim.holds_of_wide 8 Try.f8 rfl rfl rfl rfl rfl rfl rfl ⟨rfl, rfl, rfl, rfl, rfl⟩ rfl rfl rfl rfl rfl (by kernel_rfl) Try.func8 (by kernel_rfl)
    (of_decide_eq_true (by kernel_rfl)) (by unfold Func.isWrapper; first | (rw [if_pos (by decide +kernel)]; kernel_rfl) | (rw [if_neg (by decide +kernel)]; exact ⟨rfl, rfl⟩))
    (fun os started H enc _ => lifted os started H enc)

/-- THE STATEMENT -/
theorem proved : Rows.FnValidDiskSaid := over
end Go.Proofs.Ytgecemngfpgcoaa.FnValidDisk
