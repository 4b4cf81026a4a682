/- FnValidTree returns true for every code. Written by mklaws.py. -/
import Derived.Test.YtoleklppgmeflaaDrawZ
import Derived.Test.YtoleklppgmeflaaTrees
import Derived.Test.YtoleklppgmeflaaAdds2
import Derived.Test.YtoleklppgmeflaaPlainG
import Derived.Test.YtoleklppgmeflaaFrame
import Derived.Lib.QuietBelow
import Derived.BigQuiet
set_option linter.unusedVariables false
set_option linter.unusedSimpArgs false
namespace Go.Proofs.Ytoleklppgmeflaa.FnValidTree
open Go.ChangeShapes Go.WideShapes Go.ChangeAt Go.RowKit Go.Proofs.Ytoleklppgmeflaa.Nm

set_option maxRecDepth 100000 in
set_option maxHeartbeats 2000000 in
theorem walk (a : Option Addr) (n cap : Nat) (w : World) (hc : Code w w.heap.size a n cap) :
    Calls Try.prog 3 #[.slice a n cap] w fun e w' => e = .returned (.bool true) ∧ Below w.heap.size w w' := by
  by_cases hn : (1048576 : Int) < (n : Int)
  · go_enter Try.func3, Try.ntmps3
    go_wp2_with fail
    go_ret
    exact ⟨rfl, Below.refl _ _⟩
  have Hc := Lib.hid hc
  clear hc
  go_enter Try.func3, Try.ntmps3
  go_wp2_with fail
  refine (spec_DrawValidTree a n cap w Hc.out).mono ?_
  rintro e w1 ⟨v, ps, rfl, ⟨hrows, hsh, hl, hb5, hb1⟩⟩
  obtain ⟨va, vc, rfl⟩ := hrows.len
  have HR := Lib.hid hrows
  obtain ⟨fs, hfs⟩ : ∃ fs, fs = ps.map (·.1) := ⟨_, rfl⟩
  have Hfs := Lib.hid hfs
  have hfl : fs.length = ps.length := by rw [hfs, List.length_map]
  have HF := Lib.hid (show FilsIn w1 (fun _ => True) (.slice va ps.length vc) fs by rw [hfs]; exact hrows.fils)
  have Hz8 := Lib.hid (show ShortT 8000000 fs by rw [hfs]; exact shortT_mono (by omega) hsh)
  have Hz3 := Lib.hid (show ShortT 3000000 fs by rw [hfs]; exact shortT_mono (by omega) hsh)
  have Hz2 := Lib.hid (show ShortT 2000000 fs by rw [hfs]; exact shortT_mono (by omega) hsh)
  have Hs8 := Lib.hid (show ShortT 8 fs by rw [hfs]; exact hsh)
  have Hb5 := Lib.hid (show ∀ f ∈ fs, f.body.length ≤ 5 by rw [hfs]; intro f hf; obtain ⟨p, hp, rfl⟩ := List.mem_map.1 hf; exact hb5 p hp)
  have Hb1 := Lib.hid hb1
  have B0 := Boxed.start w1 #[.slice va ps.length vc] 25
  have hl11 : fs.length ≤ 11 := by omega
  clear hrows hsh hb5 hb1 hfs
  generalize ps.length = pn at *
  subst hfl
  have X1 := Lib.hid B0
  clear B0
  cases hok : okTree fs
  · have Hok := Lib.hid hok
    clear hok
    go_wp2_with fail
    refine (impl_ValidTree _ fs (fun _ => True) _ (HF.out.below X1.out.below) Hz8.out).mono ?_
    rintro _ w2 ⟨rfl, hb2⟩
    rw [Hok.out]
    have X2 := Lib.hid (X1.out.step hb2)
    have x2 : w2.cell? ⟨w1.heap.size, 0, none⟩ = some (.slice va fs.length vc) := X2.out.cell 0
    clear hb2
    go_wp2_with fail
    refine (spec_ValidTree _ fs (fun _ => True) _ (HF.out.below X2.out.below) Hz3.out).mono ?_
    rintro _ w3 ⟨rfl, hb3⟩
    rw [Hok.out]
    have X3 := Lib.hid (X2.out.step hb3)
    have x3 : w3.cell? ⟨w1.heap.size, 0, none⟩ = some (.slice va fs.length vc) := X3.out.cell 0
    clear hb3 x2
    go_wp2_with fail
    refine (spec_ValidTree _ fs (fun _ => True) _ (HF.out.below X3.out.below) Hz3.out).mono ?_
    rintro _ w4 ⟨rfl, hb4⟩
    rw [Hok.out]
    have X4 := Lib.hid (X3.out.step hb4)
    have x4 : w4.cell? ⟨w1.heap.size, 0, none⟩ = some (.slice va fs.length vc) := X4.out.cell 0
    clear hb4 x3
    go_wp2_with fail
    go_ret
    exact ⟨rfl, bt Hb1.out X4.out.below⟩
  · have Hok := Lib.hid hok
    clear hok
    go_wp2_with fail
    refine (impl_ValidTree _ fs (fun _ => True) _ (HF.out.below X1.out.below) Hz8.out).mono ?_
    rintro _ w2 ⟨rfl, hb2⟩
    rw [Hok.out]
    have X2 := Lib.hid (X1.out.step hb2)
    have x2 : w2.cell? ⟨w1.heap.size, 0, none⟩ = some (.slice va fs.length vc) := X2.out.cell 0
    clear hb2
    go_wp2_with fail
    refine (spec_ValidTree _ fs (fun _ => True) _ (HF.out.below X2.out.below) Hz3.out).mono ?_
    rintro _ w3 ⟨rfl, hb3⟩
    rw [Hok.out]
    have X3 := Lib.hid (X2.out.step hb3)
    have x3 : w3.cell? ⟨w1.heap.size, 0, none⟩ = some (.slice va fs.length vc) := X3.out.cell 0
    clear hb3 x2
    go_wp2_with fail
    go_loopw [5] (fun iv wr => ∃ k : Nat, k ≤ fs.length ∧ iv = .int .i64 k ∧ Boxed w1 #[.slice va fs.length vc] 25 wr) (fun iv _ => fs.length - (intOf iv).toNat)
    case atStart => exact ⟨0, by omega, rfl, X3.out⟩
    case round =>
      obtain ⟨k, hk, rfl, hbx⟩ := hrel
      have XR := Lib.hid hbx
      have xr : wr.cell? ⟨w1.heap.size, 0, none⟩ = some (.slice va fs.length vc) := XR.out.cell 0
      clear hbx x3
      by_cases hlt : k < fs.length
      · have Hrem := Lib.hid (show remFil (ps.map (·.1)) (k : Int) = (fs.eraseIdx k, true) by
          rw [← Hfs.out]
          unfold remFil inr
          rw [Hok.out, decide_eq_true (show (0 : Int) ≤ k by omega), decide_eq_true (show (k : Int) ≤ (fs.length : Int) - 1 by omega)]
          simp)
        have Her := Lib.hid (okTree_erase Hok.out k)
        have hel : ((fs.eraseIdx k).length : Int) = (fs.length : Int) - 1 := by rw [List.length_eraseIdx]; rw [if_pos hlt]; omega
        have Hez := Lib.hid (show ShortT 8000000 (fs.eraseIdx k) from fun f hf => Hz8.out f (List.mem_of_mem_eraseIdx hf))
        generalize fs.eraseIdx k = us at *
        go_wp2_with fail
        refine (impl_RemoveFile _ ps (k : Int) _ ⟨owns_mono (HR.out.below XR.out.below).1 (Nat.zero_le _), fun p hp => owns_mono ((HR.out.below XR.out.below).2 p hp) (Nat.zero_le _)⟩ (by rw [← Hfs.out]; exact Hz2.out) (by have := congrArg List.length Hfs.out; rw [List.length_map] at this; omega)).mono ?_
        rintro _ w5 ⟨v5, qs, rfl, hq, ho5, hb5⟩
        rw [Hrem.out] at hq ⊢
        dsimp only at hq ⊢
        have hql : qs.length = us.length := by rw [← hq, List.length_map]
        have HU := Lib.hid (show FilsIn w5 (fun _ => True) v5 us by rw [← hq]; exact ho5.fils (fun _ _ => trivial))
        obtain ⟨a5, c5, rfl⟩ := ho5.len
        have X5 := Lib.hid (XR.out.step hb5)
        have x5 : w5.cell? ⟨w1.heap.size, 0, none⟩ = some (.slice va fs.length vc) := X5.out.cell 0
        have hlt5 := X5.out.lt
        have C0 := Lib.hid (Boxed.start w5 #[.slice a5 qs.length c5] 25)
        clear ho5 hb5 hq xr
        generalize qs.length = qn at *
        subst hql
        go_wp2_with fail
        refine (impl_ValidTree _ us (fun _ => True) _ (HU.out.below C0.out.below) Hez.out).mono ?_
        rintro _ w6 ⟨rfl, hb6⟩
        rw [Her.out]
        have C6 := Lib.hid (C0.out.step hb6)
        have X6 := Lib.hid (X5.out.step C6.out.below)
        have x6 : w6.cell? ⟨w1.heap.size, 0, none⟩ = some (.slice va fs.length vc) := X6.out.cell 0
        have c6 : w6.cell? ⟨w5.heap.size, 0, none⟩ = some (.slice a5 us.length c5) := C6.out.cell 0
        clear hb6 x5
        go_wp2_with fail
        go_roundw
        case rel => exact ⟨k + 1, by omega, by go_num, X6.out⟩
        case measure => simp [intOf]; omega
      · obtain rfl : k = fs.length := by omega
        go_wp2_with fail
        go_ret
        exact ⟨rfl, bt Hb1.out XR.out.below⟩

/-! ### THE STEP TO THE ROW -/
set_option maxRecDepth 100000 in
theorem lifted (os : Os) (started : os.Started) (H : Type) (enc : TypeId × Value → H) :
    ReturnsInHanded {} Try.checked os 3 .any (Rows.fnValidTreeSpec.pre6 enc Try.prog Try.f3 Rows.fnValidTreeRow.domain false) (Rows.fnValidTreeSpec.post enc Try.prog Try.f3 false true false false) := by
  refine returnsInHanded_of_change (C := Try.checked) own started (by kernel_rfl) Try.func3
    (ChangeSpec.witness6 (enc := enc) (C := Try.checked) false ⟨#[], #[.slice none 0 0], []⟩ 8 (by kernel_rfl) (by kernel_rfl) (by kernel_rfl) (by kernel_rfl)) ?_
  intro W base args ds gs before hval0 hW hcnd _
  have hval : ∀ (j : Nat) t v, Try.f3.params[j]? = some t → args[j]? = some v → Value.okWide Try.prog W .any base t v := hval0
  have hW' := hW
  obtain ⟨p, q, hA0, hV, rfl, hfz, hnd⟩ := hW
  have hA : DataW.TrodAll enc Try.prog W 0 (fun _ => true) true Try.f3.params.toList args.toList ds p := hA0
  rw [Try.params3] at hA hval
  obtain ⟨v0, vs0, d0, ds0, p0, q0, hargs, rfl, rfl, h0, r0⟩ := trodAll_cons hA
  obtain ⟨rfl, rfl, rfl⟩ := trodAll_nil r0
  obtain rfl : args = #[v0] := by cases args; simp_all
  obtain ⟨rfl, rfl⟩ := trodVars_none hV
  obtain ⟨a0, len0, cap0, rfl⟩ := okWide_slice Try.underlying22 (hval 0 22 v0 rfl rfl)
  have k0 := h0
  have lt0 : ∀ x ∈ p0, x.block < W.heap.size := by obtain ⟨m, hm⟩ := k0; exact DataW.trod_lt m _ _ _ hm
  have w0 : Code W W.heap.size a0 len0 cap0 := by
    obtain ⟨fuel, hf⟩ := h0
    rcases open_ints Try.underlying22 Try.underlying5 (by kernel_rfl) hf with ⟨hcs, _⟩ | ⟨x, l, c, zs, hcs, _, hl, hm, hz, _, hcell, hwz⟩
    · simp [Value.cells] at hcs
      obtain ⟨rfl, rfl, rfl⟩ := hcs
      exact .inl ⟨rfl, by unfold maxLen; omega⟩
    · simp [Value.cells] at hcs
      obtain ⟨rfl, rfl, rfl⟩ := hcs
      exact code_row W _ _ _ zs hl hm (by simpa using hz) hcell hwz
  clear hA0 hval0
  refine (walk a0 len0 cap0 W w0).mono fun e W' ⟨he, bel⟩ => ?_
  subst he
  exact ⟨_, rfl, _, _, _, [], _, [], hW', trodAll_mk1 (shut_bool Try.underlying4 _), (trodAll_cons_mk (Below.trod laidOut (by kernel_rfl) (of_decide_eq_true (by kernel_rfl)) k0 bel lt0) trodAll_mk0), rfl, bel.frame _, fun h => by cases h⟩

theorem over : Rows.fnValidTreeRow.holds Try.pinned (OpenSpec.ofChange Rows.fnValidTreeSpec) :=
  OpenClaim.holds_of_wide 3 Try.f3 rfl rfl rfl rfl rfl rfl rfl ⟨rfl, rfl, rfl, rfl, rfl⟩ rfl rfl rfl rfl rfl (by kernel_rfl) Try.func3 (by kernel_rfl)
    (of_decide_eq_true (by kernel_rfl)) (by unfold Func.isWrapper; first | (rw [if_pos (by decide +kernel)]; kernel_rfl) | (rw [if_neg (by decide +kernel)]; exact ⟨rfl, rfl⟩))
    (fun os started H enc _ => lifted os started H enc)

/-- THE STATEMENT -/
theorem proved : Rows.FnValidTreeSaid := over
end Go.Proofs.Ytoleklppgmeflaa.FnValidTree
