/- FnListDir returns true for every code. Written by mklaws.py. -/
import Derived.Test.YtoleklppgmeflaaDrawZ
import Derived.Test.YtoleklppgmeflaaTrees
import Derived.Test.YtoleklppgmeflaaListD
import Derived.Test.YtoleklppgmeflaaDirs2
import Derived.Test.YtoleklppgmeflaaEqRise
import Derived.Test.YtoleklppgmeflaaTexts
import Derived.Test.YtoleklppgmeflaaVp
import Derived.Test.YtoleklppgmeflaaPlainG
import Derived.Test.YtoleklppgmeflaaFrame
import Derived.Lib.QuietBelow
import Derived.BigQuiet
set_option linter.unusedVariables false
set_option linter.unusedSimpArgs false
namespace Go.Proofs.Ytoleklppgmeflaa.FnListDir
open Go.ChangeShapes Go.WideShapes Go.ChangeAt Go.RowKit Go.Proofs.Ytoleklppgmeflaa.Nm

theorem mods_len (fs : List Fil) (root : Int) (p : Bs) : (listDir fs root p).length ≤ fs.length := by
  unfold listDir
  split
  · exact Nat.le_trans (sortUp_len _) (entries_len fs root p)
  · simp
set_option maxRecDepth 100000 in
set_option maxHeartbeats 2000000 in
theorem walk (a : Option Addr) (n cap : Nat) (w : World) (hc : Code w w.heap.size a n cap) :
    Calls Try.prog 7 #[.slice a n cap] w fun e w' => e = .returned (.bool true) ∧ Below w.heap.size w w' := by
  by_cases hn : (1048576 : Int) < (n : Int)
  · go_enter Try.func7, Try.ntmps7
    go_wp2_with fail
    go_ret
    exact ⟨rfl, Below.refl _ _⟩
  have Hc := Lib.hid hc
  clear hc
  go_enter Try.func7, Try.ntmps7
  go_wp2_with fail
  refine (spec_DrawListDir a n cap w Hc.out).mono ?_
  rintro e w1 ⟨v, ps, r, p, rfl, ⟨hrows, hsh, hl, hb5, hb1⟩, hr0, hr3, hp7⟩
  obtain ⟨va, vc, rfl⟩ := hrows.len
  have HR := Lib.hid hrows
  obtain ⟨fs, hfs⟩ : ∃ fs, fs = ps.map (·.1) := ⟨_, rfl⟩
  have Hfs := Lib.hid hfs
  have hfl : fs.length = ps.length := by rw [hfs, List.length_map]
  have HF := Lib.hid (show FilsIn w1 (fun _ => True) (.slice va ps.length vc) fs by rw [hfs]; exact hrows.fils)
  have Hz8 := Lib.hid (show ShortT 8000000 fs by rw [hfs]; exact shortT_mono (by omega) hsh)
  have Hz3 := Lib.hid (show ShortT 3000000 fs by rw [hfs]; exact shortT_mono (by omega) hsh)
  have Hz2 := Lib.hid (show ShortT 2000000 fs by rw [hfs]; exact shortT_mono (by omega) hsh)
  have Hs8 := Lib.hid (show ShortT 8 fs by rw [hfs]; exact hsh)
  have Hb5 := Lib.hid (show ∀ f ∈ fs, f.body.length ≤ 5 by rw [hfs]; intro f hf; obtain ⟨p, hp, rfl⟩ := List.mem_map.1 hf; exact hb5 p hp)
  have Hb1 := Lib.hid hb1
  have B0 := Boxed.start w1 #[.slice va ps.length vc] 25
  have hl11 : fs.length ≤ 11 := by omega
  clear hrows hsh hb5 hb1 hfs
  generalize ps.length = pn at *
  subst hfl
  have X1 := Lib.hid B0
  clear B0
  go_wp2_with fail
  refine (impl_ListDir _ fs (fun _ => True) r p _ (HF.out.below X1.out.below) Hz2.out (by omega)).mono ?_
  rintro _ w2 ⟨v2, rfl, hown2, hb2⟩
  have R2 := Lib.hid (Reads.of_owns hown2)
  obtain ⟨a2, c2, rfl⟩ := owns_shape hown2
  have X2 := Lib.hid (X1.out.step hb2)
  have x2 : w2.cell? ⟨w1.heap.size, 0, none⟩ = some (.slice va fs.length vc) := X2.out.cell 0
  clear hb2 hown2
  go_wp2_with fail
  refine (spec_ListDir _ fs (fun _ => True) r p _ (HF.out.below X2.out.below) Hz2.out (by omega)).mono ?_
  rintro _ w3 ⟨v3, rfl, hown3, hb3⟩
  have R3 := Lib.hid (Reads.of_owns hown3)
  obtain ⟨a3, c3, rfl⟩ := owns_shape hown3
  have X3 := Lib.hid (X2.out.step hb3)
  have x3 : w3.cell? ⟨w1.heap.size, 0, none⟩ = some (.slice va fs.length vc) := X3.out.cell 0
  have R2 := Lib.hid (Reads.below R2.out hb3)
  clear hb3 hown3 x2
  go_wp2_with fail
  refine (laws_equalTexts _ _ _ _ _ R2.out R3.out (by have := mods_len fs r p; omega) (by have := mods_len fs r p; omega)).mono ?_
  rintro _ w4 ⟨rfl, hb4⟩
  rw [decide_eq_true rfl]
  have X4 := Lib.hid (X3.out.step hb4)
  have x4 : w4.cell? ⟨w1.heap.size, 0, none⟩ = some (.slice va fs.length vc) := X4.out.cell 0
  have R2 := Lib.hid (Reads.below R2.out hb4)
  clear hb4 x3
  rcases (show okTree fs = true ∨ okTree fs = false by cases okTree fs <;> simp) with hok | hok
  · have Hok := Lib.hid hok
    clear hok
    go_wp2_with fail
    refine (impl_ValidTree _ fs (fun _ => True) _ (HF.out.below X4.out.below) Hz8.out).mono ?_
    rintro _ w5 ⟨rfl, hb5⟩
    rw [Hok.out]
    have X5 := Lib.hid (X4.out.step hb5)
    have x5 : w5.cell? ⟨w1.heap.size, 0, none⟩ = some (.slice va fs.length vc) := X5.out.cell 0
    have R2 := Lib.hid (Reads.below R2.out hb5)
    clear hb5 x4
    by_cases hrn : r < 0
    · go_wp2_with fail
      refine (spec_ListDir _ fs (fun _ => True) r p _ (HF.out.below X5.out.below) Hz2.out (by omega)).mono ?_
      rintro _ w6 ⟨v6, rfl, hown6, hb6⟩
      have R6 := Lib.hid (Reads.of_owns hown6)
      obtain ⟨a6, c6, rfl⟩ := owns_shape hown6
      have X6 := Lib.hid (X5.out.step hb6)
      have x6 : w6.cell? ⟨w1.heap.size, 0, none⟩ = some (.slice va fs.length vc) := X6.out.cell 0
      have R2 := Lib.hid (Reads.below R2.out hb6)
      clear hb6 hown6 x5
      go_wp2_with fail
      refine (laws_equalTexts _ _ _ _ _ R2.out R6.out (by have := mods_len fs r p; omega) (by have := mods_len fs r p; omega)).mono ?_
      rintro _ w7 ⟨rfl, hb7⟩
      rw [decide_eq_true rfl]
      have X7 := Lib.hid (X6.out.step hb7)
      have x7 : w7.cell? ⟨w1.heap.size, 0, none⟩ = some (.slice va fs.length vc) := X7.out.cell 0
      clear hb7 x6
      go_wp2_with fail
      go_ret
      exact ⟨rfl, bt Hb1.out X7.out.below⟩
    by_cases hrp : 3 ≤ r
    · go_wp2_with fail
      refine (spec_ListDir _ fs (fun _ => True) r p _ (HF.out.below X5.out.below) Hz2.out (by omega)).mono ?_
      rintro _ w6 ⟨v6, rfl, hown6, hb6⟩
      have R6 := Lib.hid (Reads.of_owns hown6)
      obtain ⟨a6, c6, rfl⟩ := owns_shape hown6
      have X6 := Lib.hid (X5.out.step hb6)
      have x6 : w6.cell? ⟨w1.heap.size, 0, none⟩ = some (.slice va fs.length vc) := X6.out.cell 0
      have R2 := Lib.hid (Reads.below R2.out hb6)
      clear hb6 hown6 x5
      go_wp2_with fail
      refine (laws_equalTexts _ _ _ _ _ R2.out R6.out (by have := mods_len fs r p; omega) (by have := mods_len fs r p; omega)).mono ?_
      rintro _ w7 ⟨rfl, hb7⟩
      rw [decide_eq_true rfl]
      have X7 := Lib.hid (X6.out.step hb7)
      have x7 : w7.cell? ⟨w1.heap.size, 0, none⟩ = some (.slice va fs.length vc) := X7.out.cell 0
      clear hb7 x6
      go_wp2_with fail
      go_ret
      exact ⟨rfl, bt Hb1.out X7.out.below⟩
    have hml : (listDir fs r p).length ≤ fs.length := mods_len fs r p
    have Hup := Lib.hid (listDir_up fs r p)
    have Hmem := Lib.hid (fun f (hf : f ∈ fs) (h1 : f.root = r) => listDir_file Hok.out (show inr r 0 2 = true by unfold inr; simp; omega) hf h1)
    have Hdir := Lib.hid (fun (h : listDir fs r p ≠ []) => listDir_dir h)
    have Hms := Lib.hid (show ∃ ms, ms = listDir fs r p from ⟨_, rfl⟩)
    obtain ⟨ms, hms⟩ := Hms.out
    have Hme := Lib.hid hms
    clear Hms
    rw [← hms] at hml Hup Hdir R2 ⊢
    clear hms
    go_wp2_with fail
    go_loopw [7] (fun iv wr => ∃ k : Nat, k ≤ fs.length ∧ iv = .int .i64 k ∧ Boxed w1 #[.slice va fs.length vc] 25 wr ∧ Reads wr (.slice a2 ms.length c2) ms) (fun iv _ => fs.length - (intOf iv).toNat)
    case atStart => exact ⟨0, by omega, rfl, X5.out, R2.out⟩
    case round =>
      obtain ⟨k, hk, rfl, hbx, hr⟩ := hrel
      have XR := Lib.hid hbx
      have RR := Lib.hid hr
      have xr : wr.cell? ⟨w1.heap.size, 0, none⟩ = some (.slice va fs.length vc) := XR.out.cell 0
      clear hbx hr x5 R2
      by_cases hlt : k < fs.length
      · obtain ⟨b, off, cap', bv, e, hD, hb, hbody, c0, c1, c2', c3, c4, c5⟩ := (HF.out.below XR.out.below).at_ hlt
        simp only [Value.slice.injEq] at e
        obtain ⟨rfl, _, rfl⟩ := e
        obtain ⟨ba1, bc1, rfl, _, _⟩ := hbody.len
        have Hbody := Lib.hid hbody
        have hz := Hs8.out _ (List.getElem_mem hlt)
        have Hm := Lib.hid (Hmem.out _ (List.getElem_mem hlt))
        obtain ⟨f, hf⟩ : ∃ f, f = fs[k] := ⟨_, rfl⟩
        rw [← hf] at c0 c1 c2' c3 c4 c5 Hbody hz Hm
        clear hf hbody
        obtain ⟨fr, fp, fn, fi, fst, fb⟩ := f
        obtain ⟨hz1, hz2, hz3⟩ := hz
        dsimp only at c0 c1 c2' c3 c4 c5 hz1 hz2 hz3
        have Hz := Lib.hid (short_mono (B := 8000000) (by omega) hz3)
        clear hz3
        by_cases h1 : fr = r
        · subst h1
          by_cases h2 : fp = p
          · subst h2
            have Hd := Lib.hid (show (if fi then [42] else fn) ∈ ms by rw [Hme.out]; exact Hm.out rfl)
            cases fi
            · have Hd1 := Lib.hid (decide_eq_true (show fn ∈ ms from Hd.out))
              go_wp2_with fail
              refine (laws_hasText _ ms _ _ (RR.out.below (ba (Below.refl _ _) _)) (by omega)).mono ?_
              rintro _ w7 ⟨rfl, rfl⟩
              rw [Hd1.out]
              go_wp2_with fail
              go_roundw
              case rel => exact ⟨k + 1, by omega, by go_num, XR.out.step (ba (Below.refl _ _) _), RR.out.below (ba (Below.refl _ _) _)⟩
              case measure => simp [intOf]; omega
            · have Hd1 := Lib.hid (decide_eq_true (show [42] ∈ ms from Hd.out))
              go_wp2_with fail
              refine (laws_hasText _ ms [42] _ (RR.out.below (ba (Below.refl _ _) _)) (by omega)).mono ?_
              rintro _ w7 ⟨rfl, rfl⟩
              rw [show decide (([42] : Bs) ∈ ms) = true from Hd1.out]
              go_wp2_with fail
              go_roundw
              case rel => exact ⟨k + 1, by omega, by go_num, XR.out.step (ba (Below.refl _ _) _), RR.out.below (ba (Below.refl _ _) _)⟩
              case measure => simp [intOf]; omega
          · have h2b : (fp == p) = false := by simpa using h2
            cases fi
            · go_wp2_with fail
              go_roundw
              case rel => exact ⟨k + 1, by omega, by go_num, XR.out.step (ba (Below.refl _ _) _), RR.out.below (ba (Below.refl _ _) _)⟩
              case measure => simp [intOf]; omega
            · go_wp2_with fail
              go_roundw
              case rel => exact ⟨k + 1, by omega, by go_num, XR.out.step (ba (Below.refl _ _) _), RR.out.below (ba (Below.refl _ _) _)⟩
              case measure => simp [intOf]; omega
        · have h1b : (fr == r) = false := by simpa using h1
          cases fi
          · go_wp2_with fail
            go_roundw
            case rel => exact ⟨k + 1, by omega, by go_num, XR.out.step (ba (Below.refl _ _) _), RR.out.below (ba (Below.refl _ _) _)⟩
            case measure => simp [intOf]; omega
          · go_wp2_with fail
            go_roundw
            case rel => exact ⟨k + 1, by omega, by go_num, XR.out.step (ba (Below.refl _ _) _), RR.out.below (ba (Below.refl _ _) _)⟩
            case measure => simp [intOf]; omega
      · obtain rfl : k = fs.length := by omega
        go_wp2_with fail
        refine (laws_rises _ ms _ RR.out (by omega) Hup.out).mono ?_
        rintro _ w6 ⟨rfl, hb6⟩
        have X6 := Lib.hid (XR.out.step hb6)
        have x6 : w6.cell? ⟨w1.heap.size, 0, none⟩ = some (.slice va fs.length vc) := X6.out.cell 0
        clear hb6 xr
        by_cases h0 : ms.length = 0
        · have h0b : ((ms.length : Int) == 0) = true := by simp [h0]
          go_wp2_with fail
          go_ret
          exact ⟨rfl, bt Hb1.out X6.out.below⟩
        · have h0b : ((ms.length : Int) == 0) = false := by rw [beq_eq_false_iff_ne]; omega
          have Hh := Lib.hid (Hdir.out (fun e => h0 (by rw [e]; rfl)))
          go_wp2_with fail
          refine (impl_HasDir _ fs (fun _ => True) r p _ (HF.out.below X6.out.below) Hz2.out (by omega)).mono ?_
          rintro _ w7 ⟨rfl, hb7⟩
          rw [Hh.out]
          have X7 := Lib.hid (X6.out.step hb7)
          clear hb7
          go_wp2_with fail
          go_ret
          exact ⟨rfl, bt Hb1.out X7.out.below⟩
  · have Hok := Lib.hid hok
    clear hok
    go_wp2_with fail
    refine (impl_ValidTree _ fs (fun _ => True) _ (HF.out.below X4.out.below) Hz8.out).mono ?_
    rintro _ w5 ⟨rfl, hb5⟩
    rw [Hok.out]
    have X5 := Lib.hid (X4.out.step hb5)
    have x5 : w5.cell? ⟨w1.heap.size, 0, none⟩ = some (.slice va fs.length vc) := X5.out.cell 0
    have R2 := Lib.hid (Reads.below R2.out hb5)
    clear hb5 x4
    go_wp2_with fail
    refine (spec_ListDir _ fs (fun _ => True) r p _ (HF.out.below X5.out.below) Hz2.out (by omega)).mono ?_
    rintro _ w6 ⟨v6, rfl, hown6, hb6⟩
    have R6 := Lib.hid (Reads.of_owns hown6)
    obtain ⟨a6, c6, rfl⟩ := owns_shape hown6
    have X6 := Lib.hid (X5.out.step hb6)
    have x6 : w6.cell? ⟨w1.heap.size, 0, none⟩ = some (.slice va fs.length vc) := X6.out.cell 0
    have R2 := Lib.hid (Reads.below R2.out hb6)
    clear hb6 hown6 x5
    go_wp2_with fail
    refine (laws_equalTexts _ _ _ _ _ R2.out R6.out (by have := mods_len fs r p; omega) (by have := mods_len fs r p; omega)).mono ?_
    rintro _ w7 ⟨rfl, hb7⟩
    rw [decide_eq_true rfl]
    have X7 := Lib.hid (X6.out.step hb7)
    have x7 : w7.cell? ⟨w1.heap.size, 0, none⟩ = some (.slice va fs.length vc) := X7.out.cell 0
    clear hb7 x6
    go_wp2_with fail
    go_ret
    exact ⟨rfl, bt Hb1.out X7.out.below⟩

/-! ### THE STEP TO THE ROW -/
set_option maxRecDepth 100000 in
theorem lifted (os : Os) (started : os.Started) (H : Type) (enc : TypeId × Value → H) :
    ReturnsInHanded {} Try.checked os 7 .any (Rows.fnListDirSpec.pre6 enc Try.prog Try.f7 Rows.fnListDirRow.domain false) (Rows.fnListDirSpec.post enc Try.prog Try.f7 false true false false) := by
  refine returnsInHanded_of_change (C := Try.checked) own started (by kernel_rfl) Try.func7
    (ChangeSpec.witness6 (enc := enc) (C := Try.checked) false ⟨#[], #[.slice none 0 0], []⟩ 8 (by kernel_rfl) (by kernel_rfl) (by kernel_rfl) (by kernel_rfl)) ?_
  intro W base args ds gs before hval0 hW hcnd _
  have hval : ∀ (j : Nat) t v, Try.f7.params[j]? = some t → args[j]? = some v → Value.okWide Try.prog W .any base t v := hval0
  have hW' := hW
  obtain ⟨p, q, hA0, hV, rfl, hfz, hnd⟩ := hW
  have hA : DataW.TrodAll enc Try.prog W 0 (fun _ => true) true Try.f7.params.toList args.toList ds p := hA0
  rw [Try.params7] at hA hval
  obtain ⟨v0, vs0, d0, ds0, p0, q0, hargs, rfl, rfl, h0, r0⟩ := trodAll_cons hA
  obtain ⟨rfl, rfl, rfl⟩ := trodAll_nil r0
  obtain rfl : args = #[v0] := by cases args; simp_all
  obtain ⟨rfl, rfl⟩ := trodVars_none hV
  obtain ⟨a0, len0, cap0, rfl⟩ := okWide_slice Try.underlying22 (hval 0 22 v0 rfl rfl)
  have k0 := h0
  have lt0 : ∀ x ∈ p0, x.block < W.heap.size := by obtain ⟨m, hm⟩ := k0; exact DataW.trod_lt m _ _ _ hm
  have w0 : Code W W.heap.size a0 len0 cap0 := by
    obtain ⟨fuel, hf⟩ := h0
    rcases open_ints Try.underlying22 Try.underlying5 (by kernel_rfl) hf with ⟨hcs, _⟩ | ⟨x, l, c, zs, hcs, _, hl, hm, hz, _, hcell, hwz⟩
    · simp [Value.cells] at hcs
      obtain ⟨rfl, rfl, rfl⟩ := hcs
      exact .inl ⟨rfl, by unfold maxLen; omega⟩
    · simp [Value.cells] at hcs
      obtain ⟨rfl, rfl, rfl⟩ := hcs
      exact code_row W _ _ _ zs hl hm (by simpa using hz) hcell hwz
  clear hA0 hval0
  refine (walk a0 len0 cap0 W w0).mono fun e W' ⟨he, bel⟩ => ?_
  subst he
  exact ⟨_, rfl, _, _, _, [], _, [], hW', trodAll_mk1 (shut_bool Try.underlying4 _), (trodAll_cons_mk (Below.trod laidOut (by kernel_rfl) (of_decide_eq_true (by kernel_rfl)) k0 bel lt0) trodAll_mk0), rfl, bel.frame _, fun h => by cases h⟩

theorem over : Rows.fnListDirRow.holds Try.pinned (OpenSpec.ofChange Rows.fnListDirSpec) :=
  OpenClaim.holds_of_wide 7 Try.f7 rfl rfl rfl rfl rfl rfl rfl ⟨rfl, rfl, rfl, rfl, rfl⟩ rfl rfl rfl rfl rfl (by kernel_rfl) Try.func7 (by kernel_rfl)
    (of_decide_eq_true (by kernel_rfl)) (by unfold Func.isWrapper; first | (rw [if_pos (by decide +kernel)]; kernel_rfl) | (rw [if_neg (by decide +kernel)]; exact ⟨rfl, rfl⟩))
    (fun os started H enc _ => lifted os started H enc)

/-- THE STATEMENT -/
theorem proved : Rows.FnListDirSaid := over
end Go.Proofs.Ytoleklppgmeflaa.FnListDir
