/- FnHiddenFiles returns true for every code. Written by mklaws.py. -/
import Derived.Test.YtggkkehmhapomaaDrawO
import Derived.Test.YtggkkehmhapomaaTrees
import Derived.Test.YtggkkehmhapomaaLooks
import Derived.Test.YtggkkehmhapomaaSLooks
import Derived.Test.YtggkkehmhapomaaHidden
import Derived.Test.YtggkkehmhapomaaSHidden
import Derived.Test.YtggkkehmhapomaaEqAsc
import Derived.Test.YtggkkehmhapomaaTexts
import Derived.Test.YtggkkehmhapomaaVp
import Derived.Test.YtggkkehmhapomaaPlainR
import Derived.Test.YtggkkehmhapomaaFrame
set_option linter.unusedVariables false
set_option linter.unusedSimpArgs false
namespace Go.Proofs.Ytggkkehmhapomaa.FnHiddenFiles
open Go.Sort Go.ChangeShapes Go.WideShapes Go.ChangeAt Go.RowKit Go.Proofs.Ytggkkehmhapomaa.Nm

theorem modOf_len8 (fr fst : Int) (fp fn : Bs) (fi : Bool) (fb : List Stm) (h1 : fp.length ≤ 8) (h2 : fn.length ≤ 8) : (modOf ⟨fr, fp, fn, fi, fst, fb⟩).length ≤ 17 := by
  unfold modOf
  split
  · have := modName_len ⟨fr, fp, fn, fi, fst, fb⟩
    dsimp only at this
    omega
  · simp
theorem boxed_mono {w w7 w8 : World} {B : Nat} {cs : Array Value} {T : TypeId} (h : Boxed w cs T w7) (hb : Below B w7 w8) (hB : w.heap.size < B) : Boxed w cs T w8 :=
  Below.trans h (hb.mono (by simp; omega))
set_option maxRecDepth 100000 in
set_option maxHeartbeats 4000000 in
theorem walk (a : Option Addr) (n cap : Nat) (w : World) (hc : Code w w.heap.size a n cap) :
    Calls Try.prog 3 #[.slice a n cap] w fun e w' => e = .returned (.bool true) ∧ Below w.heap.size w w' := by
  by_cases hn : (1048576 : Int) < (n : Int)
  · go_enter Try.func3, Try.ntmps3
    go_wp2_with fail
    go_ret
    exact ⟨rfl, Below.refl _ _⟩
  have Hc := Lib.hid hc
  clear hc
  go_enter Try.func3, Try.ntmps3
  go_wp2_with fail
  refine (spec_DrawHiddenFiles a n cap w Hc.out).mono ?_
  rintro e w1 ⟨v, ps, pv, xs, rfl, ⟨hrows, hsh, hl, hb5, hb1⟩, hp, hx3⟩
  obtain ⟨va, vc, rfl⟩ := hrows.len
  have HR := Lib.hid hrows
  obtain ⟨fs, hfs⟩ : ∃ fs, fs = ps.map (·.1) := ⟨_, rfl⟩
  have Hfs := Lib.hid hfs
  have hfl : fs.length = ps.length := by rw [hfs, List.length_map]
  have HF := Lib.hid (show FilsIn w1 (fun _ => True) (.slice va ps.length vc) fs by rw [hfs]; exact hrows.fils)
  have Hz8 := Lib.hid (show ShortT 8000000 fs by rw [hfs]; exact shortT_mono (by omega) hsh)
  have Hz3 := Lib.hid (show ShortT 3000000 fs by rw [hfs]; exact shortT_mono (by omega) hsh)
  have Hz2 := Lib.hid (show ShortT 2000000 fs by rw [hfs]; exact shortT_mono (by omega) hsh)
  have Hs8 := Lib.hid (show ShortT 8 fs by rw [hfs]; exact hsh)
  have Hb5 := Lib.hid (show ∀ f ∈ fs, f.body.length ≤ 5 by rw [hfs]; intro f hf; obtain ⟨p, hp, rfl⟩ := List.mem_map.1 hf; exact hb5 p hp)
  have Hb1 := Lib.hid hb1
  have B0 := Boxed.start w1 #[.slice va ps.length vc] 25
  have hl11 : fs.length ≤ 11 := by omega
  clear hrows hsh hb5 hb1 hfs
  generalize ps.length = pn at *
  subst hfl
  obtain ⟨i0, hi, hz0, hz1', hz2⟩ := info_parts infoS
  have Hi := Lib.hid hi
  have Hz0 := Lib.hid hz0
  have HzA := Lib.hid hz1'
  have HzB := Lib.hid hz2
  clear hi hz0 hz1' hz2
  have X1 := Lib.hid B0
  clear B0
  obtain ⟨pa, pc, rfl⟩ := hp.len
  have HP := Lib.hid hp.ints
  clear hp
  go_wp2_with fail
  refine (impl_HiddenFiles _ fs (fun _ => True) _ xs _ (HF.out.below X1.out.below) Hz2.out (HP.out.below X1.out.below)).mono ?_
  rintro _ w2 ⟨v2, rfl, hown2, hb2⟩
  have R2 := Lib.hid (IntsIn.of_owns hown2)
  obtain ⟨a2, c2, rfl⟩ := owns_shape hown2
  have X2 := Lib.hid (X1.out.step hb2)
  have x2 : w2.cell? ⟨w1.heap.size, 0, none⟩ = some (.slice va fs.length vc) := X2.out.cell 0
  clear hb2 hown2
  go_wp2_with fail
  refine (spec_HiddenFiles _ fs (fun _ => True) _ xs _ (HF.out.below X2.out.below) Hz2.out (HP.out.below X2.out.below)).mono ?_
  rintro _ w3 ⟨v3, rfl, hown3, hb3⟩
  have R3 := Lib.hid (IntsIn.of_owns hown3)
  obtain ⟨a3, c3, rfl⟩ := owns_shape hown3
  have X3 := Lib.hid (X2.out.step hb3)
  have x3 : w3.cell? ⟨w1.heap.size, 0, none⟩ = some (.slice va fs.length vc) := X3.out.cell 0
  have R2 := Lib.hid (IntsIn.below R2.out hb3)
  clear hb3 hown3 x2
  go_wp2_with fail
  refine (laws_equalInts _ _ _ _ _ R2.out R3.out).mono ?_
  rintro _ w4 ⟨rfl, hb4⟩
  rw [decide_eq_true rfl]
  have X4 := Lib.hid (X3.out.step hb4)
  have x4 : w4.cell? ⟨w1.heap.size, 0, none⟩ = some (.slice va fs.length vc) := X4.out.cell 0
  have R2 := Lib.hid (IntsIn.below R2.out hb4)
  clear hb4 x3
  rcases (show okTree fs = true ∨ okTree fs = false by cases okTree fs <;> simp) with hok | hok
  · have Hok := Lib.hid hok
    rcases (show okPath xs = true ∨ okPath xs = false by cases okPath xs <;> simp) with hpo | hpo
    · have Hpo := Lib.hid hpo
      have Hlo := Lib.hid (okLook_of hok hpo)
      clear hok hpo
      go_wp2_with fail
      refine (impl_ValidTree _ fs (fun _ => True) _ (HF.out.below X4.out.below) Hz8.out).mono ?_
      rintro _ w5 ⟨rfl, hb5⟩
      rw [Hok.out]
      have X5 := Lib.hid (X4.out.step hb5)
      have x5 : w5.cell? ⟨w1.heap.size, 0, none⟩ = some (.slice va fs.length vc) := X5.out.cell 0
      have R2 := Lib.hid (IntsIn.below R2.out hb5)
      clear hb5 x4
      go_wp2_with fail
      refine (impl_ValidPath _ xs _ (HP.out.below X5.out.below)).mono ?_
      rintro _ _ ⟨rfl, rfl⟩
      rw [Hpo.out]
      have Hup := Lib.hid (hidden_up fs xs)
      have Hmh := Lib.hid (fun (k : Nat) (h : k < fs.length) => mem_hidden Hlo.out k h)
      generalize hidden fs xs = hs at *
      have H6 := Lib.hid (World.ownsRow_made (e := 9) (size := 1) (base := w5.heap.size) w5 #[] 0 (Nat.le_refl _) (by omega) rfl)
      have hz6 : w1.heap.size < w5.heap.size := X5.out.lt
      go_wp2_with fail
      go_loopw [6, 7] (fun nv iv wr => ∃ k : Nat, k ≤ fs.length ∧ iv = .int .i64 k ∧ wr.ownsRow w5.heap.size 9 1 nv (seenNames fs xs k).length ((seenNames fs xs k).map sv) ∧ Below w5.heap.size w5 wr) (fun _ iv _ => fs.length - (intOf iv).toNat)
      case atStart => exact ⟨0, by omega, rfl, by have := H6.out; simpa [seenNames] using this, by (repeat (with_reducible first | exact Below.refl _ _ | assumption | refine ba ?_ _ | refine bd ?_ | refine bdN ?_ _ | refine bs ?_ (by first | exact Nat.le_refl _ | (dsimp only; omega) | (simp; done)) _ | refine bt ?_ (by assumption)))⟩
      case round =>
        obtain ⟨k, hk, rfl, hown, hbel⟩ := hrel
        obtain ⟨na, nc, rfl⟩ := owns_shape hown
        have Hbel := Lib.hid hbel
        have hsz := hbel.size
        have XR := Lib.hid (X5.out.step hbel)
        have RR := Lib.hid (R2.out.below hbel)
        have Hown := Lib.hid hown
        have xr : wr.cell? ⟨w1.heap.size, 0, none⟩ = some (.slice va fs.length vc) := XR.out.cell 0
        have hsl := seenNames_len fs xs k
        clear hbel hown x5
        by_cases hlt : k < fs.length
        · have hmk := Hmh.out k hlt
          have hi1 : (k : Int) < (fs.length : Int) := by omega
          by_cases hh : foundFor fs xs fs[k] = k
          · have Hin := Lib.hid (show decide ((k : Int) ∈ hs) = false from decide_eq_false (fun h => (hmk.1 h) hh))
            have Hne := Lib.hid (decide_eq_false (seen_new Hlo.out hlt hh))
            have Hst := Lib.hid (seen_step (path := xs) hlt hh)
            have Hff := Lib.hid (show (findSpec fs xs (modOf fs[k])).file = k by rw [← foundFor_eq Hlo.out (List.getElem_mem hlt)]; exact hh)
            clear hh hmk
            obtain ⟨b, off, cap', bv, e, hD, hb, hbody, c0, c1, c2', c3, c4, c5⟩ := (HF.out.below XR.out.below).at_ hlt
            simp only [Value.slice.injEq] at e
            obtain ⟨rfl, _, rfl⟩ := e
            obtain ⟨ba1, bc1, rfl, _, _⟩ := hbody.len
            have Hbody := Lib.hid hbody
            have hz := Hs8.out _ (List.getElem_mem hlt)
            obtain ⟨f, hf⟩ : ∃ f, f = fs[k] := ⟨_, rfl⟩
            rw [← hf] at c0 c1 c2' c3 c4 c5 Hbody hz Hne Hst Hff
            clear hf hbody
            obtain ⟨fr, fp, fn, fi, fst, fb⟩ := f
            obtain ⟨hz1, hz2, hz3⟩ := hz
            dsimp only at c0 c1 c2' c3 c4 c5 hz1 hz2 hz3
            have Hz := Lib.hid (short_mono (B := 8000000) (by omega) hz3)
            have hml := modOf_len8 fr fst fp fn fi fb hz1 hz2
            clear hz3
            go_wp2_with fail
            refine (laws_isIn _ hs (k : Int) _ RR.out).mono ?_
            rintro _ _ ⟨rfl, rfl⟩
            rw [Hin.out]
            go_wp2_with fail
            refine (impl_ModuleOf _ _ _ _ _ _ fb (fun _ => True) _ (by omega) (by omega) Hbody.out Hz.out).mono ?_
            rintro _ w6 ⟨rfl, hb6⟩
            have X6 := Lib.hid (XR.out.step hb6)
            have R6 := Lib.hid (RR.out.below hb6)
            have H6 := Lib.hid (owns_below Hown.out hb6)
            have x6 : w6.cell? ⟨w1.heap.size, 0, none⟩ = some (.slice (some ⟨b, off, none⟩) fs.length vc) := X6.out.cell 0
            have hs6 := hb6.size
            have HB6 := Lib.hid (bt Hbel.out hb6)
            clear hb6 c0 c1 c2' c3 c4 c5 xr
            generalize modOf ⟨fr, fp, fn, fi, fst, fb⟩ = m at *
            generalize hss : seenNames fs xs k = ss at *
            clear hss
            go_wp2_with fail
            refine (laws_hasText _ ss m _ (Reads.of_owns H6.out) (by omega)).mono ?_
            rintro _ _ ⟨rfl, rfl⟩
            rw [Hne.out]
            go_wp2_with fail
            refine (impl_FindSpec _ fs (fun _ => True) _ xs m _ (HF.out.below X6.out.below) Hz2.out (HP.out.below X6.out.below) (by omega)).mono ?_
            rintro _ w7 ⟨v7, rfl, hown7, hb7⟩
            rw [Hff.out]
            obtain ⟨a7, c7, rfl⟩ := owns_shape hown7
            have X7 := Lib.hid (X6.out.step hb7)
            have R7 := Lib.hid (R6.out.below hb7)
            have H7 := Lib.hid (owns_below H6.out hb7)
            have hs7 := hb7.size
            have HB7 := Lib.hid (bt HB6.out hb7)
            have hf1 := fld1
            clear hb7 hown7 x6
            generalize (findSpec fs xs m).kind = sk at *
            generalize (findSpec fs xs m).roots.length = sr at *
            go_wp2_with (at_builtin; refine wpList_append_own _ rfl _ _ 33 rfl w5.heap.size 9 i0 (.string ByteArray.empty) 1 16 Try.underlying33 Hi.out Hz0.out HzA.out HzB.out rfl (by decide) _ ss.length _ rfl (H7.out.alloc _) ⟨w7.heap.size, 0, none⟩ 1 1 [.string (mk m)] rfl rfl (cell_one_new _ _ _) (fun x hx => by simp at hx; subst hx; rfl) (by unfold maxLen; omega) (by omega) (by simp; omega) ?_; intro v8 w8 hown8 hg8 hnil8; obtain ⟨a8, c8, hv8⟩ := owns_shape hown8; subst hv8; have H8 := Lib.hid hown8; have B8 := Lib.hid (show Below w5.heap.size w7 w8 from ((Below.refl _ _).alloc (by omega) _).grown hg8 (by simp; omega) (fun b hb => (H7.out.lt b hb).1)); clear hown8 hg8 hnil8)
            have HB8 := Lib.hid (HB7.out.trans B8.out)
            go_roundw
            case rel => exact ⟨k + 1, by omega, by go_num, by rw [Hst.out]; have := H8.out; simpa [sv] using this, HB8.out⟩
            case measure => simp [intOf]; omega
          · have Hin := Lib.hid (show decide ((k : Int) ∈ hs) = true from decide_eq_true (hmk.2 hh))
            have Hst := Lib.hid (seen_skip (path := xs) hlt hh)
            clear hh hmk
            go_wp2_with fail
            refine (laws_isIn _ hs (k : Int) _ RR.out).mono ?_
            rintro _ _ ⟨rfl, rfl⟩
            rw [Hin.out]
            go_wp2_with fail
            go_roundw
            case rel => exact ⟨k + 1, by omega, by go_num, by rw [Hst.out]; exact Hown.out, Hbel.out⟩
            case measure => simp [intOf]; omega
        · go_wp2_with fail
          refine (laws_ascends _ hs _ RR.out Hup.out).mono ?_
          rintro _ w6 ⟨rfl, hb6⟩
          have X6 := Lib.hid (XR.out.step hb6)
          clear hb6 xr
          go_wp2_with fail
          go_ret
          exact ⟨rfl, bt Hb1.out X6.out.below⟩
    · have Hpo := Lib.hid hpo
      clear hok hpo
      go_wp2_with fail
      refine (impl_ValidTree _ fs (fun _ => True) _ (HF.out.below X4.out.below) Hz8.out).mono ?_
      rintro _ w5 ⟨rfl, hb5⟩
      rw [Hok.out]
      have X5 := Lib.hid (X4.out.step hb5)
      have x5 : w5.cell? ⟨w1.heap.size, 0, none⟩ = some (.slice va fs.length vc) := X5.out.cell 0
      have R2 := Lib.hid (IntsIn.below R2.out hb5)
      clear hb5 x4
      go_wp2_with fail
      refine (impl_ValidPath _ xs _ (HP.out.below X5.out.below)).mono ?_
      rintro _ _ ⟨rfl, rfl⟩
      rw [Hpo.out]
      go_wp2_with fail
      refine (spec_HiddenFiles _ fs (fun _ => True) _ xs _ (HF.out.below X5.out.below) Hz2.out (HP.out.below X5.out.below)).mono ?_
      rintro _ w6 ⟨v6, rfl, hown6, hb6⟩
      have R6 := Lib.hid (IntsIn.of_owns hown6)
      obtain ⟨a6, c6, rfl⟩ := owns_shape hown6
      have X6 := Lib.hid (X5.out.step hb6)
      have x6 : w6.cell? ⟨w1.heap.size, 0, none⟩ = some (.slice va fs.length vc) := X6.out.cell 0
      have R2 := Lib.hid (IntsIn.below R2.out hb6)
      clear hb6 hown6 x5
      go_wp2_with fail
      refine (laws_equalInts _ _ _ _ _ R2.out R6.out).mono ?_
      rintro _ w7 ⟨rfl, hb7⟩
      rw [decide_eq_true rfl]
      have X7 := Lib.hid (X6.out.step hb7)
      have x7 : w7.cell? ⟨w1.heap.size, 0, none⟩ = some (.slice va fs.length vc) := X7.out.cell 0
      clear hb7 x6
      go_wp2_with fail
      go_ret
      exact ⟨rfl, bt Hb1.out X7.out.below⟩
  · have Hok := Lib.hid hok
    clear hok
    go_wp2_with fail
    refine (impl_ValidTree _ fs (fun _ => True) _ (HF.out.below X4.out.below) Hz8.out).mono ?_
    rintro _ w5 ⟨rfl, hb5⟩
    rw [Hok.out]
    have X5 := Lib.hid (X4.out.step hb5)
    have x5 : w5.cell? ⟨w1.heap.size, 0, none⟩ = some (.slice va fs.length vc) := X5.out.cell 0
    have R2 := Lib.hid (IntsIn.below R2.out hb5)
    clear hb5 x4
    go_wp2_with fail
    refine (spec_HiddenFiles _ fs (fun _ => True) _ xs _ (HF.out.below X5.out.below) Hz2.out (HP.out.below X5.out.below)).mono ?_
    rintro _ w6 ⟨v6, rfl, hown6, hb6⟩
    have R6 := Lib.hid (IntsIn.of_owns hown6)
    obtain ⟨a6, c6, rfl⟩ := owns_shape hown6
    have X6 := Lib.hid (X5.out.step hb6)
    have x6 : w6.cell? ⟨w1.heap.size, 0, none⟩ = some (.slice va fs.length vc) := X6.out.cell 0
    have R2 := Lib.hid (IntsIn.below R2.out hb6)
    clear hb6 hown6 x5
    go_wp2_with fail
    refine (laws_equalInts _ _ _ _ _ R2.out R6.out).mono ?_
    rintro _ w7 ⟨rfl, hb7⟩
    rw [decide_eq_true rfl]
    have X7 := Lib.hid (X6.out.step hb7)
    have x7 : w7.cell? ⟨w1.heap.size, 0, none⟩ = some (.slice va fs.length vc) := X7.out.cell 0
    clear hb7 x6
    go_wp2_with fail
    go_ret
    exact ⟨rfl, bt Hb1.out X7.out.below⟩

/-! ### THE STEP TO THE ROW -/
set_option maxRecDepth 100000 in
theorem lifted (os : Os) (started : os.Started) (H : Type) (enc : TypeId × Value → H) :
    ReturnsInHanded {} Try.checked os 3 .any (Rows.fnHiddenFilesSpec.pre6 enc Try.prog Try.f3 Rows.fnHiddenFilesRow.domain false) (Rows.fnHiddenFilesSpec.post enc Try.prog Try.f3 false true false false) := by
  refine returnsInHanded_of_change (C := Try.checked) own started (by kernel_rfl) Try.func3
    (ChangeSpec.witness6 (enc := enc) (C := Try.checked) false ⟨#[], #[.slice none 0 0], []⟩ 8 (by kernel_rfl) (by kernel_rfl) (by kernel_rfl) (by kernel_rfl)) ?_
  intro W base args ds gs before hval0 hW hcnd _
  have hval : ∀ (j : Nat) t v, Try.f3.params[j]? = some t → args[j]? = some v → Value.okWide Try.prog W .any base t v := hval0
  have hW' := hW
  obtain ⟨p, q, hA0, hV, rfl, hfz, hnd⟩ := hW
  have hA : DataW.TrodAll enc Try.prog W 0 (fun _ => true) true Try.f3.params.toList args.toList ds p := hA0
  rw [Try.params3] at hA hval
  obtain ⟨v0, vs0, d0, ds0, p0, q0, hargs, rfl, rfl, h0, r0⟩ := trodAll_cons hA
  obtain ⟨rfl, rfl, rfl⟩ := trodAll_nil r0
  obtain rfl : args = #[v0] := by cases args; simp_all
  obtain ⟨rfl, rfl⟩ := trodVars_none hV
  obtain ⟨a0, len0, cap0, rfl⟩ := okWide_slice Try.underlying22 (hval 0 22 v0 rfl rfl)
  have k0 := h0
  have lt0 : ∀ x ∈ p0, x.block < W.heap.size := by obtain ⟨m, hm⟩ := k0; exact DataW.trod_lt m _ _ _ hm
  have w0 : Code W W.heap.size a0 len0 cap0 := by
    obtain ⟨fuel, hf⟩ := h0
    rcases open_ints Try.underlying22 Try.underlying5 (by kernel_rfl) hf with ⟨hcs, _⟩ | ⟨x, l, c, zs, hcs, _, hl, hm, hz, _, hcell, hwz⟩
    · simp [Value.cells] at hcs
      obtain ⟨rfl, rfl, rfl⟩ := hcs
      exact .inl ⟨rfl, by unfold maxLen; omega⟩
    · simp [Value.cells] at hcs
      obtain ⟨rfl, rfl, rfl⟩ := hcs
      exact code_row W _ _ _ zs hl hm (by simpa using hz) hcell hwz
  clear hA0 hval0
  refine (walk a0 len0 cap0 W w0).mono fun e W' ⟨he, bel⟩ => ?_
  subst he
  exact ⟨_, rfl, _, _, _, [], _, [], hW', trodAll_mk1 (shut_bool Try.underlying4 _), (trodAll_cons_mk (Below.trod laidOut (by kernel_rfl) (of_decide_eq_true (by kernel_rfl)) k0 bel lt0) trodAll_mk0), rfl, bel.frame _, fun h => by cases h⟩

theorem over : Rows.fnHiddenFilesRow.holds Try.pinned (OpenSpec.ofChange Rows.fnHiddenFilesSpec) :=
  OpenClaim.holds_of_wide 3 Try.f3 rfl rfl rfl rfl rfl rfl rfl ⟨rfl, rfl, rfl, rfl, rfl⟩ rfl rfl rfl rfl rfl (by kernel_rfl) Try.func3 (by kernel_rfl)
    (of_decide_eq_true (by kernel_rfl)) (by unfold Func.isWrapper; first | (rw [if_pos (by decide +kernel)]; kernel_rfl) | (rw [if_neg (by decide +kernel)]; exact ⟨rfl, rfl⟩))
    (fun os started H enc _ => lifted os started H enc)

/-- THE STATEMENT -/
theorem proved : Rows.FnHiddenFilesSaid := over
end Go.Proofs.Ytggkkehmhapomaa.FnHiddenFiles
