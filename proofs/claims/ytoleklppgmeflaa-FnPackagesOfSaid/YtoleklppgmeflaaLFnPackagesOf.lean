/- FnPackagesOf returns true for every code. Written by mklaws.py. -/
import Derived.Test.YtoleklppgmeflaaDrawZ
import Derived.Test.YtoleklppgmeflaaTrees
import Derived.Test.YtoleklppgmeflaaLists
import Derived.Test.YtoleklppgmeflaaDirs2
import Derived.Test.YtoleklppgmeflaaKin
import Derived.Test.YtoleklppgmeflaaEqRise
import Derived.Test.YtoleklppgmeflaaTexts
import Derived.Test.YtoleklppgmeflaaVp
import Derived.Test.YtoleklppgmeflaaPlainR
import Derived.Test.YtoleklppgmeflaaFrame
import Derived.Lib.QuietBelow
import Derived.BigQuiet
set_option linter.unusedVariables false
set_option linter.unusedSimpArgs false
namespace Go.Proofs.Ytoleklppgmeflaa.FnPackagesOf
open Go.Sort Go.ChangeShapes Go.WideShapes Go.ChangeAt Go.RowKit Go.Proofs.Ytoleklppgmeflaa.Nm

theorem lastOf_len (p : Bs) : (lastOf p).length ≤ 3 := by
  unfold lastOf
  split
  · rename_i h; exact (vp_len (getLast_vp h)).2
  · simp
theorem parentOf_len (p : Bs) : (parentOf p).length ≤ p.length := by
  unfold parentOf
  split
  · exact parent_len p
  · simp
theorem packs_len (fs : List Fil) (h : fs.length ≤ 11) : (packagesOf fs).length ≤ 1000 := by
  unfold packagesOf
  split
  · rename_i ht
    refine Nat.le_trans (sortUp_len _) ?_
    have : ∀ l : List Fil, l.all okFil = true → (packs l).length ≤ 3 * l.length := by
      intro l
      induction l with
      | nil => intro _; simp [packs]
      | cons f r ih =>
        intro hl
        simp only [List.all_cons, Bool.and_eq_true] at hl
        have h1 := ih hl.2
        have h2 : (if f.pack.isEmpty then [] else above f.pack).length ≤ 3 := by
          split
          · simp
          · rename_i hp
            have hv := vn_of_vpk (okFil_pack hl.1) (by simpa using hp)
            rw [above_len]; exact (vps_iff.1 (show vps (split f.pack) = true from hv)).1.2
        simp only [packs, List.flatMap_cons, List.length_append, List.length_cons] at h1 ⊢
        omega
    have := this fs (okTree_all ht).1
    omega
  · simp
/-- The directory is there in one of the first roots. -/
def metAt (fs : List Fil) (x : Bs) : Nat → Bool
  | 0 => false
  | r + 1 => metAt fs x r || hasDir fs (r : Int) x
theorem metAt_snoc (fs : List Fil) (x : Bs) (r : Nat) : metAt fs x (r + 1) = (metAt fs x r || hasDir fs (r : Int) x) := rfl
theorem met_three {fs : List Fil} {x : Bs} {r : Int} (h : r = 0 ∨ r = 1 ∨ r = 2) (hd : hasDir fs r x = true) : metAt fs x 3 = true := by
  rcases h with rfl | rfl | rfl
  · simp [metAt, hd]
  · simp [metAt, hd]
  · simp [metAt, hd]
set_option maxRecDepth 100000 in
set_option maxHeartbeats 4000000 in
theorem walk (a : Option Addr) (n cap : Nat) (w : World) (hc : Code w w.heap.size a n cap) :
    Calls Try.prog 9 #[.slice a n cap] w fun e w' => e = .returned (.bool true) ∧ Below w.heap.size w w' := by
  by_cases hn : (1048576 : Int) < (n : Int)
  · go_enter Try.func9, Try.ntmps9
    go_wp2_with fail
    go_ret
    exact ⟨rfl, Below.refl _ _⟩
  have Hc := Lib.hid hc
  clear hc
  go_enter Try.func9, Try.ntmps9
  go_wp2_with fail
  refine (spec_DrawPackagesOf a n cap w Hc.out).mono ?_
  rintro e w1 ⟨v, ps, rfl, ⟨hrows, hsh, hl, hb5, hb1⟩⟩
  obtain ⟨va, vc, rfl⟩ := hrows.len
  have HR := Lib.hid hrows
  obtain ⟨fs, hfs⟩ : ∃ fs, fs = ps.map (·.1) := ⟨_, rfl⟩
  have Hfs := Lib.hid hfs
  have hfl : fs.length = ps.length := by rw [hfs, List.length_map]
  have HF := Lib.hid (show FilsIn w1 (fun _ => True) (.slice va ps.length vc) fs by rw [hfs]; exact hrows.fils)
  have Hz8 := Lib.hid (show ShortT 8000000 fs by rw [hfs]; exact shortT_mono (by omega) hsh)
  have Hz3 := Lib.hid (show ShortT 3000000 fs by rw [hfs]; exact shortT_mono (by omega) hsh)
  have Hz2 := Lib.hid (show ShortT 2000000 fs by rw [hfs]; exact shortT_mono (by omega) hsh)
  have Hs8 := Lib.hid (show ShortT 8 fs by rw [hfs]; exact hsh)
  have Hb5 := Lib.hid (show ∀ f ∈ fs, f.body.length ≤ 5 by rw [hfs]; intro f hf; obtain ⟨p, hp, rfl⟩ := List.mem_map.1 hf; exact hb5 p hp)
  have Hb1 := Lib.hid hb1
  have B0 := Boxed.start w1 #[.slice va ps.length vc] 25
  have hl11 : fs.length ≤ 11 := by omega
  clear hrows hsh hb5 hb1 hfs
  generalize ps.length = pn at *
  subst hfl
  have X1 := Lib.hid B0
  clear B0
  go_wp2_with fail
  refine (impl_PackagesOf _ fs (fun _ => True) _ (HF.out.below X1.out.below) Hz2.out).mono ?_
  rintro _ w2 ⟨v2, rfl, hown2, hb2⟩
  have R2 := Lib.hid (Reads.of_owns hown2)
  obtain ⟨a2, c2, rfl⟩ := owns_shape hown2
  have X2 := Lib.hid (X1.out.step hb2)
  have x2 : w2.cell? ⟨w1.heap.size, 0, none⟩ = some (.slice va fs.length vc) := X2.out.cell 0
  clear hb2 hown2
  go_wp2_with fail
  refine (spec_PackagesOf _ fs (fun _ => True) _ (HF.out.below X2.out.below) Hz2.out).mono ?_
  rintro _ w3 ⟨v3, rfl, hown3, hb3⟩
  have R3 := Lib.hid (Reads.of_owns hown3)
  obtain ⟨a3, c3, rfl⟩ := owns_shape hown3
  have X3 := Lib.hid (X2.out.step hb3)
  have x3 : w3.cell? ⟨w1.heap.size, 0, none⟩ = some (.slice va fs.length vc) := X3.out.cell 0
  have R2 := Lib.hid (Reads.below R2.out hb3)
  clear hb3 hown3 x2
  go_wp2_with fail
  refine (laws_equalTexts _ _ _ _ _ R2.out R3.out (by have := packs_len fs hl11; omega) (by have := packs_len fs hl11; omega)).mono ?_
  rintro _ w4 ⟨rfl, hb4⟩
  rw [decide_eq_true rfl]
  have X4 := Lib.hid (X3.out.step hb4)
  have x4 : w4.cell? ⟨w1.heap.size, 0, none⟩ = some (.slice va fs.length vc) := X4.out.cell 0
  have R2 := Lib.hid (Reads.below R2.out hb4)
  clear hb4 x3
  rcases (show okTree fs = true ∨ okTree fs = false by cases okTree fs <;> simp) with hok | hok
  · have Hok := Lib.hid hok
    clear hok
    go_wp2_with fail
    refine (impl_ValidTree _ fs (fun _ => True) _ (HF.out.below X4.out.below) Hz8.out).mono ?_
    rintro _ w5 ⟨rfl, hb5⟩
    rw [Hok.out]
    have X5 := Lib.hid (X4.out.step hb5)
    have x5 : w5.cell? ⟨w1.heap.size, 0, none⟩ = some (.slice va fs.length vc) := X5.out.cell 0
    have R2 := Lib.hid (Reads.below R2.out hb5)
    clear hb5 x4
    have hml : (packagesOf fs).length ≤ 1000 := packs_len fs hl11
    have Hup := Lib.hid (show Up (packagesOf fs) by unfold packagesOf; rw [Hok.out, if_pos rfl]; exact sortUp_up _)
    have Hfa := Lib.hid (fun x (h : x ∈ packagesOf fs) => packages_facts Hok.out h)
    generalize packagesOf fs = ms at *
    go_wp2_with fail
    go_loopw [5] (fun iv wr => ∃ k : Nat, k ≤ ms.length ∧ iv = .int .i64 k ∧ Boxed w1 #[.slice va fs.length vc] 25 wr ∧ Reads wr (.slice a2 ms.length c2) ms) (fun iv _ => ms.length - (intOf iv).toNat)
    case atStart => exact ⟨0, by omega, rfl, X5.out, R2.out⟩
    case round =>
      obtain ⟨k, hk, rfl, hbx, hr⟩ := hrel
      have XR := Lib.hid hbx
      have RR := Lib.hid hr
      have xr : wr.cell? ⟨w1.heap.size, 0, none⟩ = some (.slice va fs.length vc) := XR.out.cell 0
      clear hbx hr x5 R2
      by_cases hlt : k < ms.length
      · obtain ⟨hv, ⟨r0, hr0, hd0⟩, hpar⟩ := Hfa.out _ (List.getElem_mem hlt)
        have Hxl := Lib.hid (vn_len hv)
        have Hpar := Lib.hid hpar
        have Hmet := Lib.hid (met_three (show r0 = 0 ∨ r0 = 1 ∨ r0 = 2 from hr0) hd0)
        have Hcell := Lib.hid (fun (w' : World) (hr : Reads w' (.slice a2 ms.length c2) ms) => (show ∃ b1 o1, a2 = some ⟨b1, o1, none⟩ ∧ b1 < w'.heap.size ∧ w'.cell? ⟨b1, o1 + k, none⟩ = some (.string (mk ms[k])) by
          obtain ⟨b1, o1, c1, e1, _, _, hb1, hc1⟩ := Reads.some hr (by omega)
          simp only [Value.slice.injEq] at e1
          obtain ⟨e1, _, _⟩ := e1
          exact ⟨b1, o1, e1, hb1, hc1 k hlt⟩))
        have hi1 : (k : Int) < (ms.length : Int) := by omega
        clear hv hr0 hd0 hpar
        obtain ⟨x, hx⟩ : ∃ x, x = ms[k] := ⟨_, rfl⟩
        rw [← hx] at Hxl Hpar Hmet Hcell
        clear hx
        have hxl := Hxl.out
        go_wp2_with fail
        go_loopw [6, 7] (fun mv rv ws => ∃ r : Nat, r ≤ 3 ∧ rv = .int .i64 r ∧ mv = .bool (metAt fs x r) ∧ Boxed w1 #[.slice va fs.length vc] 25 ws ∧ Reads ws (.slice a2 ms.length c2) ms) (fun _ rv _ => 3 - (intOf rv).toNat)
        case atStart => exact ⟨0, by omega, rfl, rfl, XR.out, RR.out⟩
        case round =>
          obtain ⟨r, hr, rfl, rfl, hbs, hrs⟩ := hrel
          have XS := Lib.hid hbs
          have RS := Lib.hid hrs
          obtain ⟨b1, o1, ea, hb1, hcs⟩ := Hcell.out _ hrs
          subst ea
          have xs0 : wr.cell? ⟨w1.heap.size, 0, none⟩ = some (.slice va fs.length vc) := XS.out.cell 0
          clear hbs hrs xr
          by_cases hr3 : r < 3
          · have hr3i : (r : Int) < 3 := by omega
            have k0 := cell_regrown xs0
            have k1 := cell_regrown hcs
            have Hsn := Lib.hid (show metAt fs x (r + 1) = (metAt fs x r || hasDir fs (r : Int) x) from metAt_snoc fs x r)
            cases hm : metAt fs x r
            · rcases (show hasDir fs (r : Int) x = true ∨ hasDir fs (r : Int) x = false by cases hasDir fs (r : Int) x <;> simp) with hh | hh
              · have Hhd := Lib.hid hh
                have Hms := Lib.hid (show metAt fs x (r + 1) = true by rw [Hsn.out, hm, hh]; rfl)
                have Hnm := Lib.hid (rfl : Value.bool true = Value.bool true)
                clear hh hm Hsn
                have cD : ∀ d os, Calls Try.prog 30 #[.agg #[.slice va fs.length vc], .int .i64 (r : Int), .string (mk x)] (grow (redrawn wr d) os) fun e w'' => e = .returned (.bool true) ∧ ∃ p : Regrown, w'' = grow (redrawn wr p.d) p.os := fun d os =>
                  Calls.regrown_of (by have h := impl_HasDir _ fs (fun _ => True) (r : Int) x (grow (redrawn wr d) os) (HF.out.below (bt XS.out.below (below_regrown wr d os))) Hz2.out (by omega); rw [Hhd.out] at h; exact h)
                clear xs0 hcs
                go_wp2_with fail
                refine wp_region_quiet_below (by kernel_rfl) (by kernel_rfl) ?_
                repeat (go_big_quiet_step (first | exact cD _ _))
                refine wpQuiet_nil ?_
                intro _ hw'
                obtain ⟨⟨dq, osq⟩, hw2⟩ := hw'
                subst hw2
                clear cD k0 k1
                have XS7 := Lib.hid (XS.out.step (below_regrown wr dq osq))
                have RS7 := Lib.hid (Reads.below RS.out (below_regrown wr dq osq))
                go_wp2_with fail
                go_roundw
                case rel => exact ⟨r + 1, by omega, by go_num, by rw [Hms.out], XS7.out, RS7.out⟩
                case measure => simp [intOf]; omega
              · have Hhd := Lib.hid hh
                have Hms := Lib.hid (show metAt fs x (r + 1) = false by rw [Hsn.out, hm, hh]; rfl)
                have Hnm := Lib.hid (rfl : Value.bool false = Value.bool false)
                clear hh hm Hsn
                have cD : ∀ d os, Calls Try.prog 30 #[.agg #[.slice va fs.length vc], .int .i64 (r : Int), .string (mk x)] (grow (redrawn wr d) os) fun e w'' => e = .returned (.bool false) ∧ ∃ p : Regrown, w'' = grow (redrawn wr p.d) p.os := fun d os =>
                  Calls.regrown_of (by have h := impl_HasDir _ fs (fun _ => True) (r : Int) x (grow (redrawn wr d) os) (HF.out.below (bt XS.out.below (below_regrown wr d os))) Hz2.out (by omega); rw [Hhd.out] at h; exact h)
                clear xs0 hcs
                go_wp2_with fail
                refine wp_region_quiet_below (by kernel_rfl) (by kernel_rfl) ?_
                repeat (go_big_quiet_step (first | exact cD _ _))
                refine wpQuiet_nil ?_
                intro _ hw'
                obtain ⟨⟨dq, osq⟩, hw2⟩ := hw'
                subst hw2
                clear cD k0 k1
                have XS7 := Lib.hid (XS.out.step (below_regrown wr dq osq))
                have RS7 := Lib.hid (Reads.below RS.out (below_regrown wr dq osq))
                go_wp2_with fail
                go_roundw
                case rel => exact ⟨r + 1, by omega, by go_num, by rw [Hms.out], XS7.out, RS7.out⟩
                case measure => simp [intOf]; omega
            · have Hms := Lib.hid (show metAt fs x (r + 1) = true by rw [Hsn.out, hm]; rfl)
              have Hnm := Lib.hid (rfl : Value.bool true = Value.bool true)
              clear hm Hsn
              clear xs0 hcs
              go_wp2_with fail
              refine wp_region_quiet_below (by kernel_rfl) (by kernel_rfl) ?_
              repeat (go_big_quiet_step (first | fail))
              refine wpQuiet_nil ?_
              intro _ hw'
              obtain ⟨⟨dq, osq⟩, hw2⟩ := hw'
              subst hw2
              clear k0 k1
              have XS7 := Lib.hid (XS.out.step (below_regrown wr dq osq))
              have RS7 := Lib.hid (Reads.below RS.out (below_regrown wr dq osq))
              go_wp2_with fail
              go_roundw
              case rel => exact ⟨r + 1, by omega, by go_num, by rw [Hms.out], XS7.out, RS7.out⟩
              case measure => simp [intOf]; omega
          · obtain rfl : r = 3 := by omega
            rw [Hmet.out]
            have hpl : (parentOf x).length ≤ 11 := by
              have h1 := parentOf_len x
              omega
            obtain ⟨p, hp⟩ : ∃ p, p = parentOf x := ⟨_, rfl⟩
            have Hp := Lib.hid hp.symm
            rw [← hp] at hpl
            rw [← hp] at Hpar
            clear hp
            go_wp2_with fail
            refine (impl_ParentOf x _ (by omega)).mono ?_
            rintro _ w7 ⟨rfl, hb7⟩
            rw [Hp.out]
            have X7 := Lib.hid (XS.out.step hb7)
            have R7 := Lib.hid (Reads.below RS.out hb7)
            clear hb7 xs0 hcs
            by_cases h0 : p = []
            · subst h0
              have h0b : (([] : Bs) != []) = false := rfl
              go_wp2_with fail
              refine ⟨⟨k + 1, by omega, by go_num, X7.out, R7.out⟩, ?_⟩
              simp [intOf]; omega
            · have h0b : (p == []) = false := by simpa using h0
              have h0d : (p != []) = true := by simpa using h0
              have h0c : p.isEmpty = false := by simpa using h0
              have Hm := Lib.hid (decide_eq_true (Hpar.out h0))
              clear h0
              go_wp2_with fail
              refine (laws_hasText _ ms p _ R7.out (by omega)).mono ?_
              rintro _ _ ⟨rfl, rfl⟩
              rw [Hm.out]
              go_wp2_with fail
              refine ⟨⟨k + 1, by omega, by go_num, X7.out, R7.out⟩, ?_⟩
              simp [intOf]; omega
      · go_wp2_with fail
        refine (laws_rises _ ms _ RR.out (by omega) Hup.out).mono ?_
        rintro _ w6 ⟨rfl, hb6⟩
        have X6 := Lib.hid (XR.out.step hb6)
        clear hb6 xr
        go_wp2_with fail
        go_ret
        exact ⟨rfl, bt Hb1.out X6.out.below⟩
  · have Hok := Lib.hid hok
    clear hok
    go_wp2_with fail
    refine (impl_ValidTree _ fs (fun _ => True) _ (HF.out.below X4.out.below) Hz8.out).mono ?_
    rintro _ w5 ⟨rfl, hb5⟩
    rw [Hok.out]
    have X5 := Lib.hid (X4.out.step hb5)
    have x5 : w5.cell? ⟨w1.heap.size, 0, none⟩ = some (.slice va fs.length vc) := X5.out.cell 0
    have R2 := Lib.hid (Reads.below R2.out hb5)
    clear hb5 x4
    go_wp2_with fail
    refine (spec_PackagesOf _ fs (fun _ => True) _ (HF.out.below X5.out.below) Hz2.out).mono ?_
    rintro _ w6 ⟨v6, rfl, hown6, hb6⟩
    have R6 := Lib.hid (Reads.of_owns hown6)
    obtain ⟨a6, c6, rfl⟩ := owns_shape hown6
    have X6 := Lib.hid (X5.out.step hb6)
    have x6 : w6.cell? ⟨w1.heap.size, 0, none⟩ = some (.slice va fs.length vc) := X6.out.cell 0
    have R2 := Lib.hid (Reads.below R2.out hb6)
    clear hb6 hown6 x5
    go_wp2_with fail
    refine (laws_equalTexts _ _ _ _ _ R2.out R6.out (by have := packs_len fs hl11; omega) (by have := packs_len fs hl11; omega)).mono ?_
    rintro _ w7 ⟨rfl, hb7⟩
    rw [decide_eq_true rfl]
    have X7 := Lib.hid (X6.out.step hb7)
    have x7 : w7.cell? ⟨w1.heap.size, 0, none⟩ = some (.slice va fs.length vc) := X7.out.cell 0
    clear hb7 x6
    go_wp2_with fail
    go_ret
    exact ⟨rfl, bt Hb1.out X7.out.below⟩

/-! ### THE STEP TO THE ROW -/
set_option maxRecDepth 100000 in
theorem lifted (os : Os) (started : os.Started) (H : Type) (enc : TypeId × Value → H) :
    ReturnsInHanded {} Try.checked os 9 .any (Rows.fnPackagesOfSpec.pre6 enc Try.prog Try.f9 Rows.fnPackagesOfRow.domain false) (Rows.fnPackagesOfSpec.post enc Try.prog Try.f9 false true false false) := by
  refine returnsInHanded_of_change (C := Try.checked) own started (by kernel_rfl) Try.func9
    (ChangeSpec.witness6 (enc := enc) (C := Try.checked) false ⟨#[], #[.slice none 0 0], []⟩ 8 (by kernel_rfl) (by kernel_rfl) (by kernel_rfl) (by kernel_rfl)) ?_
  intro W base args ds gs before hval0 hW hcnd _
  have hval : ∀ (j : Nat) t v, Try.f9.params[j]? = some t → args[j]? = some v → Value.okWide Try.prog W .any base t v := hval0
  have hW' := hW
  obtain ⟨p, q, hA0, hV, rfl, hfz, hnd⟩ := hW
  have hA : DataW.TrodAll enc Try.prog W 0 (fun _ => true) true Try.f9.params.toList args.toList ds p := hA0
  rw [Try.params9] at hA hval
  obtain ⟨v0, vs0, d0, ds0, p0, q0, hargs, rfl, rfl, h0, r0⟩ := trodAll_cons hA
  obtain ⟨rfl, rfl, rfl⟩ := trodAll_nil r0
  obtain rfl : args = #[v0] := by cases args; simp_all
  obtain ⟨rfl, rfl⟩ := trodVars_none hV
  obtain ⟨a0, len0, cap0, rfl⟩ := okWide_slice Try.underlying22 (hval 0 22 v0 rfl rfl)
  have k0 := h0
  have lt0 : ∀ x ∈ p0, x.block < W.heap.size := by obtain ⟨m, hm⟩ := k0; exact DataW.trod_lt m _ _ _ hm
  have w0 : Code W W.heap.size a0 len0 cap0 := by
    obtain ⟨fuel, hf⟩ := h0
    rcases open_ints Try.underlying22 Try.underlying5 (by kernel_rfl) hf with ⟨hcs, _⟩ | ⟨x, l, c, zs, hcs, _, hl, hm, hz, _, hcell, hwz⟩
    · simp [Value.cells] at hcs
      obtain ⟨rfl, rfl, rfl⟩ := hcs
      exact .inl ⟨rfl, by unfold maxLen; omega⟩
    · simp [Value.cells] at hcs
      obtain ⟨rfl, rfl, rfl⟩ := hcs
      exact code_row W _ _ _ zs hl hm (by simpa using hz) hcell hwz
  clear hA0 hval0
  refine (walk a0 len0 cap0 W w0).mono fun e W' ⟨he, bel⟩ => ?_
  subst he
  exact ⟨_, rfl, _, _, _, [], _, [], hW', trodAll_mk1 (shut_bool Try.underlying4 _), (trodAll_cons_mk (Below.trod laidOut (by kernel_rfl) (of_decide_eq_true (by kernel_rfl)) k0 bel lt0) trodAll_mk0), rfl, bel.frame _, fun h => by cases h⟩

theorem over : Rows.fnPackagesOfRow.holds Try.pinned (OpenSpec.ofChange Rows.fnPackagesOfSpec) :=
  OpenClaim.holds_of_wide 9 Try.f9 rfl rfl rfl rfl rfl rfl rfl ⟨rfl, rfl, rfl, rfl, rfl⟩ rfl rfl rfl rfl rfl (by kernel_rfl) Try.func9 (by kernel_rfl)
    (of_decide_eq_true (by kernel_rfl)) (by unfold Func.isWrapper; first | (rw [if_pos (by decide +kernel)]; kernel_rfl) | (rw [if_neg (by decide +kernel)]; exact ⟨rfl, rfl⟩))
    (fun os started H enc _ => lifted os started H enc)

/-- THE STATEMENT -/
theorem proved : Rows.FnPackagesOfSaid := over
end Go.Proofs.Ytoleklppgmeflaa.FnPackagesOf
