/- FnFoundNames returns true for every code. Written by mklaws.py. -/
import Derived.Test.YtggkkehmhapomaaGreatDrawO
import Derived.Test.YtggkkehmhapomaaGreatTrees
import Derived.Test.YtggkkehmhapomaaGreatLooks
import Derived.Test.YtggkkehmhapomaaGreatSLooks
import Derived.Test.YtggkkehmhapomaaGreatSNames
import Derived.Test.YtggkkehmhapomaaGreatLists
import Derived.Test.YtggkkehmhapomaaGreatEqRise
import Derived.Test.YtggkkehmhapomaaGreatTexts
import Derived.Test.YtggkkehmhapomaaGreatVp
import Derived.Test.YtggkkehmhapomaaGreatPlainR
import Derived.Test.YtggkkehmhapomaaGreatFrame
import Derived.Lib.QuietBelow
import Derived.BigQuiet
import Derived.Deep.RegionHeld3
set_option linter.unusedVariables false
set_option linter.unusedSimpArgs false
namespace Go.Proofs.YtggkkehmhapomaaGreat.FnFoundNames
open Go.Sort Go.ChangeShapes Go.WideShapes Go.ChangeAt Go.RowKit Go.Proofs.YtggkkehmhapomaaGreat.Nm

theorem found_len (fs : List Fil) (path : List Int) : (foundNames fs path).length ≤ 36 := by
  unfold foundNames
  split
  · rename_i h
    have ht := okLook_tree h
    have hz := (okTree_all ht).2.2
    refine Nat.le_trans (List.length_filter_le _ _) ?_
    unfold allNames
    refine Nat.le_trans (sortUp_len _) ?_
    have : ∀ l : List Fil, l.all okFil = true → (l.flatMap (fun f => above (modName f))).length ≤ 3 * l.length := by
      intro l
      induction l with
      | nil => intro _; simp
      | cons f r ih =>
        intro hl
        simp only [List.all_cons, Bool.and_eq_true] at hl
        have h1 := ih hl.2
        have h2 : (above (modName f)).length ≤ 3 := by
          rw [above_len]; exact (vps_iff.1 (show vps (split (modName f)) = true from (okFil_mod hl.1).2)).1.2
        simp only [List.flatMap_cons, List.length_append, List.length_cons]
        omega
    have := this fs (okTree_all ht).1
    omega
  · simp
theorem kids_len (fs : List Fil) (path : List Int) (p : Bs) : (kidsOf fs path p).length ≤ 36 := by
  unfold kidsOf
  rw [List.length_map]
  exact Nat.le_trans (List.length_filter_le _ _) (found_len fs path)
theorem packs_len (fs : List Fil) (h : fs.length ≤ 11) : (packagesOf fs).length ≤ 1000 := by
  unfold packagesOf
  split
  · rename_i ht
    refine Nat.le_trans (sortUp_len _) ?_
    have : ∀ l : List Fil, l.all okFil = true → (packs l).length ≤ 3 * l.length := by
      intro l
      induction l with
      | nil => intro _; simp [packs]
      | cons f r ih =>
        intro hl
        simp only [List.all_cons, Bool.and_eq_true] at hl
        have h1 := ih hl.2
        have h2 : (if f.pack.isEmpty then [] else above f.pack).length ≤ 3 := by
          split
          · simp
          · rename_i hp
            have hv := vn_of_vpk (okFil_pack hl.1) (by simpa using hp)
            rw [above_len]; exact (vps_iff.1 (show vps (split f.pack) = true from hv)).1.2
        simp only [packs, List.flatMap_cons, List.length_append, List.length_cons] at h1 ⊢
        omega
    have := this fs (okTree_all ht).1
    omega
  · simp
theorem all_len {fs : List Fil} (ht : okTree fs = true) {s : Bs} (h : s ∈ modulesOf fs ++ packagesOf fs) : s.length ≤ 11 := by
  rcases List.mem_append.1 h with h | h
  · unfold modulesOf at h
    rw [if_pos ht, sortUp_mem] at h
    obtain ⟨f, hf, rfl⟩ := List.mem_map.1 h
    exact vn_len (okFil_mod (okTree_file ht hf)).2
  · exact vn_len (packages_facts ht h).1
set_option maxRecDepth 100000 in
set_option maxHeartbeats 4000000 in
theorem walk (a : Option Addr) (n cap : Nat) (w : World) (hc : Code w w.heap.size a n cap) :
    Calls Tryz.prog 3 #[.slice a n cap] w fun e w' => e = .returned (.bool true) ∧ Below w.heap.size w w' := by
  by_cases hn : (1048576 : Int) < (n : Int)
  · go_enter Tryz.func3, Tryz.ntmps3
    go_wp2_with fail
    go_ret
    exact ⟨rfl, Below.refl _ _⟩
  have Hc := Lib.hid hc
  clear hc
  go_enter Tryz.func3, Tryz.ntmps3
  go_wp2_with fail
  refine (spec_DrawFoundNames a n cap w Hc.out).mono ?_
  rintro e w1 ⟨v, ps, pv, xs, rfl, ⟨hrows, hsh, hl, hb5, hb1⟩, hp, hx3⟩
  obtain ⟨va, vc, rfl⟩ := hrows.len
  have HR := Lib.hid hrows
  obtain ⟨fs, hfs⟩ : ∃ fs, fs = ps.map (·.1) := ⟨_, rfl⟩
  have Hfs := Lib.hid hfs
  have hfl : fs.length = ps.length := by rw [hfs, List.length_map]
  have HF := Lib.hid (show FilsIn w1 (fun _ => True) (.slice va ps.length vc) fs by rw [hfs]; exact hrows.fils)
  have Hz8 := Lib.hid (show ShortT 8000000 fs by rw [hfs]; exact shortT_mono (by omega) hsh)
  have Hz3 := Lib.hid (show ShortT 3000000 fs by rw [hfs]; exact shortT_mono (by omega) hsh)
  have Hz2 := Lib.hid (show ShortT 2000000 fs by rw [hfs]; exact shortT_mono (by omega) hsh)
  have Hs8 := Lib.hid (show ShortT 8 fs by rw [hfs]; exact hsh)
  have Hb5 := Lib.hid (show ∀ f ∈ fs, f.body.length ≤ 5 by rw [hfs]; intro f hf; obtain ⟨p, hp, rfl⟩ := List.mem_map.1 hf; exact hb5 p hp)
  have Hb1 := Lib.hid hb1
  have B0 := Boxed.start w1 #[.slice va ps.length vc] 25
  have hl11 : fs.length ≤ 11 := by omega
  clear hrows hsh hb5 hb1 hfs
  generalize ps.length = pn at *
  subst hfl
  have X1 := Lib.hid B0
  clear B0
  obtain ⟨pa, pc, rfl⟩ := hp.len
  have HP := Lib.hid hp.ints
  clear hp
  go_wp2_with fail
  refine (impl_FoundNames _ fs (fun _ => True) _ xs _ (HF.out.below X1.out.below) Hz2.out (HP.out.below X1.out.below)).mono ?_
  rintro _ w2 ⟨v2, rfl, hown2, hb2⟩
  have R2 := Lib.hid (Reads.of_owns hown2)
  obtain ⟨a2, c2, rfl⟩ := owns_shape hown2
  have X2 := Lib.hid (X1.out.step hb2)
  have x2 : w2.cell? ⟨w1.heap.size, 0, none⟩ = some (.slice va fs.length vc) := X2.out.cell 0
  clear hb2 hown2
  go_wp2_with fail
  refine (spec_FoundNames _ fs (fun _ => True) _ xs _ (HF.out.below X2.out.below) Hz2.out (HP.out.below X2.out.below)).mono ?_
  rintro _ w3 ⟨v3, rfl, hown3, hb3⟩
  have R3 := Lib.hid (Reads.of_owns hown3)
  obtain ⟨a3, c3, rfl⟩ := owns_shape hown3
  have X3 := Lib.hid (X2.out.step hb3)
  have x3 : w3.cell? ⟨w1.heap.size, 0, none⟩ = some (.slice va fs.length vc) := X3.out.cell 0
  have R2 := Lib.hid (Reads.below R2.out hb3)
  clear hb3 hown3 x2
  go_wp2_with fail
  refine (laws_equalTexts _ _ _ _ _ R2.out R3.out (by have := found_len fs xs; omega) (by have := found_len fs xs; omega)).mono ?_
  rintro _ w4 ⟨rfl, hb4⟩
  rw [decide_eq_true rfl]
  have X4 := Lib.hid (X3.out.step hb4)
  have x4 : w4.cell? ⟨w1.heap.size, 0, none⟩ = some (.slice va fs.length vc) := X4.out.cell 0
  have R2 := Lib.hid (Reads.below R2.out hb4)
  clear hb4 x3
  rcases (show okTree fs = true ∨ okTree fs = false by cases okTree fs <;> simp) with hok | hok
  · have Hok := Lib.hid hok
    rcases (show okPath xs = true ∨ okPath xs = false by cases okPath xs <;> simp) with hpo | hpo
    · have Hpo := Lib.hid hpo
      have Hlo := Lib.hid (okLook_of hok hpo)
      clear hok hpo
      go_wp2_with fail
      refine (impl_ValidTree _ fs (fun _ => True) _ (HF.out.below X4.out.below) Hz8.out).mono ?_
      rintro _ w5 ⟨rfl, hb5⟩
      rw [Hok.out]
      have X5 := Lib.hid (X4.out.step hb5)
      have x5 : w5.cell? ⟨w1.heap.size, 0, none⟩ = some (.slice va fs.length vc) := X5.out.cell 0
      have R2 := Lib.hid (Reads.below R2.out hb5)
      clear hb5 x4
      go_wp2_with fail
      refine (impl_ValidPath _ xs _ (HP.out.below X5.out.below)).mono ?_
      rintro _ _ ⟨rfl, rfl⟩
      rw [Hpo.out]
      have hol : (foundNames fs xs).length ≤ 36 := found_len fs xs
      have hm1 : (modulesOf fs).length ≤ 12 := by
        unfold modulesOf
        split
        · have h1 := sortUp_len (fs.map modName)
          rw [List.length_map] at h1
          omega
        · simp
      have hm2 : (packagesOf fs).length ≤ 1000 := packs_len fs hl11
      have Hup := Lib.hid (foundNames_up fs xs)
      have Hiff := Lib.hid (fun s => found_iff Hlo.out s)
      have Hwi := Lib.hid (fun s (h : s ∈ foundNames fs xs) => found_in_all Hlo.out h)
      have Hvl := Lib.hid (fun s (h : s ∈ modulesOf fs ++ packagesOf fs) => all_len Hok.out h)
      have Hk := Lib.hid (fun (w' : World) (hC : Below w5.heap.size w5 w') => (⟨(X5.out.step hC).cell 0, hC⟩ : w'.cell? ⟨w1.heap.size, 0, none⟩ = some (.slice va fs.length vc) ∧ Below w5.heap.size w5 w'))
      go_wp2_with fail
      go_region_held3 (fun w' => w'.cell? ⟨w1.heap.size, 0, none⟩ = some (.slice va fs.length vc) ∧ Below w5.heap.size w5 w')
        (first | exact Hk.out _ HbA.out | exact Hk.out _ (by (repeat (with_reducible first | exact Below.refl _ _ | assumption | refine ba ?_ _ | refine bd ?_ | refine bdN ?_ _ | refine bs ?_ (by first | exact Nat.le_refl _ | (dsimp only; omega) | (simp; done)) _ | refine bt ?_ (by assumption)))))
        (first
          | (go_at_call 14; refine (impl_ModulesOf _ fs (fun _ => True) _ (HF.out.below (bt X5.out.below (by (repeat (with_reducible first | exact Below.refl _ _ | assumption | refine ba ?_ _ | refine bd ?_ | refine bdN ?_ _ | refine bs ?_ (by first | exact Nat.le_refl _ | (dsimp only; omega) | (simp; done)) _ | refine bt ?_ (by assumption)))))) Hz2.out).mono ?_; rintro _ wM ⟨vM, rfl, hownM, hbM⟩; have HbM := Lib.hid (show Below w5.heap.size w5 wM by (repeat (with_reducible first | exact Below.refl _ _ | assumption | refine ba ?_ _ | refine bd ?_ | refine bdN ?_ _ | refine bs ?_ (by first | exact Nat.le_refl _ | (dsimp only; omega) | (simp; done)) _ | refine bt ?_ (by assumption)))); have HM := Lib.hid (owns_mono hownM (show w5.heap.size ≤ _ from (show Below w5.heap.size w5 _ by (repeat (with_reducible first | exact Below.refl _ _ | assumption | refine ba ?_ _ | refine bd ?_ | refine bdN ?_ _ | refine bs ?_ (by first | exact Nat.le_refl _ | (dsimp only; omega) | (simp; done)) _ | refine bt ?_ (by assumption)))).size)); (try have HP2 := Lib.hid (owns_below HPk.out hbM)); clear hownM)
          | (go_at_call 15; refine (impl_PackagesOf _ fs (fun _ => True) _ (HF.out.below (bt X5.out.below (by (repeat (with_reducible first | exact Below.refl _ _ | assumption | refine ba ?_ _ | refine bd ?_ | refine bdN ?_ _ | refine bs ?_ (by first | exact Nat.le_refl _ | (dsimp only; omega) | (simp; done)) _ | refine bt ?_ (by assumption)))))) Hz2.out).mono ?_; rintro _ wP ⟨vP, rfl, hownP, hbP⟩; have HbP := Lib.hid (show Below w5.heap.size w5 wP by (repeat (with_reducible first | exact Below.refl _ _ | assumption | refine ba ?_ _ | refine bd ?_ | refine bdN ?_ _ | refine bs ?_ (by first | exact Nat.le_refl _ | (dsimp only; omega) | (simp; done)) _ | refine bt ?_ (by assumption)))); have HPk := Lib.hid (owns_mono hownP (show w5.heap.size ≤ _ from (show Below w5.heap.size w5 _ by (repeat (with_reducible first | exact Below.refl _ _ | assumption | refine ba ?_ _ | refine bd ?_ | refine bdN ?_ _ | refine bs ?_ (by first | exact Nat.le_refl _ | (dsimp only; omega) | (simp; done)) _ | refine bt ?_ (by assumption)))).size)); (try have HM2 := Lib.hid (owns_below HM.out hbP)); clear hownP)
          | (refine step_append_two rfl (.tmp 41) (.tmp 43) rfl w5.heap.size w5.heap.size _ _ (modulesOf fs) (packagesOf fs) rfl (by first | exact HM2.out | exact HM.out) rfl (by first | exact HP2.out | exact HPk.out) (show Below w5.heap.size w5 _ by (repeat (with_reducible first | exact Below.refl _ _ | assumption | refine ba ?_ _ | refine bd ?_ | refine bdN ?_ _ | refine bs ?_ (by first | exact Nat.le_refl _ | (dsimp only; omega) | (simp; done)) _ | refine bt ?_ (by assumption)))).size (by omega) ?_; intro vA wA hownA hbA; have HA := Lib.hid hownA; have HbA := Lib.hid (show Below w5.heap.size w5 wA from Below.trans (by (repeat (with_reducible first | exact Below.refl _ _ | assumption | refine ba ?_ _ | refine bd ?_ | refine bdN ?_ _ | refine bs ?_ (by first | exact Nat.le_refl _ | (dsimp only; omega) | (simp; done)) _ | refine bt ?_ (by assumption)))) hbA); clear hownA))
      have R6 := Lib.hid (Reads.of_owns HA.out)
      obtain ⟨a6, c6, hv6⟩ := owns_shape HA.out
      subst hv6
      have X6 := Lib.hid (X5.out.step HbA.out)
      have RO := Lib.hid (Reads.below R2.out HbA.out)
      have hal : (modulesOf fs ++ packagesOf fs).length ≤ 1012 := by rw [List.length_append]; omega
      clear x5
      generalize modulesOf fs ++ packagesOf fs = ms at *
      generalize foundNames fs xs = os2 at *
      go_wp2_with fail
      go_loopw [7] (fun iv wr => ∃ k : Nat, k ≤ ms.length ∧ iv = .int .i64 k ∧ Boxed w1 #[.slice va fs.length vc] 25 wr ∧ Reads wr (.slice a2 os2.length c2) os2 ∧ Reads wr (.slice a6 ms.length c6) ms) (fun iv _ => ms.length - (intOf iv).toNat)
      case atStart => exact ⟨0, by omega, rfl, X6.out, RO.out, R6.out⟩
      case round =>
        obtain ⟨k, hk, rfl, hbx, hr, hn⟩ := hrel
        have XR := Lib.hid hbx
        have RR := Lib.hid hr
        have RA := Lib.hid hn
        have xr : wr.cell? ⟨w1.heap.size, 0, none⟩ = some (.slice va fs.length vc) := XR.out.cell 0
        clear hbx hr hn R6 RO R2
        by_cases hlt : k < ms.length
        · obtain ⟨b1, o1, c1, e1, _, _, hb1, hc1⟩ := Reads.some RA.out (by omega)
          simp only [Value.slice.injEq] at e1
          obtain ⟨rfl, _, rfl⟩ := e1
          have hcell := hc1 k hlt
          have hnl := Hvl.out _ (List.getElem_mem hlt)
          clear hc1
          generalize ms[k] = nm at *
          have Hin := Lib.hid (Hiff.out nm)
          have k0 := cell_regrown xr
          have k1 := cell_regrown hcell
          have hi1 : (k : Int) < (ms.length : Int) := by omega
          rcases (show canFind fs xs nm = true ∨ canFind fs xs nm = false by cases canFind fs xs nm <;> simp) with hck | hck
          · have Hck := Lib.hid hck
            clear hck
            have cH : ∀ d os, Calls Tryz.prog 16 #[.slice a2 os2.length c2, .string (mk nm)] (grow (redrawn wr d) os) fun e w'' => e = .returned (.bool true) ∧ ∃ p : Regrown, w'' = grow (redrawn wr p.d) p.os := fun d os =>
              Calls.regrown_of (by have h : Calls Tryz.prog 16 #[.slice a2 os2.length c2, .string (mk nm)] (grow (redrawn wr d) os) (fun e w' => e = .returned (.bool (decide (nm ∈ os2))) ∧ Below (grow (redrawn wr d) os).heap.size (grow (redrawn wr d) os) w') := (laws_hasText _ os2 nm (grow (redrawn wr d) os) (RR.out.below (below_regrown wr d os)) (by omega)).mono (fun _ _ h => ⟨h.1, by rw [← h.2]; exact Below.refl _ _⟩); rw [Hin.out, Hck.out] at h; exact h)
            have cC : ∀ d os, Calls Tryz.prog 17 #[.agg #[.slice va fs.length vc], .slice pa xs.length pc, .string (mk nm)] (grow (redrawn wr d) os) fun e w'' => e = .returned (.bool true) ∧ ∃ p : Regrown, w'' = grow (redrawn wr p.d) p.os := fun d os =>
              Calls.regrown_of (by have h := impl_CanFind _ fs (fun _ => True) _ xs nm (grow (redrawn wr d) os) (HF.out.below (bt XR.out.below (below_regrown wr d os))) Hz2.out (HP.out.below (bt XR.out.below (below_regrown wr d os))) (by omega); rw [Hck.out] at h; exact h)
            clear xr hcell
            go_wp2_with fail
            refine wp_region_quiet_below (by kernel_rfl) (by kernel_rfl) ?_
            repeat (go_big_quiet_step (first | exact cH _ _ | exact cC _ _))
            refine wpQuiet_nil ?_
            intro _ hw'
            obtain ⟨⟨dq, osq⟩, hw2⟩ := hw'
            subst hw2
            clear cH cC k0 k1
            have XR7 := Lib.hid (XR.out.step (below_regrown wr dq osq))
            have RR7 := Lib.hid (Reads.below RR.out (below_regrown wr dq osq))
            have RA7 := Lib.hid (Reads.below RA.out (below_regrown wr dq osq))
            go_wp2_with fail
            go_roundw
            case rel => exact ⟨k + 1, by omega, by go_num, XR7.out, RR7.out, RA7.out⟩
            case measure => simp [intOf]; omega
          · have Hck := Lib.hid hck
            clear hck
            have cH : ∀ d os, Calls Tryz.prog 16 #[.slice a2 os2.length c2, .string (mk nm)] (grow (redrawn wr d) os) fun e w'' => e = .returned (.bool false) ∧ ∃ p : Regrown, w'' = grow (redrawn wr p.d) p.os := fun d os =>
              Calls.regrown_of (by have h : Calls Tryz.prog 16 #[.slice a2 os2.length c2, .string (mk nm)] (grow (redrawn wr d) os) (fun e w' => e = .returned (.bool (decide (nm ∈ os2))) ∧ Below (grow (redrawn wr d) os).heap.size (grow (redrawn wr d) os) w') := (laws_hasText _ os2 nm (grow (redrawn wr d) os) (RR.out.below (below_regrown wr d os)) (by omega)).mono (fun _ _ h => ⟨h.1, by rw [← h.2]; exact Below.refl _ _⟩); rw [Hin.out, Hck.out] at h; exact h)
            have cC : ∀ d os, Calls Tryz.prog 17 #[.agg #[.slice va fs.length vc], .slice pa xs.length pc, .string (mk nm)] (grow (redrawn wr d) os) fun e w'' => e = .returned (.bool false) ∧ ∃ p : Regrown, w'' = grow (redrawn wr p.d) p.os := fun d os =>
              Calls.regrown_of (by have h := impl_CanFind _ fs (fun _ => True) _ xs nm (grow (redrawn wr d) os) (HF.out.below (bt XR.out.below (below_regrown wr d os))) Hz2.out (HP.out.below (bt XR.out.below (below_regrown wr d os))) (by omega); rw [Hck.out] at h; exact h)
            clear xr hcell
            go_wp2_with fail
            refine wp_region_quiet_below (by kernel_rfl) (by kernel_rfl) ?_
            repeat (go_big_quiet_step (first | exact cH _ _ | exact cC _ _))
            refine wpQuiet_nil ?_
            intro _ hw'
            obtain ⟨⟨dq, osq⟩, hw2⟩ := hw'
            subst hw2
            clear cH cC k0 k1
            have XR7 := Lib.hid (XR.out.step (below_regrown wr dq osq))
            have RR7 := Lib.hid (Reads.below RR.out (below_regrown wr dq osq))
            have RA7 := Lib.hid (Reads.below RA.out (below_regrown wr dq osq))
            go_wp2_with fail
            go_roundw
            case rel => exact ⟨k + 1, by omega, by go_num, XR7.out, RR7.out, RA7.out⟩
            case measure => simp [intOf]; omega
        · go_wp2_with fail
          refine (laws_rises _ os2 _ RR.out (by omega) Hup.out).mono ?_
          rintro _ w7 ⟨rfl, hb7⟩
          have X7 := Lib.hid (XR.out.step hb7)
          have RA7 := Lib.hid (Reads.below RA.out hb7)
          have RR7 := Lib.hid (Reads.below RR.out hb7)
          clear hb7 xr
          go_wp2_with fail
          refine (laws_withinTexts _ _ os2 ms _ RR7.out RA7.out (by omega) (by omega) Hwi.out).mono ?_
          rintro _ _ ⟨rfl, rfl⟩
          go_wp2_with fail
          go_ret
          exact ⟨rfl, bt Hb1.out X7.out.below⟩
    · have Hpo := Lib.hid hpo
      clear hok hpo
      go_wp2_with fail
      refine (impl_ValidTree _ fs (fun _ => True) _ (HF.out.below X4.out.below) Hz8.out).mono ?_
      rintro _ w5 ⟨rfl, hb5⟩
      rw [Hok.out]
      have X5 := Lib.hid (X4.out.step hb5)
      have x5 : w5.cell? ⟨w1.heap.size, 0, none⟩ = some (.slice va fs.length vc) := X5.out.cell 0
      have R2 := Lib.hid (Reads.below R2.out hb5)
      clear hb5 x4
      go_wp2_with fail
      refine (impl_ValidPath _ xs _ (HP.out.below X5.out.below)).mono ?_
      rintro _ _ ⟨rfl, rfl⟩
      rw [Hpo.out]
      go_wp2_with fail
      refine (spec_FoundNames _ fs (fun _ => True) _ xs _ (HF.out.below X5.out.below) Hz2.out (HP.out.below X5.out.below)).mono ?_
      rintro _ w6 ⟨v6, rfl, hown6, hb6⟩
      have R6 := Lib.hid (Reads.of_owns hown6)
      obtain ⟨a6, c6, rfl⟩ := owns_shape hown6
      have X6 := Lib.hid (X5.out.step hb6)
      have x6 : w6.cell? ⟨w1.heap.size, 0, none⟩ = some (.slice va fs.length vc) := X6.out.cell 0
      have R2 := Lib.hid (Reads.below R2.out hb6)
      clear hb6 hown6 x5
      go_wp2_with fail
      refine (laws_equalTexts _ _ _ _ _ R2.out R6.out (by have := found_len fs xs; omega) (by have := found_len fs xs; omega)).mono ?_
      rintro _ w7 ⟨rfl, hb7⟩
      rw [decide_eq_true rfl]
      have X7 := Lib.hid (X6.out.step hb7)
      have x7 : w7.cell? ⟨w1.heap.size, 0, none⟩ = some (.slice va fs.length vc) := X7.out.cell 0
      clear hb7 x6
      go_wp2_with fail
      go_ret
      exact ⟨rfl, bt Hb1.out X7.out.below⟩
  · have Hok := Lib.hid hok
    clear hok
    go_wp2_with fail
    refine (impl_ValidTree _ fs (fun _ => True) _ (HF.out.below X4.out.below) Hz8.out).mono ?_
    rintro _ w5 ⟨rfl, hb5⟩
    rw [Hok.out]
    have X5 := Lib.hid (X4.out.step hb5)
    have x5 : w5.cell? ⟨w1.heap.size, 0, none⟩ = some (.slice va fs.length vc) := X5.out.cell 0
    have R2 := Lib.hid (Reads.below R2.out hb5)
    clear hb5 x4
    go_wp2_with fail
    refine (spec_FoundNames _ fs (fun _ => True) _ xs _ (HF.out.below X5.out.below) Hz2.out (HP.out.below X5.out.below)).mono ?_
    rintro _ w6 ⟨v6, rfl, hown6, hb6⟩
    have R6 := Lib.hid (Reads.of_owns hown6)
    obtain ⟨a6, c6, rfl⟩ := owns_shape hown6
    have X6 := Lib.hid (X5.out.step hb6)
    have x6 : w6.cell? ⟨w1.heap.size, 0, none⟩ = some (.slice va fs.length vc) := X6.out.cell 0
    have R2 := Lib.hid (Reads.below R2.out hb6)
    clear hb6 hown6 x5
    go_wp2_with fail
    refine (laws_equalTexts _ _ _ _ _ R2.out R6.out (by have := found_len fs xs; omega) (by have := found_len fs xs; omega)).mono ?_
    rintro _ w7 ⟨rfl, hb7⟩
    rw [decide_eq_true rfl]
    have X7 := Lib.hid (X6.out.step hb7)
    have x7 : w7.cell? ⟨w1.heap.size, 0, none⟩ = some (.slice va fs.length vc) := X7.out.cell 0
    clear hb7 x6
    go_wp2_with fail
    go_ret
    exact ⟨rfl, bt Hb1.out X7.out.below⟩

/-! ### THE STEP TO THE ROW -/
set_option maxRecDepth 100000 in
theorem lifted (os : Os) (started : os.Started) (H : Type) (enc : TypeId × Value → H) :
    ReturnsInHanded {} Tryz.checked os 3 .any (Rows.fnFoundNamesSpec.pre6 enc Tryz.prog Tryz.f3 Rows.fnFoundNamesRow.domain false) (Rows.fnFoundNamesSpec.post enc Tryz.prog Tryz.f3 false true false false) := by
  refine returnsInHanded_of_change (C := Tryz.checked) own started (by kernel_rfl) Tryz.func3
    (ChangeSpec.witness6 (enc := enc) (C := Tryz.checked) false ⟨#[], #[.slice none 0 0], []⟩ 8 (by kernel_rfl) (by kernel_rfl) (by kernel_rfl) (by kernel_rfl)) ?_
  intro W base args ds gs before hval0 hW hcnd _
  have hval : ∀ (j : Nat) t v, Tryz.f3.params[j]? = some t → args[j]? = some v → Value.okWide Tryz.prog W .any base t v := hval0
  have hW' := hW
  obtain ⟨p, q, hA0, hV, rfl, hfz, hnd⟩ := hW
  have hA : DataW.TrodAll enc Tryz.prog W 0 (fun _ => true) true Tryz.f3.params.toList args.toList ds p := hA0
  rw [Tryz.params3] at hA hval
  obtain ⟨v0, vs0, d0, ds0, p0, q0, hargs, rfl, rfl, h0, r0⟩ := trodAll_cons hA
  obtain ⟨rfl, rfl, rfl⟩ := trodAll_nil r0
  obtain rfl : args = #[v0] := by cases args; simp_all
  obtain ⟨rfl, rfl⟩ := trodVars_none hV
  obtain ⟨a0, len0, cap0, rfl⟩ := okWide_slice Tryz.underlying22 (hval 0 22 v0 rfl rfl)
  have k0 := h0
  have lt0 : ∀ x ∈ p0, x.block < W.heap.size := by obtain ⟨m, hm⟩ := k0; exact DataW.trod_lt m _ _ _ hm
  have w0 : Code W W.heap.size a0 len0 cap0 := by
    obtain ⟨fuel, hf⟩ := h0
    rcases open_ints Tryz.underlying22 Tryz.underlying5 (by kernel_rfl) hf with ⟨hcs, _⟩ | ⟨x, l, c, zs, hcs, _, hl, hm, hz, _, hcell, hwz⟩
    · simp [Value.cells] at hcs
      obtain ⟨rfl, rfl, rfl⟩ := hcs
      exact .inl ⟨rfl, by unfold maxLen; omega⟩
    · simp [Value.cells] at hcs
      obtain ⟨rfl, rfl, rfl⟩ := hcs
      exact code_row W _ _ _ zs hl hm (by simpa using hz) hcell hwz
  clear hA0 hval0
  refine (walk a0 len0 cap0 W w0).mono fun e W' ⟨he, bel⟩ => ?_
  subst he
  exact ⟨_, rfl, _, _, _, [], _, [], hW', trodAll_mk1 (shut_bool Tryz.underlying4 _), (trodAll_cons_mk (Below.trod laidOut (by kernel_rfl) (of_decide_eq_true (by kernel_rfl)) k0 bel lt0) trodAll_mk0), rfl, bel.frame _, fun h => by cases h⟩

theorem over : Rows.fnFoundNamesRow.holds Tryz.pinned (OpenSpec.ofChange Rows.fnFoundNamesSpec) :=
  OpenClaim.holds_of_wide 3 Tryz.f3 rfl rfl rfl rfl rfl rfl rfl ⟨rfl, rfl, rfl, rfl, rfl⟩ rfl rfl rfl rfl rfl (by kernel_rfl) Tryz.func3 (by kernel_rfl)
    (of_decide_eq_true (by kernel_rfl)) (by unfold Func.isWrapper; first | (rw [if_pos (by decide +kernel)]; kernel_rfl) | (rw [if_neg (by decide +kernel)]; exact ⟨rfl, rfl⟩))
    (fun os started H enc _ => lifted os started H enc)

/-- THE STATEMENT -/
theorem proved : Rows.FnFoundNamesSaid := over
end Go.Proofs.YtggkkehmhapomaaGreat.FnFoundNames
