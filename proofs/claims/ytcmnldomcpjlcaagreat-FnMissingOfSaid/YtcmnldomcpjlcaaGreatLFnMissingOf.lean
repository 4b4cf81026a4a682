/- FnMissingOf returns true for every code. Written by mkp7.py. -/
import Derived.Test.YtcmnldomcpjlcaaGreatDrawZ

import Derived.Test.YtcmnldomcpjlcaaGreatLooks
import Derived.Test.YtcmnldomcpjlcaaGreatMiss
import Derived.Test.YtcmnldomcpjlcaaGreatTrees
import Derived.Test.YtcmnldomcpjlcaaGreatTexts
import Derived.Test.YtcmnldomcpjlcaaGreatTexts
import Derived.Test.YtcmnldomcpjlcaaGreatFrame
import Derived.Test.YtcmnldomcpjlcaaGreatFacts
import Derived.Deep.RegionHeld3
set_option linter.unusedVariables false
set_option linter.unusedSimpArgs false
namespace Go.Proofs.YtcmnldomcpjlcaaGreat.FnMissingOf
open Go.Sort Go.ChangeShapes Go.WideShapes Go.ChangeAt Go.RowKit Go.Proofs.YtcmnldomcpjlcaaGreat.Nm

set_option maxRecDepth 100000 in
set_option maxHeartbeats 8000000 in
theorem walk (a : Option Addr) (n cap : Nat) (w : World) (hc : Code w w.heap.size a n cap) :
    Calls Tryz.prog 9 #[.slice a n cap] w fun e w' => e = .returned (.bool true) ∧ Below w.heap.size w w' := by
  by_cases hn : (1048576 : Int) < (n : Int)
  · go_enter Tryz.func9, Tryz.ntmps9
    go_wp2_with fail
    go_ret
    exact ⟨rfl, Below.refl _ _⟩
  have Hc := Lib.hid hc
  clear hc
  have hf0 := fld0
  have hf1 := fld1
  go_enter Tryz.func9, Tryz.ntmps9
  go_wp2_with fail
  refine (spec_DrawMissingOf a n cap w Hc.out).mono ?_
  rintro e w1 ⟨v, ps, pv, xs, s, rfl, ⟨hrows, hsh, hl, hb5, hb1⟩, hp, hx3, hs17⟩
  obtain ⟨va, vc, rfl⟩ := hrows.len
  have HR := Lib.hid hrows
  obtain ⟨fs, hfs⟩ : ∃ fs, fs = ps.map (·.1) := ⟨_, rfl⟩
  have Hfs := Lib.hid hfs
  have hfl : fs.length = ps.length := by rw [hfs, List.length_map]
  have HF := Lib.hid (show FilsIn w1 (fun _ => True) (.slice va ps.length vc) fs by rw [hfs]; exact hrows.fils)
  have Hz8 := Lib.hid (show ShortT 8000000 fs by rw [hfs]; exact shortT_mono (by omega) hsh)
  have Hz2 := Lib.hid (show ShortT 2000000 fs by rw [hfs]; exact shortT_mono (by omega) hsh)
  have Hb1 := Lib.hid hb1
  have B0 := Nm.Boxed.start w1 #[.slice va ps.length vc] 31
  have hl11 : fs.length ≤ 11 := by omega
  clear hrows hsh hb5 hb1 hfs
  generalize ps.length = pn at *
  subst hfl
  have X1 := Lib.hid B0
  clear B0
  obtain ⟨pa, pc, rfl⟩ := hp.len
  have HP := Lib.hid hp.ints
  clear hp
  obtain ⟨ns, hns⟩ : ∃ x, x = missingOf fs xs s := ⟨_, rfl⟩
  have hnl : ns.length ≤ 300 := by rw [hns]; exact Nat.le_trans (List.length_filter_le _ _) (reachOf_facts _ _ _).1
  have Hns := Lib.hid hns
  clear hns
  go_wp2_with fail
  refine (impl_MissingOf _ fs (fun _ => True) _ xs s _ (HF.out.below X1.out.below) Hz2.out (HP.out.below X1.out.below) (by omega)).mono ?_
  rintro _ w2 ⟨v2, rfl, hown2, hb2⟩
  rw [← Hns.out] at hown2
  have R2 := Lib.hid (Reads.of_owns hown2)
  obtain ⟨a2, c2, rfl⟩ := owns_shape hown2
  have X2 := Lib.hid (X1.out.step hb2)
  have x2 : w2.cell? ⟨w1.heap.size, 0, none⟩ = some (.slice va fs.length vc) := X2.out.cell 0
  clear hb2 hown2
  go_wp2_with fail
  refine (spec_MissingOf _ fs (fun _ => True) _ xs s _ (HF.out.below X2.out.below) Hz2.out (HP.out.below X2.out.below) (by omega)).mono ?_
  rintro _ w3 ⟨v3, rfl, hown3, hb3⟩
  rw [← Hns.out] at hown3
  have R3 := Lib.hid (Reads.of_owns hown3)
  obtain ⟨a3, c3, rfl⟩ := owns_shape hown3
  have X3 := Lib.hid (X2.out.step hb3)
  have x3 : w3.cell? ⟨w1.heap.size, 0, none⟩ = some (.slice va fs.length vc) := X3.out.cell 0
  have R2 := Lib.hid (Reads.below R2.out hb3)
  clear hb3 hown3 x2
  go_wp2_with fail
  refine (laws_equalTexts _ _ ns ns _ R2.out R3.out (by omega) (by omega)).mono ?_
  rintro _ w4 ⟨rfl, hb4⟩
  rw [decide_eq_true rfl]
  have X4 := Lib.hid (X3.out.step hb4)
  have x4 : w4.cell? ⟨w1.heap.size, 0, none⟩ = some (.slice va fs.length vc) := X4.out.cell 0
  have R2 := Lib.hid (Reads.below R2.out hb4)
  clear hb4 x3
  rcases (show okTree fs = true ∨ okTree fs = false by cases okTree fs <;> simp) with hok | hok
  · have Hok := Lib.hid hok
    rcases (show okPath xs = true ∨ okPath xs = false by cases okPath xs <;> simp) with hpo | hpo
    · have Hpo := Lib.hid hpo
      rcases (show vn s = true ∨ vn s = false by cases vn s <;> simp) with hvo | hvo
      · have Hvo := Lib.hid hvo
        have Hlo := Lib.hid (okLook_of hok hpo)
        clear hok hpo hvo
        go_wp2_with fail
        refine (impl_ValidTree _ fs (fun _ => True) _ (HF.out.below X4.out.below) Hz8.out).mono ?_
        rintro _ w5 ⟨rfl, hb5⟩
        rw [Hok.out]
        have X5 := Lib.hid (X4.out.step hb5)
        have x5 : w5.cell? ⟨w1.heap.size, 0, none⟩ = some (.slice va fs.length vc) := X5.out.cell 0
        have R2 := Lib.hid (Reads.below R2.out hb5)
        clear hb5 x4
        go_wp2_with fail
        refine (impl_ValidPath _ xs _ (HP.out.below X5.out.below)).mono ?_
        rintro _ _ ⟨rfl, rfl⟩
        rw [Hpo.out]
        go_wp2_with fail
        refine (impl_ValidName s _ (by omega)).mono ?_
        rintro _ w6 ⟨rfl, hb6⟩
        rw [Hvo.out]
        have X6 := Lib.hid (X5.out.step hb6)
        have x6 : w6.cell? ⟨w1.heap.size, 0, none⟩ = some (.slice va fs.length vc) := X6.out.cell 0
        have R2 := Lib.hid (Reads.below R2.out hb6)
        clear hb6 x5
        have hL300 := (reachOf_facts fs xs s).1
        have Hvs := Lib.hid (show ∀ x ∈ reachOf fs xs s, x.length ≤ 8000000 from fun x hx => Nat.le_trans (vn_len ((reachOf_facts fs xs s).2.1 x hx)) (by omega))
        have Hiff := Lib.hid (show ∀ x ∈ reachOf fs xs s, decide (x ∈ ns) = !canFind fs xs x from fun x hx => by
          rw [Hns.out, Bool.eq_iff_iff]; unfold missingOf canFind findSpec; rw [if_pos Hlo.out]; simp [hx])
        have Hup := Lib.hid (show Up ns by rw [Hns.out]; exact up_filter _ (reachOf_up fs xs s))
        have Hwi := Lib.hid (show ∀ x ∈ ns, x ∈ reachOf fs xs s by rw [Hns.out]; exact fun x hx => (List.mem_filter.1 hx).1)
        generalize hLL : reachOf fs xs s = L at *
        have HLL := Lib.hid hLL
        clear hLL
        go_wp2_with fail
        refine (impl_ReachOf _ fs (fun _ => True) _ xs s _ (HF.out.below X6.out.below) Hz2.out (HP.out.below X6.out.below) (by omega)).mono ?_
        rintro _ w7 ⟨v7, rfl, hown7, hb7⟩
        rw [HLL.out] at hown7
        have R7 := Lib.hid (Reads.of_owns hown7)
        obtain ⟨a7, c7, rfl⟩ := owns_shape hown7
        have X7 := Lib.hid (X6.out.step hb7)
        have R2 := Lib.hid (Reads.below R2.out hb7)
        clear hb7 hown7 x6
        go_wp2_with fail
        go_loopw [8] (fun iv wr => ∃ k : Nat, k ≤ L.length ∧ iv = .int .i64 k ∧ Nm.Boxed w1 #[.slice va fs.length vc] 31 wr ∧ Reads wr (.slice a2 ns.length c2) ns ∧ Reads wr (.slice a7 L.length c7) L) (fun iv _ => L.length - (intOf iv).toNat)
        case atStart => exact ⟨0, by omega, rfl, X7.out, R2.out, R7.out⟩
        case round =>
          obtain ⟨k, hk, rfl, hbx, hrd, hrl⟩ := hrel
          have XR := Lib.hid hbx
          have RR := Lib.hid hrd
          have RL := Lib.hid hrl
          have xr : wr.cell? ⟨w1.heap.size, 0, none⟩ = some (.slice va fs.length vc) := XR.out.cell 0
          have lr := XR.out.lt
          clear hbx hrd hrl R2 R7
          by_cases hlt : k < L.length
          · obtain ⟨gl, ol, cl, el, _, _, hgs, hcl⟩ := Reads.some RL.out (by omega)
            simp only [Value.slice.injEq] at el
            obtain ⟨rfl, _, rfl⟩ := el
            have hcell := hcl k hlt
            have hk1 : (k : Int) < (L.length : Int) := by omega
            have hk0' : (0 : Int) ≤ (k : Int) := by omega
            clear hcl
            have hnl8 := Hvs.out _ (List.getElem_mem hlt)
            have Hnm0 := Lib.hid (Hiff.out _ (List.getElem_mem hlt))
            generalize L[k] = nm at *
            have Hk := Lib.hid (fun (w' : World) (hC : Below wr.heap.size wr w') => (⟨(hC.cell (p := ⟨w1.heap.size, 0, none⟩) lr).trans xr, (hC.cell (p := ⟨gl, ol + k, none⟩) hgs).trans hcell, hC⟩ : w'.cell? ⟨w1.heap.size, 0, none⟩ = some (.slice va fs.length vc) ∧ w'.cell? ⟨gl, ol + k, none⟩ = some (.string (mk nm)) ∧ Below wr.heap.size wr w'))
            rcases (show canFind fs xs nm = true ∨ canFind fs xs nm = false by cases canFind fs xs nm <;> simp) with hc | hc
            · have Hnm := Lib.hid (show decide (nm ∈ ns) = false ∧ canFind fs xs nm = true from ⟨by rw [Hnm0.out, hc]; rfl, hc⟩)
              clear hc Hnm0
              have Hpa := Lib.hid (show decide (nm ∈ ns) = false from Hnm.out.1)
              have Hcf := Lib.hid (show canFind fs xs nm = true from Hnm.out.2)
              go_wp2_with fail
              go_region_held3 (fun w' => w'.cell? ⟨w1.heap.size, 0, none⟩ = some (.slice va fs.length vc) ∧ w'.cell? ⟨gl, ol + k, none⟩ = some (.string (mk nm)) ∧ Below wr.heap.size wr w')
                (first | exact Hk.out _ Hb9.out | exact Hk.out _ (by (repeat (with_reducible first | exact Below.refl _ _ | assumption | refine ba ?_ _ | refine bd ?_ | refine bdN ?_ _ | refine bs ?_ (by first | exact Nat.le_refl _ | (dsimp only; omega) | (simp; done)) _ | refine bt ?_ (by assumption)))))
                (first
                  | (go_at_call 50; refine (laws_hasText _ ns nm _ (Reads.below RR.out (by first | exact Hb9.out | (repeat (with_reducible first | exact Below.refl _ _ | assumption | refine ba ?_ _ | refine bd ?_ | refine bdN ?_ _ | refine bs ?_ (by first | exact Nat.le_refl _ | (dsimp only; omega) | (simp; done)) _ | refine bt ?_ (by assumption))))) (by omega)).mono ?_; rintro _ _ ⟨rfl, rfl⟩; rw [Hpa.out])
                  | (go_at_call 41; refine (impl_CanFind _ fs (fun _ => True) _ xs nm _ (HF.out.below (bt XR.out.below (by (repeat (with_reducible first | exact Below.refl _ _ | assumption | refine ba ?_ _ | refine bd ?_ | refine bdN ?_ _ | refine bs ?_ (by first | exact Nat.le_refl _ | (dsimp only; omega) | (simp; done)) _ | refine bt ?_ (by assumption)))))) Hz2.out (HP.out.below (bt XR.out.below (by (repeat (with_reducible first | exact Below.refl _ _ | assumption | refine ba ?_ _ | refine bd ?_ | refine bdN ?_ _ | refine bs ?_ (by first | exact Nat.le_refl _ | (dsimp only; omega) | (simp; done)) _ | refine bt ?_ (by assumption)))))) (by omega)).mono ?_; rintro _ w9 ⟨rfl, hb9⟩; rw [Hcf.out]; have Hb9 := Lib.hid (show Below wr.heap.size wr w9 by (repeat (with_reducible first | exact Below.refl _ _ | assumption | refine ba ?_ _ | refine bd ?_ | refine bdN ?_ _ | refine bs ?_ (by first | exact Nat.le_refl _ | (dsimp only; omega) | (simp; done)) _ | refine bt ?_ (by assumption)))); clear hb9))
              all_goals
                have hb9 : Below wr.heap.size wr w9 := Hb9.out
                go_wp2_with fail
                go_roundw
                case rel => exact ⟨k + 1, by omega, by go_num, XR.out.step hb9, Reads.below RR.out hb9, Reads.below RL.out hb9⟩
                case measure => simp [intOf]; omega
            · have Hnm := Lib.hid (show decide (nm ∈ ns) = true ∧ canFind fs xs nm = false from ⟨by rw [Hnm0.out, hc]; rfl, hc⟩)
              clear hc Hnm0
              have Hpa := Lib.hid (show decide (nm ∈ ns) = true from Hnm.out.1)
              have Hcf := Lib.hid (show canFind fs xs nm = false from Hnm.out.2)
              go_wp2_with fail
              go_region_held3 (fun w' => w'.cell? ⟨w1.heap.size, 0, none⟩ = some (.slice va fs.length vc) ∧ w'.cell? ⟨gl, ol + k, none⟩ = some (.string (mk nm)) ∧ Below wr.heap.size wr w')
                (first | exact Hk.out _ Hb9.out | exact Hk.out _ (by (repeat (with_reducible first | exact Below.refl _ _ | assumption | refine ba ?_ _ | refine bd ?_ | refine bdN ?_ _ | refine bs ?_ (by first | exact Nat.le_refl _ | (dsimp only; omega) | (simp; done)) _ | refine bt ?_ (by assumption)))))
                (first
                  | (go_at_call 50; refine (laws_hasText _ ns nm _ (Reads.below RR.out (by first | exact Hb9.out | (repeat (with_reducible first | exact Below.refl _ _ | assumption | refine ba ?_ _ | refine bd ?_ | refine bdN ?_ _ | refine bs ?_ (by first | exact Nat.le_refl _ | (dsimp only; omega) | (simp; done)) _ | refine bt ?_ (by assumption))))) (by omega)).mono ?_; rintro _ _ ⟨rfl, rfl⟩; rw [Hpa.out])
                  | (go_at_call 41; refine (impl_CanFind _ fs (fun _ => True) _ xs nm _ (HF.out.below (bt XR.out.below (by (repeat (with_reducible first | exact Below.refl _ _ | assumption | refine ba ?_ _ | refine bd ?_ | refine bdN ?_ _ | refine bs ?_ (by first | exact Nat.le_refl _ | (dsimp only; omega) | (simp; done)) _ | refine bt ?_ (by assumption)))))) Hz2.out (HP.out.below (bt XR.out.below (by (repeat (with_reducible first | exact Below.refl _ _ | assumption | refine ba ?_ _ | refine bd ?_ | refine bdN ?_ _ | refine bs ?_ (by first | exact Nat.le_refl _ | (dsimp only; omega) | (simp; done)) _ | refine bt ?_ (by assumption)))))) (by omega)).mono ?_; rintro _ w9 ⟨rfl, hb9⟩; rw [Hcf.out]; have Hb9 := Lib.hid (show Below wr.heap.size wr w9 by (repeat (with_reducible first | exact Below.refl _ _ | assumption | refine ba ?_ _ | refine bd ?_ | refine bdN ?_ _ | refine bs ?_ (by first | exact Nat.le_refl _ | (dsimp only; omega) | (simp; done)) _ | refine bt ?_ (by assumption)))); clear hb9))
              all_goals
                have hb9 : Below wr.heap.size wr w9 := Hb9.out
                go_wp2_with fail
                go_roundw
                case rel => exact ⟨k + 1, by omega, by go_num, XR.out.step hb9, Reads.below RR.out hb9, Reads.below RL.out hb9⟩
                case measure => simp [intOf]; omega
          · go_wp2_with fail
            refine (laws_rises _ ns _ RR.out (by omega) Hup.out).mono ?_
            rintro _ w8 ⟨rfl, hb8⟩
            have X8 := Lib.hid (XR.out.step hb8)
            have RL8 := Lib.hid (Reads.below RL.out hb8)
            have RR8 := Lib.hid (Reads.below RR.out hb8)
            clear hb8 xr
            go_wp2_with fail
            refine (laws_withinTexts _ _ ns L _ RR8.out RL8.out (by omega) (by omega) Hwi.out).mono ?_
            rintro _ _ ⟨rfl, rfl⟩
            go_wp2_with fail
            go_ret
            exact ⟨rfl, bt Hb1.out X8.out.below⟩
      · have Hvo := Lib.hid hvo
        clear hok hpo hvo
        go_wp2_with fail
        refine (impl_ValidTree _ fs (fun _ => True) _ (HF.out.below X4.out.below) Hz8.out).mono ?_
        rintro _ w5 ⟨rfl, hb5⟩
        rw [Hok.out]
        have X5 := Lib.hid (X4.out.step hb5)
        have x5 : w5.cell? ⟨w1.heap.size, 0, none⟩ = some (.slice va fs.length vc) := X5.out.cell 0
        have R2 := Lib.hid (Reads.below R2.out hb5)
        clear hb5 x4
        go_wp2_with fail
        refine (impl_ValidPath _ xs _ (HP.out.below X5.out.below)).mono ?_
        rintro _ _ ⟨rfl, rfl⟩
        rw [Hpo.out]
        go_wp2_with fail
        refine (impl_ValidName s _ (by omega)).mono ?_
        rintro _ w6 ⟨rfl, hb6⟩
        rw [Hvo.out]
        have X6 := Lib.hid (X5.out.step hb6)
        have x6 : w6.cell? ⟨w1.heap.size, 0, none⟩ = some (.slice va fs.length vc) := X6.out.cell 0
        have R2 := Lib.hid (Reads.below R2.out hb6)
        clear hb6 x5
        go_wp2_with fail
        refine (spec_MissingOf _ fs (fun _ => True) _ xs s _ (HF.out.below X6.out.below) Hz2.out (HP.out.below X6.out.below) (by omega)).mono ?_
        rintro _ w7 ⟨v7, rfl, hown7, hb7⟩
        rw [← Hns.out] at hown7
        have R7 := Lib.hid (Reads.of_owns hown7)
        obtain ⟨a7, c7, rfl⟩ := owns_shape hown7
        have X7 := Lib.hid (X6.out.step hb7)
        have R2 := Lib.hid (Reads.below R2.out hb7)
        clear hb7 hown7 x6
        go_wp2_with fail
        refine (laws_equalTexts _ _ ns ns _ R2.out R7.out (by omega) (by omega)).mono ?_
        rintro _ w8 ⟨rfl, hb8⟩
        rw [decide_eq_true rfl]
        have X8 := Lib.hid (X7.out.step hb8)
        clear hb8
        go_wp2_with fail
        go_ret
        exact ⟨rfl, bt Hb1.out X8.out.below⟩
    · have Hpo := Lib.hid hpo
      clear hok hpo
      go_wp2_with fail
      refine (impl_ValidTree _ fs (fun _ => True) _ (HF.out.below X4.out.below) Hz8.out).mono ?_
      rintro _ w5 ⟨rfl, hb5⟩
      rw [Hok.out]
      have X5 := Lib.hid (X4.out.step hb5)
      have x5 : w5.cell? ⟨w1.heap.size, 0, none⟩ = some (.slice va fs.length vc) := X5.out.cell 0
      have R2 := Lib.hid (Reads.below R2.out hb5)
      clear hb5 x4
      go_wp2_with fail
      refine (impl_ValidPath _ xs _ (HP.out.below X5.out.below)).mono ?_
      rintro _ _ ⟨rfl, rfl⟩
      rw [Hpo.out]
      go_wp2_with fail
      refine (spec_MissingOf _ fs (fun _ => True) _ xs s _ (HF.out.below X5.out.below) Hz2.out (HP.out.below X5.out.below) (by omega)).mono ?_
      rintro _ w6 ⟨v6, rfl, hown6, hb6⟩
      rw [← Hns.out] at hown6
      have R6 := Lib.hid (Reads.of_owns hown6)
      obtain ⟨a6, c6, rfl⟩ := owns_shape hown6
      have X6 := Lib.hid (X5.out.step hb6)
      have R2 := Lib.hid (Reads.below R2.out hb6)
      clear hb6 hown6 x5
      go_wp2_with fail
      refine (laws_equalTexts _ _ ns ns _ R2.out R6.out (by omega) (by omega)).mono ?_
      rintro _ w7 ⟨rfl, hb7⟩
      rw [decide_eq_true rfl]
      have X7 := Lib.hid (X6.out.step hb7)
      clear hb7
      go_wp2_with fail
      go_ret
      exact ⟨rfl, bt Hb1.out X7.out.below⟩
  · have Hok := Lib.hid hok
    clear hok
    go_wp2_with fail
    refine (impl_ValidTree _ fs (fun _ => True) _ (HF.out.below X4.out.below) Hz8.out).mono ?_
    rintro _ w5 ⟨rfl, hb5⟩
    rw [Hok.out]
    have X5 := Lib.hid (X4.out.step hb5)
    have x5 : w5.cell? ⟨w1.heap.size, 0, none⟩ = some (.slice va fs.length vc) := X5.out.cell 0
    have R2 := Lib.hid (Reads.below R2.out hb5)
    clear hb5 x4
    go_wp2_with fail
    refine (spec_MissingOf _ fs (fun _ => True) _ xs s _ (HF.out.below X5.out.below) Hz2.out (HP.out.below X5.out.below) (by omega)).mono ?_
    rintro _ w6 ⟨v6, rfl, hown6, hb6⟩
    rw [← Hns.out] at hown6
    have R6 := Lib.hid (Reads.of_owns hown6)
    obtain ⟨a6, c6, rfl⟩ := owns_shape hown6
    have X6 := Lib.hid (X5.out.step hb6)
    have R2 := Lib.hid (Reads.below R2.out hb6)
    clear hb6 hown6 x5
    go_wp2_with fail
    refine (laws_equalTexts _ _ ns ns _ R2.out R6.out (by omega) (by omega)).mono ?_
    rintro _ w7 ⟨rfl, hb7⟩
    rw [decide_eq_true rfl]
    have X7 := Lib.hid (X6.out.step hb7)
    clear hb7
    go_wp2_with fail
    go_ret
    exact ⟨rfl, bt Hb1.out X7.out.below⟩

/-! ### THE STEP TO THE ROW -/
set_option maxRecDepth 100000 in
theorem lifted (os : Os) (started : os.Started) (H : Type) (enc : TypeId × Value → H) :
    ReturnsInHanded {} Tryz.checked os 9 .any (Rows.fnMissingOfSpec.pre6 enc Tryz.prog Tryz.f9 Rows.fnMissingOfRow.domain false) (Rows.fnMissingOfSpec.post enc Tryz.prog Tryz.f9 false true false false) := by
  refine returnsInHanded_of_change (C := Tryz.checked) own started (by kernel_rfl) Tryz.func9
    (ChangeSpec.witness6 (enc := enc) (C := Tryz.checked) false ⟨#[], #[.slice none 0 0], []⟩ 8 (by kernel_rfl) (by kernel_rfl) (by kernel_rfl) (by kernel_rfl)) ?_
  intro W base args ds gs before hval0 hW hcnd _
  have hval : ∀ (j : Nat) t v, Tryz.f9.params[j]? = some t → args[j]? = some v → Value.okWide Tryz.prog W .any base t v := hval0
  have hW' := hW
  obtain ⟨p, q, hA0, hV, rfl, hfz, hnd⟩ := hW
  have hA : DataW.TrodAll enc Tryz.prog W 0 (fun _ => true) true Tryz.f9.params.toList args.toList ds p := hA0
  rw [Tryz.params9] at hA hval
  obtain ⟨v0, vs0, d0, ds0, p0, q0, hargs, rfl, rfl, h0, r0⟩ := trodAll_cons hA
  obtain ⟨rfl, rfl, rfl⟩ := trodAll_nil r0
  obtain rfl : args = #[v0] := by cases args; simp_all
  obtain ⟨rfl, rfl⟩ := trodVars_none hV
  obtain ⟨a0, len0, cap0, rfl⟩ := okWide_slice Tryz.underlying48 (hval 0 48 v0 rfl rfl)
  have k0 := h0
  have lt0 : ∀ x ∈ p0, x.block < W.heap.size := by obtain ⟨m, hm⟩ := k0; exact DataW.trod_lt m _ _ _ hm
  have w0 : Code W W.heap.size a0 len0 cap0 := by
    obtain ⟨fuel, hf⟩ := h0
    rcases open_ints Tryz.underlying48 Tryz.underlying5 (by kernel_rfl) hf with ⟨hcs, _⟩ | ⟨x, l, c, zs, hcs, _, hl, hm, hz, _, hcell, hwz⟩
    · simp [Value.cells] at hcs
      obtain ⟨rfl, rfl, rfl⟩ := hcs
      exact .inl ⟨rfl, by unfold maxLen; omega⟩
    · simp [Value.cells] at hcs
      obtain ⟨rfl, rfl, rfl⟩ := hcs
      exact code_row W _ _ _ zs hl hm (by simpa using hz) hcell hwz
  clear hA0 hval0
  refine (walk a0 len0 cap0 W w0).mono fun e W' ⟨he, bel⟩ => ?_
  subst he
  exact ⟨_, rfl, _, _, _, [], _, [], hW', trodAll_mk1 (shut_bool Tryz.underlying4 _), (trodAll_cons_mk (Below.trod laidOut (by kernel_rfl) (of_decide_eq_true (by kernel_rfl)) k0 bel lt0) trodAll_mk0), rfl, bel.frame _, fun h => by cases h⟩

set_option maxRecDepth 100000 in
set_option maxHeartbeats 16000000 in
theorem closed : joinedFacts Tryz.pinned.checked.prog 9 Tryz.f9 Rows.fnMissingOfSpec Rows.fnMissingOfRow = true := by
  unfold joinedFacts
  simp only [Bool.and_eq_true]
  with_reducible repeat' apply And.intro
  rotate_left 25
  exact Facts.enter
  exact Facts.lifts
  exact Facts.make
  all_goals as_aux_lemma => exact of_decide_eq_true (by kernel_rfl)

theorem over : Rows.fnMissingOfRow.holds Tryz.pinned (OpenSpec.ofChange Rows.fnMissingOfSpec) :=
  OpenClaim.holds_of_wide 9 Tryz.f9 rfl rfl rfl rfl rfl rfl rfl ⟨rfl, rfl, rfl, rfl, rfl⟩ rfl rfl rfl rfl rfl (by kernel_rfl) Tryz.func9 closed
    (of_decide_eq_true (by kernel_rfl)) (by unfold Func.isWrapper; first | (rw [if_pos (by decide +kernel)]; kernel_rfl) | (rw [if_neg (by decide +kernel)]; exact ⟨rfl, rfl⟩))
    (fun os started H enc _ => lifted os started H enc)

/-- THE STATEMENT -/
theorem proved : Rows.FnMissingOfSaid := over
end Go.Proofs.YtcmnldomcpjlcaaGreat.FnMissingOf
