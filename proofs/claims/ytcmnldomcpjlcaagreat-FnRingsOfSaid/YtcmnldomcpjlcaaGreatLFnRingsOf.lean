/- FnRingsOf returns true for every code. Written by mkp7.py. -/
import Derived.Test.YtcmnldomcpjlcaaGreatDrawZ

import Derived.Test.YtcmnldomcpjlcaaGreatLooks
import Derived.Test.YtcmnldomcpjlcaaGreatMiss
import Derived.Test.YtcmnldomcpjlcaaGreatTrees
import Derived.Test.YtcmnldomcpjlcaaGreatTexts
import Derived.Deep.DeepCutAuto
import Derived.Deep.CutBlock
import Derived.Test.YtcmnldomcpjlcaaGreatFrame
import Derived.Test.YtcmnldomcpjlcaaGreatFacts
import Derived.Deep.RegionHeld3
set_option linter.unusedVariables false
set_option linter.unusedSimpArgs false
namespace Go.Proofs.YtcmnldomcpjlcaaGreat.FnRingsOf
open Go.Sort Go.ChangeShapes Go.WideShapes Go.ChangeAt Go.RowKit Go.Proofs.YtcmnldomcpjlcaaGreat.Nm

theorem ring_facts {t : List Fil} {path : List Int} {s x : Bs} (hl : okLook t path = true) (hx : x ∈ ringsOf t path s) : (∃ y ∈ ringsOf t path s, x ∈ edgesOf t path y) ∧ canFind t path x = true := by
  have ht := okLook_tree hl
  obtain ⟨h1, h2⟩ := List.mem_filter.1 hx
  have hr := (onRing_iff ht x).1 h2
  have hxr := (reachOf_mem hl).1 h1
  have reachTG : ∀ z, Relation.TransGen (Nm.Edge t path) x z → z ∈ reachAll t path (namesAbove s) := by
    intro z hz
    induction hz with
    | single h => exact reachAll_closed ht (namesAbove_nodup s) hxr h
    | tail _ h ih => exact reachAll_closed ht (namesAbove_nodup s) ih h
  constructor
  · cases hr with
    | single h => exact ⟨x, hx, h⟩
    | tail h3 h =>
      rename_i e
      refine ⟨e, List.mem_filter.2 ⟨(reachOf_mem hl).2 (reachTG e h3), (onRing_iff ht e).2 ?_⟩, h⟩
      exact Relation.TransGen.trans (.single h) h3
  · have hne : edgesOf t path x ≠ [] := by
      have key : ∀ z, Relation.TransGen (Nm.Edge t path) x z → edgesOf t path x ≠ [] := by
        intro z hz
        induction hz with
        | single h => exact List.ne_nil_of_mem h
        | tail _ _ ih => exact ih
      exact key x hr
    unfold canFind
    rw [decide_eq_true_iff]
    intro h0
    exact hne (by unfold edgesOf; rw [needsOf_none h0]; rfl)
set_option maxRecDepth 100000 in
set_option maxHeartbeats 8000000 in
theorem walk (a : Option Addr) (n cap : Nat) (w : World) (hc : Code w w.heap.size a n cap) :
    Calls Tryz.prog 10 #[.slice a n cap] w fun e w' => e = .returned (.bool true) ∧ Below w.heap.size w w' := by
  by_cases hn : (1048576 : Int) < (n : Int)
  · go_enter Tryz.func10, Tryz.ntmps10
    go_wp2_with fail
    go_ret
    exact ⟨rfl, Below.refl _ _⟩
  have Hc := Lib.hid hc
  clear hc
  have hf0 := fld0
  have hf1 := fld1
  go_enter Tryz.func10, Tryz.ntmps10
  go_wp2_with fail
  refine (spec_DrawRingsOf a n cap w Hc.out).mono ?_
  rintro e w1 ⟨v, ps, pv, xs, s, rfl, ⟨hrows, hsh, hl, hb5, hb1⟩, hp, hx3, hs17⟩
  obtain ⟨va, vc, rfl⟩ := hrows.len
  have HR := Lib.hid hrows
  obtain ⟨fs, hfs⟩ : ∃ fs, fs = ps.map (·.1) := ⟨_, rfl⟩
  have Hfs := Lib.hid hfs
  have hfl : fs.length = ps.length := by rw [hfs, List.length_map]
  have HF := Lib.hid (show FilsIn w1 (fun _ => True) (.slice va ps.length vc) fs by rw [hfs]; exact hrows.fils)
  have Hz8 := Lib.hid (show ShortT 8000000 fs by rw [hfs]; exact shortT_mono (by omega) hsh)
  have Hz2 := Lib.hid (show ShortT 2000000 fs by rw [hfs]; exact shortT_mono (by omega) hsh)
  have Hb1 := Lib.hid hb1
  have B0 := Nm.Boxed.start w1 #[.slice va ps.length vc] 31
  have hl11 : fs.length ≤ 11 := by omega
  clear hrows hsh hb5 hb1 hfs
  generalize ps.length = pn at *
  subst hfl
  have X1 := Lib.hid B0
  clear B0
  obtain ⟨pa, pc, rfl⟩ := hp.len
  have HP := Lib.hid hp.ints
  clear hp
  obtain ⟨ns, hns⟩ : ∃ x, x = ringsOf fs xs s := ⟨_, rfl⟩
  have hnl : ns.length ≤ 300 := by rw [hns]; exact Nat.le_trans (List.length_filter_le _ _) (reachOf_facts _ _ _).1
  have Hns := Lib.hid hns
  clear hns
  go_wp2_with fail
  refine (impl_RingsOf _ fs (fun _ => True) _ xs s _ (HF.out.below X1.out.below) Hz2.out (HP.out.below X1.out.below) (by omega)).mono ?_
  rintro _ w2 ⟨v2, rfl, hown2, hb2⟩
  rw [← Hns.out] at hown2
  have R2 := Lib.hid (Reads.of_owns hown2)
  obtain ⟨a2, c2, rfl⟩ := owns_shape hown2
  have X2 := Lib.hid (X1.out.step hb2)
  have x2 : w2.cell? ⟨w1.heap.size, 0, none⟩ = some (.slice va fs.length vc) := X2.out.cell 0
  clear hb2 hown2
  go_wp2_with fail
  refine (spec_RingsOf _ fs (fun _ => True) _ xs s _ (HF.out.below X2.out.below) Hz2.out (HP.out.below X2.out.below) (by omega)).mono ?_
  rintro _ w3 ⟨v3, rfl, hown3, hb3⟩
  rw [← Hns.out] at hown3
  have R3 := Lib.hid (Reads.of_owns hown3)
  obtain ⟨a3, c3, rfl⟩ := owns_shape hown3
  have X3 := Lib.hid (X2.out.step hb3)
  have x3 : w3.cell? ⟨w1.heap.size, 0, none⟩ = some (.slice va fs.length vc) := X3.out.cell 0
  have R2 := Lib.hid (Reads.below R2.out hb3)
  clear hb3 hown3 x2
  go_wp2_with fail
  refine (laws_equalTexts _ _ ns ns _ R2.out R3.out (by omega) (by omega)).mono ?_
  rintro _ w4 ⟨rfl, hb4⟩
  rw [decide_eq_true rfl]
  have X4 := Lib.hid (X3.out.step hb4)
  have x4 : w4.cell? ⟨w1.heap.size, 0, none⟩ = some (.slice va fs.length vc) := X4.out.cell 0
  have R2 := Lib.hid (Reads.below R2.out hb4)
  clear hb4 x3
  rcases (show okTree fs = true ∨ okTree fs = false by cases okTree fs <;> simp) with hok | hok
  · have Hok := Lib.hid hok
    rcases (show okPath xs = true ∨ okPath xs = false by cases okPath xs <;> simp) with hpo | hpo
    · have Hpo := Lib.hid hpo
      rcases (show vn s = true ∨ vn s = false by cases vn s <;> simp) with hvo | hvo
      · have Hvo := Lib.hid hvo
        have Hlo := Lib.hid (okLook_of hok hpo)
        clear hok hpo hvo
        go_wp2_with fail
        refine (impl_ValidTree _ fs (fun _ => True) _ (HF.out.below X4.out.below) Hz8.out).mono ?_
        rintro _ w5 ⟨rfl, hb5⟩
        rw [Hok.out]
        have X5 := Lib.hid (X4.out.step hb5)
        have x5 : w5.cell? ⟨w1.heap.size, 0, none⟩ = some (.slice va fs.length vc) := X5.out.cell 0
        have R2 := Lib.hid (Reads.below R2.out hb5)
        clear hb5 x4
        go_wp2_with fail
        refine (impl_ValidPath _ xs _ (HP.out.below X5.out.below)).mono ?_
        rintro _ _ ⟨rfl, rfl⟩
        rw [Hpo.out]
        go_wp2_with fail
        refine (impl_ValidName s _ (by omega)).mono ?_
        rintro _ w6 ⟨rfl, hb6⟩
        rw [Hvo.out]
        have X6 := Lib.hid (X5.out.step hb6)
        have x6 : w6.cell? ⟨w1.heap.size, 0, none⟩ = some (.slice va fs.length vc) := X6.out.cell 0
        have R2 := Lib.hid (Reads.below R2.out hb6)
        clear hb6 x5
        have Hring := Lib.hid (show ∀ x ∈ ns, (∃ y ∈ ns, x ∈ edgesOf fs xs y) ∧ canFind fs xs x = true by rw [Hns.out]; exact fun x hx => ring_facts Hlo.out hx)
        have Hvs := Lib.hid (show ∀ x ∈ ns, x.length ≤ 8000000 by rw [Hns.out]; exact fun x hx => Nat.le_trans (vn_len ((reachOf_facts fs xs s).2.1 x (List.mem_filter.1 hx).1)) (by omega))
        have Hup := Lib.hid (show Up ns by rw [Hns.out]; exact up_filter _ (reachOf_up fs xs s))
        have Hwi := Lib.hid (show ∀ x ∈ ns, x ∈ reachOf fs xs s by rw [Hns.out]; exact fun x hx => (List.mem_filter.1 hx).1)
        have hL300 := (reachOf_facts fs xs s).1
        generalize hLL : reachOf fs xs s = L at *
        have HLL := Lib.hid hLL
        clear hLL
        go_wp2_with fail
        go_loopw [7] (fun iv wr => ∃ i : Nat, i ≤ ns.length ∧ iv = .int .i64 i ∧ Nm.Boxed w1 #[.slice va fs.length vc] 31 wr ∧ Reads wr (.slice a2 ns.length c2) ns) (fun iv _ => ns.length - (intOf iv).toNat)
        case atStart => exact ⟨0, by omega, rfl, X6.out, R2.out⟩
        case round =>
          obtain ⟨i, hi, rfl, hbx, hrd⟩ := hrel
          have XO := Lib.hid hbx
          have RO := Lib.hid hrd
          clear hbx hrd R2 x6
          by_cases hlti : i < ns.length
          · have hsn8 := Hvs.out _ (List.getElem_mem hlti)
            have Hri := Lib.hid (Hring.out _ (List.getElem_mem hlti))
            obtain ⟨nm, hnm⟩ : ∃ nm, nm = ns[i] := ⟨_, rfl⟩
            rw [← hnm] at hsn8 Hri
            have Hnm := Lib.hid hnm
            have hii : (i : Int) < (ns.length : Int) := by omega
            have hi0' : (0 : Int) ≤ (i : Int) := by omega
            clear hnm
            go_upto_region 12 with fail
            go_wp2_with fail
            go_loopw [8, 9] (fun bv kv wr => ∃ k : Nat, k ≤ ns.length ∧ kv = .int .i64 k ∧ bv = .bool ((ns.take k).any (fun y => decide (nm ∈ edgesOf fs xs y))) ∧ Nm.Boxed w1 #[.slice va fs.length vc] 31 wr ∧ Reads wr (.slice a2 ns.length c2) ns) (fun _ kv _ => ns.length - (intOf kv).toNat)
            case atStart => exact ⟨0, by omega, rfl, by simp, XO.out, RO.out⟩
            case round =>
              obtain ⟨k, hk, rfl, rfl, hbx, hrd⟩ := hrel
              have XR := Lib.hid hbx
              have RR := Lib.hid hrd
              have xr : wr.cell? ⟨w1.heap.size, 0, none⟩ = some (.slice va fs.length vc) := XR.out.cell 0
              have lr := XR.out.lt
              clear hbx hrd
              by_cases hlt : k < ns.length
              · obtain ⟨gl, ol, cl, el, _, _, hgs, hcl⟩ := Reads.some RR.out (by omega)
                simp only [Value.slice.injEq] at el
                obtain ⟨rfl, _, rfl⟩ := el
                have hcell := hcl k hlt
                have hk1 : (k : Int) < (ns.length : Int) := by omega
                have hk0' : (0 : Int) ≤ (k : Int) := by omega
                clear hcl
                have hcellI : wr.cell? ⟨gl, ol + i, none⟩ = some (.string (mk nm)) := by
                  obtain ⟨gl', ol', cl', el', _, _, _, hcl'⟩ := Reads.some RR.out (by omega)
                  simp only [Value.slice.injEq, Option.some.injEq, Addr.mk.injEq] at el'
                  obtain ⟨⟨rfl, rfl, _⟩, _, _⟩ := el'
                  rw [Hnm.out]; exact hcl' i hlti
                have hnl8 := Hvs.out _ (List.getElem_mem hlt)
                have Hsn := Lib.hid (show (ns.take (k + 1)).any (fun y => decide (nm ∈ edgesOf fs xs y)) = ((ns.take k).any (fun y => decide (nm ∈ edgesOf fs xs y)) || decide (nm ∈ edgesOf fs xs ns[k])) by
                  rw [List.take_succ_eq_append_getElem hlt, List.any_append]; simp)
                obtain ⟨yk, hyk⟩ : ∃ y, y = ns[k] := ⟨_, rfl⟩
                rw [← hyk] at hcell hnl8 Hsn
                clear hyk
                have heL := (edgesOf_ok fs xs yk).2.2
                obtain ⟨es, hes⟩ : ∃ es, es = edgesOf fs xs yk := ⟨_, rfl⟩
                rw [← hes] at heL Hsn
                have Hes := Lib.hid hes.symm
                clear hes
                have Hk := Lib.hid (fun (w' : World) (hC : Below wr.heap.size wr w') => (⟨(hC.cell (p := ⟨w1.heap.size, 0, none⟩) lr).trans xr, (hC.cell (p := ⟨gl, ol + k, none⟩) hgs).trans hcell, (hC.cell (p := ⟨gl, ol + i, none⟩) hgs).trans hcellI, hC⟩ : w'.cell? ⟨w1.heap.size, 0, none⟩ = some (.slice va fs.length vc) ∧ w'.cell? ⟨gl, ol + k, none⟩ = some (.string (mk yk)) ∧ w'.cell? ⟨gl, ol + i, none⟩ = some (.string (mk nm)) ∧ Below wr.heap.size wr w'))
                obtain ⟨bq, hbq⟩ : ∃ b, b = (ns.take k).any (fun y => decide (nm ∈ edgesOf fs xs y)) := ⟨_, rfl⟩
                rw [← hbq] at Hsn ⊢
                clear hbq
                cases bq
                · go_wp2_with fail
                  go_region_held3 (fun w' => w'.cell? ⟨w1.heap.size, 0, none⟩ = some (.slice va fs.length vc) ∧ w'.cell? ⟨gl, ol + k, none⟩ = some (.string (mk yk)) ∧ w'.cell? ⟨gl, ol + i, none⟩ = some (.string (mk nm)) ∧ Below wr.heap.size wr w')
                    (first | exact Hk.out _ Hb9.out | exact Hk.out _ (by (repeat (with_reducible first | exact Below.refl _ _ | assumption | refine ba ?_ _ | refine bd ?_ | refine bdN ?_ _ | refine bs ?_ (by first | exact Nat.le_refl _ | (dsimp only; omega) | (simp; done)) _ | refine bt ?_ (by assumption)))))
                    (first
                      | (go_at_call 43; refine (impl_EdgesOf _ fs (fun _ => True) _ xs yk _ (HF.out.below (bt XR.out.below (by (repeat (with_reducible first | exact Below.refl _ _ | assumption | refine ba ?_ _ | refine bd ?_ | refine bdN ?_ _ | refine bs ?_ (by first | exact Nat.le_refl _ | (dsimp only; omega) | (simp; done)) _ | refine bt ?_ (by assumption)))))) Hz2.out (HP.out.below (bt XR.out.below (by (repeat (with_reducible first | exact Below.refl _ _ | assumption | refine ba ?_ _ | refine bd ?_ | refine bdN ?_ _ | refine bs ?_ (by first | exact Nat.le_refl _ | (dsimp only; omega) | (simp; done)) _ | refine bt ?_ (by assumption)))))) (by omega)).mono ?_; rintro _ w9 ⟨v9, rfl, hown9, hb9⟩; rw [Hes.out] at hown9; have R9 := Lib.hid (Reads.of_owns hown9); have Hb9 := Lib.hid (show Below wr.heap.size wr w9 by (repeat (with_reducible first | exact Below.refl _ _ | assumption | refine ba ?_ _ | refine bd ?_ | refine bdN ?_ _ | refine bs ?_ (by first | exact Nat.le_refl _ | (dsimp only; omega) | (simp; done)) _ | refine bt ?_ (by assumption)))); clear hown9 hb9)
                      | (go_at_call 50; refine (laws_hasText _ es nm _ (Reads.below R9.out (by (repeat (with_reducible first | exact Below.refl _ _ | assumption | refine ba ?_ _ | refine bd ?_ | refine bdN ?_ _ | refine bs ?_ (by first | exact Nat.le_refl _ | (dsimp only; omega) | (simp; done)) _ | refine bt ?_ (by assumption))))) (by omega)).mono ?_; rintro _ _ ⟨rfl, rfl⟩))
                  all_goals
                    have hb9 : Below wr.heap.size wr w9 := Hb9.out
                    go_wp2_with fail
                    go_roundw
                    case rel => exact ⟨k + 1, by omega, by go_num, by rw [Hsn.out]; simp, XR.out.step hb9, Reads.below RR.out hb9⟩
                    case measure => simp [intOf]; omega
                · go_wp2_with fail
                  refine wp_region_quiet_below (by kernel_rfl) (by kernel_rfl) ?_
                  repeat (go_big_quiet_step (fail))
                  refine wpQuiet_nil ?_
                  intro _ hw'
                  obtain ⟨⟨dq, osq⟩, hw2⟩ := hw'
                  subst hw2
                  have Hb9 := Lib.hid (below_regrown wr dq osq)
                  go_wp2_with fail
                  go_roundw
                  case rel => exact ⟨k + 1, by omega, by go_num, by rw [Hsn.out]; simp, XR.out.step Hb9.out, Reads.below RR.out Hb9.out⟩
                  case measure => simp [intOf]; omega
              · obtain rfl : k = ns.length := by omega
                have hall : (ns.take ns.length).any (fun y => decide (nm ∈ edgesOf fs xs y)) = true := by
                  obtain ⟨y, hy, hny⟩ := Hri.out.1
                  rw [List.take_length, List.any_eq_true]
                  exact ⟨y, hy, decide_eq_true hny⟩
                rw [hall]
                clear hall
                obtain ⟨gl, ol, cl, el, _, _, hgs, hcl⟩ := Reads.some RR.out (by omega)
                simp only [Value.slice.injEq] at el
                obtain ⟨rfl, _, rfl⟩ := el
                have hcell : wr.cell? ⟨gl, ol + i, none⟩ = some (.string (mk nm)) := by rw [Hnm.out]; exact hcl i hlti
                clear hcl
                have Hcf := Lib.hid Hri.out.2
                have Hk := Lib.hid (fun (w' : World) (hC : Below wr.heap.size wr w') => (⟨(hC.cell (p := ⟨w1.heap.size, 0, none⟩) lr).trans xr, (hC.cell (p := ⟨gl, ol + i, none⟩) hgs).trans hcell, hC⟩ : w'.cell? ⟨w1.heap.size, 0, none⟩ = some (.slice va fs.length vc) ∧ w'.cell? ⟨gl, ol + i, none⟩ = some (.string (mk nm)) ∧ Below wr.heap.size wr w'))
                go_wp2_with fail
                go_region_held3 (fun w' => w'.cell? ⟨w1.heap.size, 0, none⟩ = some (.slice va fs.length vc) ∧ w'.cell? ⟨gl, ol + i, none⟩ = some (.string (mk nm)) ∧ Below wr.heap.size wr w')
                  (first | exact Hk.out _ Hb9.out | exact Hk.out _ (by (repeat (with_reducible first | exact Below.refl _ _ | assumption | refine ba ?_ _ | refine bd ?_ | refine bdN ?_ _ | refine bs ?_ (by first | exact Nat.le_refl _ | (dsimp only; omega) | (simp; done)) _ | refine bt ?_ (by assumption)))))
                  (first
                    | (go_at_call 41; refine (impl_CanFind _ fs (fun _ => True) _ xs nm _ (HF.out.below (bt XR.out.below (by (repeat (with_reducible first | exact Below.refl _ _ | assumption | refine ba ?_ _ | refine bd ?_ | refine bdN ?_ _ | refine bs ?_ (by first | exact Nat.le_refl _ | (dsimp only; omega) | (simp; done)) _ | refine bt ?_ (by assumption)))))) Hz2.out (HP.out.below (bt XR.out.below (by (repeat (with_reducible first | exact Below.refl _ _ | assumption | refine ba ?_ _ | refine bd ?_ | refine bdN ?_ _ | refine bs ?_ (by first | exact Nat.le_refl _ | (dsimp only; omega) | (simp; done)) _ | refine bt ?_ (by assumption)))))) (by omega)).mono ?_; rintro _ w9 ⟨rfl, hb9⟩; rw [Hcf.out]; have Hb9 := Lib.hid (show Below wr.heap.size wr w9 by (repeat (with_reducible first | exact Below.refl _ _ | assumption | refine ba ?_ _ | refine bd ?_ | refine bdN ?_ _ | refine bs ?_ (by first | exact Nat.le_refl _ | (dsimp only; omega) | (simp; done)) _ | refine bt ?_ (by assumption)))); clear hb9))
                all_goals
                  have hb9 : Below wr.heap.size wr w9 := Hb9.out
                  go_wp2_with fail
                  refine ⟨⟨i + 1, by omega, by go_num, XR.out.step hb9, Reads.below RR.out hb9⟩, ?_⟩
                  simp [intOf]; omega
          · go_wp2_with fail
            refine (laws_rises _ ns _ RO.out (by omega) Hup.out).mono ?_
            rintro _ w8 ⟨rfl, hb8⟩
            have X8 := Lib.hid (XO.out.step hb8)
            have x8 : w8.cell? ⟨w1.heap.size, 0, none⟩ = some (.slice va fs.length vc) := X8.out.cell 0
            have RR8 := Lib.hid (Reads.below RO.out hb8)
            clear hb8
            go_wp2_with fail
            refine (impl_ReachOf _ fs (fun _ => True) _ xs s _ (HF.out.below X8.out.below) Hz2.out (HP.out.below X8.out.below) (by omega)).mono ?_
            rintro _ w9 ⟨v9, rfl, hown9, hb9⟩
            rw [HLL.out] at hown9
            have R9 := Lib.hid (Reads.of_owns hown9)
            obtain ⟨a9, c9, rfl⟩ := owns_shape hown9
            have X9 := Lib.hid (X8.out.step hb9)
            have RR9 := Lib.hid (Reads.below RR8.out hb9)
            clear hb9 hown9 x8
            go_wp2_with fail
            refine (laws_withinTexts _ _ ns L _ RR9.out R9.out (by omega) (by omega) Hwi.out).mono ?_
            rintro _ _ ⟨rfl, rfl⟩
            go_wp2_with fail
            go_ret
            exact ⟨rfl, bt Hb1.out X9.out.below⟩
      · have Hvo := Lib.hid hvo
        clear hok hpo hvo
        go_wp2_with fail
        refine (impl_ValidTree _ fs (fun _ => True) _ (HF.out.below X4.out.below) Hz8.out).mono ?_
        rintro _ w5 ⟨rfl, hb5⟩
        rw [Hok.out]
        have X5 := Lib.hid (X4.out.step hb5)
        have x5 : w5.cell? ⟨w1.heap.size, 0, none⟩ = some (.slice va fs.length vc) := X5.out.cell 0
        have R2 := Lib.hid (Reads.below R2.out hb5)
        clear hb5 x4
        go_wp2_with fail
        refine (impl_ValidPath _ xs _ (HP.out.below X5.out.below)).mono ?_
        rintro _ _ ⟨rfl, rfl⟩
        rw [Hpo.out]
        go_wp2_with fail
        refine (impl_ValidName s _ (by omega)).mono ?_
        rintro _ w6 ⟨rfl, hb6⟩
        rw [Hvo.out]
        have X6 := Lib.hid (X5.out.step hb6)
        have x6 : w6.cell? ⟨w1.heap.size, 0, none⟩ = some (.slice va fs.length vc) := X6.out.cell 0
        have R2 := Lib.hid (Reads.below R2.out hb6)
        clear hb6 x5
        go_wp2_with fail
        refine (spec_RingsOf _ fs (fun _ => True) _ xs s _ (HF.out.below X6.out.below) Hz2.out (HP.out.below X6.out.below) (by omega)).mono ?_
        rintro _ w7 ⟨v7, rfl, hown7, hb7⟩
        rw [← Hns.out] at hown7
        have R7 := Lib.hid (Reads.of_owns hown7)
        obtain ⟨a7, c7, rfl⟩ := owns_shape hown7
        have X7 := Lib.hid (X6.out.step hb7)
        have R2 := Lib.hid (Reads.below R2.out hb7)
        clear hb7 hown7 x6
        go_wp2_with fail
        refine (laws_equalTexts _ _ ns ns _ R2.out R7.out (by omega) (by omega)).mono ?_
        rintro _ w8 ⟨rfl, hb8⟩
        rw [decide_eq_true rfl]
        have X8 := Lib.hid (X7.out.step hb8)
        clear hb8
        go_wp2_with fail
        go_ret
        exact ⟨rfl, bt Hb1.out X8.out.below⟩
    · have Hpo := Lib.hid hpo
      clear hok hpo
      go_wp2_with fail
      refine (impl_ValidTree _ fs (fun _ => True) _ (HF.out.below X4.out.below) Hz8.out).mono ?_
      rintro _ w5 ⟨rfl, hb5⟩
      rw [Hok.out]
      have X5 := Lib.hid (X4.out.step hb5)
      have x5 : w5.cell? ⟨w1.heap.size, 0, none⟩ = some (.slice va fs.length vc) := X5.out.cell 0
      have R2 := Lib.hid (Reads.below R2.out hb5)
      clear hb5 x4
      go_wp2_with fail
      refine (impl_ValidPath _ xs _ (HP.out.below X5.out.below)).mono ?_
      rintro _ _ ⟨rfl, rfl⟩
      rw [Hpo.out]
      go_wp2_with fail
      refine (spec_RingsOf _ fs (fun _ => True) _ xs s _ (HF.out.below X5.out.below) Hz2.out (HP.out.below X5.out.below) (by omega)).mono ?_
      rintro _ w6 ⟨v6, rfl, hown6, hb6⟩
      rw [← Hns.out] at hown6
      have R6 := Lib.hid (Reads.of_owns hown6)
      obtain ⟨a6, c6, rfl⟩ := owns_shape hown6
      have X6 := Lib.hid (X5.out.step hb6)
      have R2 := Lib.hid (Reads.below R2.out hb6)
      clear hb6 hown6 x5
      go_wp2_with fail
      refine (laws_equalTexts _ _ ns ns _ R2.out R6.out (by omega) (by omega)).mono ?_
      rintro _ w7 ⟨rfl, hb7⟩
      rw [decide_eq_true rfl]
      have X7 := Lib.hid (X6.out.step hb7)
      clear hb7
      go_wp2_with fail
      go_ret
      exact ⟨rfl, bt Hb1.out X7.out.below⟩
  · have Hok := Lib.hid hok
    clear hok
    go_wp2_with fail
    refine (impl_ValidTree _ fs (fun _ => True) _ (HF.out.below X4.out.below) Hz8.out).mono ?_
    rintro _ w5 ⟨rfl, hb5⟩
    rw [Hok.out]
    have X5 := Lib.hid (X4.out.step hb5)
    have x5 : w5.cell? ⟨w1.heap.size, 0, none⟩ = some (.slice va fs.length vc) := X5.out.cell 0
    have R2 := Lib.hid (Reads.below R2.out hb5)
    clear hb5 x4
    go_wp2_with fail
    refine (spec_RingsOf _ fs (fun _ => True) _ xs s _ (HF.out.below X5.out.below) Hz2.out (HP.out.below X5.out.below) (by omega)).mono ?_
    rintro _ w6 ⟨v6, rfl, hown6, hb6⟩
    rw [← Hns.out] at hown6
    have R6 := Lib.hid (Reads.of_owns hown6)
    obtain ⟨a6, c6, rfl⟩ := owns_shape hown6
    have X6 := Lib.hid (X5.out.step hb6)
    have R2 := Lib.hid (Reads.below R2.out hb6)
    clear hb6 hown6 x5
    go_wp2_with fail
    refine (laws_equalTexts _ _ ns ns _ R2.out R6.out (by omega) (by omega)).mono ?_
    rintro _ w7 ⟨rfl, hb7⟩
    rw [decide_eq_true rfl]
    have X7 := Lib.hid (X6.out.step hb7)
    clear hb7
    go_wp2_with fail
    go_ret
    exact ⟨rfl, bt Hb1.out X7.out.below⟩

/-! ### THE STEP TO THE ROW -/
set_option maxRecDepth 100000 in
theorem lifted (os : Os) (started : os.Started) (H : Type) (enc : TypeId × Value → H) :
    ReturnsInHanded {} Tryz.checked os 10 .any (Rows.fnRingsOfSpec.pre6 enc Tryz.prog Tryz.f10 Rows.fnRingsOfRow.domain false) (Rows.fnRingsOfSpec.post enc Tryz.prog Tryz.f10 false true false false) := by
  refine returnsInHanded_of_change (C := Tryz.checked) own started (by kernel_rfl) Tryz.func10
    (ChangeSpec.witness6 (enc := enc) (C := Tryz.checked) false ⟨#[], #[.slice none 0 0], []⟩ 8 (by kernel_rfl) (by kernel_rfl) (by kernel_rfl) (by kernel_rfl)) ?_
  intro W base args ds gs before hval0 hW hcnd _
  have hval : ∀ (j : Nat) t v, Tryz.f10.params[j]? = some t → args[j]? = some v → Value.okWide Tryz.prog W .any base t v := hval0
  have hW' := hW
  obtain ⟨p, q, hA0, hV, rfl, hfz, hnd⟩ := hW
  have hA : DataW.TrodAll enc Tryz.prog W 0 (fun _ => true) true Tryz.f10.params.toList args.toList ds p := hA0
  rw [Tryz.params10] at hA hval
  obtain ⟨v0, vs0, d0, ds0, p0, q0, hargs, rfl, rfl, h0, r0⟩ := trodAll_cons hA
  obtain ⟨rfl, rfl, rfl⟩ := trodAll_nil r0
  obtain rfl : args = #[v0] := by cases args; simp_all
  obtain ⟨rfl, rfl⟩ := trodVars_none hV
  obtain ⟨a0, len0, cap0, rfl⟩ := okWide_slice Tryz.underlying48 (hval 0 48 v0 rfl rfl)
  have k0 := h0
  have lt0 : ∀ x ∈ p0, x.block < W.heap.size := by obtain ⟨m, hm⟩ := k0; exact DataW.trod_lt m _ _ _ hm
  have w0 : Code W W.heap.size a0 len0 cap0 := by
    obtain ⟨fuel, hf⟩ := h0
    rcases open_ints Tryz.underlying48 Tryz.underlying5 (by kernel_rfl) hf with ⟨hcs, _⟩ | ⟨x, l, c, zs, hcs, _, hl, hm, hz, _, hcell, hwz⟩
    · simp [Value.cells] at hcs
      obtain ⟨rfl, rfl, rfl⟩ := hcs
      exact .inl ⟨rfl, by unfold maxLen; omega⟩
    · simp [Value.cells] at hcs
      obtain ⟨rfl, rfl, rfl⟩ := hcs
      exact code_row W _ _ _ zs hl hm (by simpa using hz) hcell hwz
  clear hA0 hval0
  refine (walk a0 len0 cap0 W w0).mono fun e W' ⟨he, bel⟩ => ?_
  subst he
  exact ⟨_, rfl, _, _, _, [], _, [], hW', trodAll_mk1 (shut_bool Tryz.underlying4 _), (trodAll_cons_mk (Below.trod laidOut (by kernel_rfl) (of_decide_eq_true (by kernel_rfl)) k0 bel lt0) trodAll_mk0), rfl, bel.frame _, fun h => by cases h⟩

set_option maxRecDepth 100000 in
set_option maxHeartbeats 16000000 in
theorem closed : joinedFacts Tryz.pinned.checked.prog 10 Tryz.f10 Rows.fnRingsOfSpec Rows.fnRingsOfRow = true := by
  unfold joinedFacts
  simp only [Bool.and_eq_true]
  with_reducible repeat' apply And.intro
  rotate_left 25
  exact Facts.enter
  exact Facts.lifts
  exact Facts.make
  all_goals as_aux_lemma => exact of_decide_eq_true (by kernel_rfl)

theorem over : Rows.fnRingsOfRow.holds Tryz.pinned (OpenSpec.ofChange Rows.fnRingsOfSpec) :=
  OpenClaim.holds_of_wide 10 Tryz.f10 rfl rfl rfl rfl rfl rfl rfl ⟨rfl, rfl, rfl, rfl, rfl⟩ rfl rfl rfl rfl rfl (by kernel_rfl) Tryz.func10 closed
    (of_decide_eq_true (by kernel_rfl)) (by unfold Func.isWrapper; first | (rw [if_pos (by decide +kernel)]; kernel_rfl) | (rw [if_neg (by decide +kernel)]; exact ⟨rfl, rfl⟩))
    (fun os started H enc _ => lifted os started H enc)

/-- THE STATEMENT -/
theorem proved : Rows.FnRingsOfSaid := over
end Go.Proofs.YtcmnldomcpjlcaaGreat.FnRingsOf
