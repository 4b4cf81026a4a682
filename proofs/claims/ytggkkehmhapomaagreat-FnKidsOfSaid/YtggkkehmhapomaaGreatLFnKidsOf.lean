/- FnKidsOf returns true for every code. Written by mklaws.py. -/
import Derived.Test.YtggkkehmhapomaaGreatDrawO
import Derived.Test.YtggkkehmhapomaaGreatTrees
import Derived.Test.YtggkkehmhapomaaGreatLooks
import Derived.Test.YtggkkehmhapomaaGreatSLooks
import Derived.Test.YtggkkehmhapomaaGreatSNames
import Derived.Test.YtggkkehmhapomaaGreatSKids
import Derived.Test.YtggkkehmhapomaaGreatKin
import Derived.Test.YtggkkehmhapomaaGreatEqRise
import Derived.Test.YtggkkehmhapomaaGreatTexts
import Derived.Test.YtggkkehmhapomaaGreatVp
import Derived.Test.YtggkkehmhapomaaGreatPlainR
import Derived.Test.YtggkkehmhapomaaGreatFrame
set_option linter.unusedVariables false
set_option linter.unusedSimpArgs false
namespace Go.Proofs.YtggkkehmhapomaaGreat.FnKidsOf
open Go.Sort Go.ChangeShapes Go.WideShapes Go.ChangeAt Go.RowKit Go.Proofs.YtggkkehmhapomaaGreat.Nm

theorem found_len (fs : List Fil) (path : List Int) : (foundNames fs path).length ≤ 36 := by
  unfold foundNames
  split
  · rename_i h
    have ht := okLook_tree h
    have hz := (okTree_all ht).2.2
    refine Nat.le_trans (List.length_filter_le _ _) ?_
    unfold allNames
    refine Nat.le_trans (sortUp_len _) ?_
    have : ∀ l : List Fil, l.all okFil = true → (l.flatMap (fun f => above (modName f))).length ≤ 3 * l.length := by
      intro l
      induction l with
      | nil => intro _; simp
      | cons f r ih =>
        intro hl
        simp only [List.all_cons, Bool.and_eq_true] at hl
        have h1 := ih hl.2
        have h2 : (above (modName f)).length ≤ 3 := by
          rw [above_len]; exact (vps_iff.1 (show vps (split (modName f)) = true from (okFil_mod hl.1).2)).1.2
        simp only [List.flatMap_cons, List.length_append, List.length_cons]
        omega
    have := this fs (okTree_all ht).1
    omega
  · simp
theorem kids_len (fs : List Fil) (path : List Int) (p : Bs) : (kidsOf fs path p).length ≤ 36 := by
  unfold kidsOf
  rw [List.length_map]
  exact Nat.le_trans (List.length_filter_le _ _) (found_len fs path)
set_option maxRecDepth 100000 in
set_option maxHeartbeats 2000000 in
theorem walk (a : Option Addr) (n cap : Nat) (w : World) (hc : Code w w.heap.size a n cap) :
    Calls Tryz.prog 4 #[.slice a n cap] w fun e w' => e = .returned (.bool true) ∧ Below w.heap.size w w' := by
  by_cases hn : (1048576 : Int) < (n : Int)
  · go_enter Tryz.func4, Tryz.ntmps4
    go_wp2_with fail
    go_ret
    exact ⟨rfl, Below.refl _ _⟩
  have Hc := Lib.hid hc
  clear hc
  go_enter Tryz.func4, Tryz.ntmps4
  go_wp2_with fail
  refine (spec_DrawKidsOf a n cap w Hc.out).mono ?_
  rintro e w1 ⟨v, ps, pv, xs, p, rfl, ⟨hrows, hsh, hl, hb5, hb1⟩, hp, hx3, hs17⟩
  obtain ⟨va, vc, rfl⟩ := hrows.len
  have HR := Lib.hid hrows
  obtain ⟨fs, hfs⟩ : ∃ fs, fs = ps.map (·.1) := ⟨_, rfl⟩
  have Hfs := Lib.hid hfs
  have hfl : fs.length = ps.length := by rw [hfs, List.length_map]
  have HF := Lib.hid (show FilsIn w1 (fun _ => True) (.slice va ps.length vc) fs by rw [hfs]; exact hrows.fils)
  have Hz8 := Lib.hid (show ShortT 8000000 fs by rw [hfs]; exact shortT_mono (by omega) hsh)
  have Hz3 := Lib.hid (show ShortT 3000000 fs by rw [hfs]; exact shortT_mono (by omega) hsh)
  have Hz2 := Lib.hid (show ShortT 2000000 fs by rw [hfs]; exact shortT_mono (by omega) hsh)
  have Hs8 := Lib.hid (show ShortT 8 fs by rw [hfs]; exact hsh)
  have Hb5 := Lib.hid (show ∀ f ∈ fs, f.body.length ≤ 5 by rw [hfs]; intro f hf; obtain ⟨p, hp, rfl⟩ := List.mem_map.1 hf; exact hb5 p hp)
  have Hb1 := Lib.hid hb1
  have B0 := Boxed.start w1 #[.slice va ps.length vc] 25
  have hl11 : fs.length ≤ 11 := by omega
  clear hrows hsh hb5 hb1 hfs
  generalize ps.length = pn at *
  subst hfl
  have X1 := Lib.hid B0
  clear B0
  obtain ⟨pa, pc, rfl⟩ := hp.len
  have HP := Lib.hid hp.ints
  clear hp
  go_wp2_with fail
  refine (impl_KidsOf _ fs (fun _ => True) _ xs p _ (HF.out.below X1.out.below) Hz2.out (HP.out.below X1.out.below)).mono ?_
  rintro _ w2 ⟨v2, rfl, hown2, hb2⟩
  have R2 := Lib.hid (Reads.of_owns hown2)
  obtain ⟨a2, c2, rfl⟩ := owns_shape hown2
  have X2 := Lib.hid (X1.out.step hb2)
  have x2 : w2.cell? ⟨w1.heap.size, 0, none⟩ = some (.slice va fs.length vc) := X2.out.cell 0
  clear hb2 hown2
  go_wp2_with fail
  refine (spec_KidsOf _ fs (fun _ => True) _ xs p _ (HF.out.below X2.out.below) Hz2.out (HP.out.below X2.out.below) (by omega)).mono ?_
  rintro _ w3 ⟨v3, rfl, hown3, hb3⟩
  have R3 := Lib.hid (Reads.of_owns hown3)
  obtain ⟨a3, c3, rfl⟩ := owns_shape hown3
  have X3 := Lib.hid (X2.out.step hb3)
  have x3 : w3.cell? ⟨w1.heap.size, 0, none⟩ = some (.slice va fs.length vc) := X3.out.cell 0
  have R2 := Lib.hid (Reads.below R2.out hb3)
  clear hb3 hown3 x2
  go_wp2_with fail
  refine (laws_equalTexts _ _ _ _ _ R2.out R3.out (by have := kids_len fs xs p; omega) (by have := kids_len fs xs p; omega)).mono ?_
  rintro _ w4 ⟨rfl, hb4⟩
  rw [decide_eq_true rfl]
  have X4 := Lib.hid (X3.out.step hb4)
  have x4 : w4.cell? ⟨w1.heap.size, 0, none⟩ = some (.slice va fs.length vc) := X4.out.cell 0
  have R2 := Lib.hid (Reads.below R2.out hb4)
  clear hb4 x3
  rcases (show okTree fs = true ∨ okTree fs = false by cases okTree fs <;> simp) with hok | hok
  · have Hok := Lib.hid hok
    rcases (show okPath xs = true ∨ okPath xs = false by cases okPath xs <;> simp) with hpo | hpo
    · have Hpo := Lib.hid hpo
      clear hok hpo
      by_cases h0 : p = []
      · subst h0
        have h0b : (([] : Bs) != []) = false := rfl
        go_wp2_with fail
        refine (impl_ValidTree _ fs (fun _ => True) _ (HF.out.below X4.out.below) Hz8.out).mono ?_
        rintro _ w5 ⟨rfl, hb5⟩
        rw [Hok.out]
        have X5 := Lib.hid (X4.out.step hb5)
        have x5 : w5.cell? ⟨w1.heap.size, 0, none⟩ = some (.slice va fs.length vc) := X5.out.cell 0
        have R2 := Lib.hid (Reads.below R2.out hb5)
        clear hb5 x4
        go_wp2_with fail
        refine (impl_ValidPath _ xs _ (HP.out.below X5.out.below)).mono ?_
        rintro _ _ ⟨rfl, rfl⟩
        rw [Hpo.out]
        go_wp2_with fail
        refine (impl_FoundNames _ fs (fun _ => True) _ xs _ (HF.out.below X5.out.below) Hz2.out (HP.out.below X5.out.below)).mono ?_
        rintro _ w6 ⟨v6, rfl, hown6, hb6⟩
        have R6 := Lib.hid (Reads.of_owns hown6)
        obtain ⟨a6, c6, rfl⟩ := owns_shape hown6
        have X6 := Lib.hid (X5.out.step hb6)
        have x6 : w6.cell? ⟨w1.heap.size, 0, none⟩ = some (.slice va fs.length vc) := X6.out.cell 0
        have R2 := Lib.hid (Reads.below R2.out hb6)
        clear hb6 hown6 x5
        have hml : (kidsOf fs xs []).length ≤ 36 := kids_len fs xs []
        have hnl : (foundNames fs xs).length ≤ 36 := found_len fs xs
        have Hcnt := Lib.hid (kids_count (t := fs) (path := xs) [])
        have Hkm := Lib.hid (fun s (hs : s ∈ foundNames fs xs) (h : parentOf s = []) => kid_mem hs h)
        have Hup := Lib.hid (kids_up fs xs [])
        have Hnv := Lib.hid (fun s (hs : s ∈ foundNames fs xs) => vn_len (foundNames_vn hs).2)
        generalize kidsOf fs xs [] = ms at *
        generalize foundNames fs xs = ns at *
        go_wp2_with fail
        go_loopw [7, 9] (fun nv iv wr => ∃ k : Nat, k ≤ ns.length ∧ iv = .int .i64 k ∧ nv = .int .i64 (((ns.take k).filter (fun s => decide (parentOf s = []))).length : Int) ∧ Boxed w1 #[.slice va fs.length vc] 25 wr ∧ Reads wr (.slice a2 ms.length c2) ms ∧ Reads wr (.slice a6 ns.length c6) ns) (fun _ iv _ => ns.length - (intOf iv).toNat)
        case atStart => exact ⟨0, by omega, rfl, by simp, X6.out, R2.out, R6.out⟩
        case round =>
          obtain ⟨k, hk, rfl, rfl, hbx, hr, hn⟩ := hrel
          have XR := Lib.hid hbx
          have RR := Lib.hid hr
          have RN := Lib.hid hn
          have xr : wr.cell? ⟨w1.heap.size, 0, none⟩ = some (.slice va fs.length vc) := XR.out.cell 0
          clear hbx hr hn x6 R2 R6
          have hfl : ((ns.take k).filter (fun s => decide (parentOf s = []))).length ≤ 36 := by
            have h1 := List.length_filter_le (fun s => decide (parentOf s = [])) (ns.take k)
            rw [List.length_take] at h1
            omega
          by_cases hlt : k < ns.length
          · obtain ⟨b1, o1, c1, e1, _, _, hb1, hc1⟩ := Reads.some RN.out (by omega)
            simp only [Value.slice.injEq] at e1
            obtain ⟨rfl, _, rfl⟩ := e1
            have hcell := hc1 k hlt
            have hnl2 := Hnv.out _ (List.getElem_mem hlt)
            have Hkm1 := Lib.hid (fun h => Hkm.out _ (List.getElem_mem hlt) h)
            have Hsn := Lib.hid (filter_snoc (fun s => decide (parentOf s = [])) ns k hlt)
            clear hc1
            obtain ⟨nm, hnm⟩ : ∃ nm, nm = ns[k] := ⟨_, rfl⟩
            rw [← hnm] at hcell hnl2 Hkm1 Hsn
            clear hnm
            generalize hq : ((ns.take k).filter (fun s => decide (parentOf s = []))).length = cn at *
            have Hq := Lib.hid hq
            clear hq
            obtain ⟨pn, hpn⟩ : ∃ pn, pn = parentOf nm := ⟨_, rfl⟩
            have Hpn := Lib.hid hpn.symm
            clear hpn
            have hi1 : (k : Int) < (ns.length : Int) := by omega
            go_wp2_with fail
            refine (impl_ParentOf nm _ (by omega)).mono ?_
            rintro _ w6 ⟨rfl, hb6⟩
            rw [Hpn.out]
            have X6 := Lib.hid (XR.out.step hb6)
            have R6 := Lib.hid (Reads.below RR.out hb6)
            have N6 := Lib.hid (Reads.below RN.out hb6)
            have hcell6 := (hb6.cell (p := ⟨b1, o1 + k, none⟩) hb1).trans hcell
            clear hb6 hcell xr
            by_cases hpp : pn = []
            · subst hpp
              have Hm := Lib.hid (decide_eq_true (Hkm1.out Hpn.out))
              have Hs2 := Lib.hid (show ((ns.take (k + 1)).filter (fun s => decide (parentOf s = []))).length = cn + 1 by
                rw [Hsn.out, List.length_append, Hq.out]
                simp [Hpn.out])
              have hcn : (cn : Int) + 1 ≤ 37 := by omega
              obtain ⟨ln, hln⟩ : ∃ ln, ln = lastOf nm := ⟨_, rfl⟩
              have Hln := Lib.hid hln.symm
              rw [← hln] at Hm
              clear hln
              go_wp2_with fail
              refine (impl_LastOf nm _ (by omega)).mono ?_
              rintro _ w7 ⟨rfl, hb7⟩
              rw [Hln.out]
              have X7 := Lib.hid (X6.out.step hb7)
              have R7 := Lib.hid (Reads.below R6.out hb7)
              have N7 := Lib.hid (Reads.below N6.out hb7)
              clear hb7 hcell6
              go_wp2_with fail
              refine (laws_hasText _ ms ln _ R7.out (by omega)).mono ?_
              rintro _ w8 ⟨rfl, rfl⟩
              rw [Hm.out]
              go_wp2_with fail
              go_roundw
              case rel => exact ⟨k + 1, by omega, by go_num, by rw [Hs2.out]; go_num, X7.out, R7.out, N7.out⟩
              case measure => simp [intOf]; omega
            · have hpb : (pn == []) = false := by simpa using hpp
              have hpe : pn.isEmpty = false ∨ True := .inr trivial
              have Hs2 := Lib.hid (show ((ns.take (k + 1)).filter (fun s => decide (parentOf s = []))).length = cn by
                rw [Hsn.out, List.length_append, Hq.out]
                simp [Hpn.out, hpp])
              go_wp2_with fail
              go_roundw
              case rel => exact ⟨k + 1, by omega, by go_num, by rw [Hs2.out], X6.out, R6.out, N6.out⟩
              case measure => simp [intOf]; omega
          · obtain rfl : k = ns.length := by omega
            have he : ((ns.take ns.length).filter (fun s => decide (parentOf s = []))).length = ms.length := by rw [List.take_length]; exact Hcnt.out
            rw [he]
            rw [he] at hfl
            clear he
            go_wp2_with fail
            refine (laws_rises _ ms _ RR.out (by omega) Hup.out).mono ?_
            rintro _ w6 ⟨rfl, hb6⟩
            have X6 := Lib.hid (XR.out.step hb6)
            clear hb6 xr
            go_wp2_with fail
            go_ret
            exact ⟨ret_bool (by first | rfl | simp), bt Hb1.out X6.out.below⟩
      · have h0b : (p == []) = false := by simpa using h0
        have h0d : (p != []) = true := by simpa using h0
        have h0c : p.isEmpty = false := by simpa using h0
        clear h0
        rcases (show isPack fs xs p = true ∨ isPack fs xs p = false by cases isPack fs xs p <;> simp) with hpk | hpk
        · have Hpk := Lib.hid hpk
          clear hpk
          go_wp2_with fail
          refine (impl_ValidTree _ fs (fun _ => True) _ (HF.out.below X4.out.below) Hz8.out).mono ?_
          rintro _ w5 ⟨rfl, hb5⟩
          rw [Hok.out]
          have X5 := Lib.hid (X4.out.step hb5)
          have x5 : w5.cell? ⟨w1.heap.size, 0, none⟩ = some (.slice va fs.length vc) := X5.out.cell 0
          have R2 := Lib.hid (Reads.below R2.out hb5)
          clear hb5 x4
          go_wp2_with fail
          refine (impl_ValidPath _ xs _ (HP.out.below X5.out.below)).mono ?_
          rintro _ _ ⟨rfl, rfl⟩
          rw [Hpo.out]
          go_wp2_with fail
          refine (impl_IsPackage _ fs (fun _ => True) _ xs p _ (HF.out.below X5.out.below) Hz2.out (HP.out.below X5.out.below) (by omega)).mono ?_
          rintro _ w6 ⟨rfl, hb6⟩
          rw [Hpk.out]
          have X6 := Lib.hid (X5.out.step hb6)
          have x6 : w6.cell? ⟨w1.heap.size, 0, none⟩ = some (.slice va fs.length vc) := X6.out.cell 0
          have R2 := Lib.hid (Reads.below R2.out hb6)
          clear hb6 x5
          go_wp2_with fail
          refine (impl_FoundNames _ fs (fun _ => True) _ xs _ (HF.out.below X6.out.below) Hz2.out (HP.out.below X6.out.below)).mono ?_
          rintro _ w7 ⟨v7, rfl, hown7, hb7⟩
          have R7 := Lib.hid (Reads.of_owns hown7)
          obtain ⟨a7, c7, rfl⟩ := owns_shape hown7
          have X7 := Lib.hid (X6.out.step hb7)
          have x7 : w7.cell? ⟨w1.heap.size, 0, none⟩ = some (.slice va fs.length vc) := X7.out.cell 0
          have R2 := Lib.hid (Reads.below R2.out hb7)
          clear hb7 hown7 x6
          have hml : (kidsOf fs xs p).length ≤ 36 := kids_len fs xs p
          have hnl : (foundNames fs xs).length ≤ 36 := found_len fs xs
          have Hcnt := Lib.hid (kids_count (t := fs) (path := xs) p)
          have Hkm := Lib.hid (fun s (hs : s ∈ foundNames fs xs) (h : parentOf s = p) => kid_mem hs h)
          have Hup := Lib.hid (kids_up fs xs p)
          have Hnv := Lib.hid (fun s (hs : s ∈ foundNames fs xs) => vn_len (foundNames_vn hs).2)
          generalize kidsOf fs xs p = ms at *
          generalize foundNames fs xs = ns at *
          go_wp2_with fail
          go_loopw [7, 9] (fun nv iv wr => ∃ k : Nat, k ≤ ns.length ∧ iv = .int .i64 k ∧ nv = .int .i64 (((ns.take k).filter (fun s => decide (parentOf s = p))).length : Int) ∧ Boxed w1 #[.slice va fs.length vc] 25 wr ∧ Reads wr (.slice a2 ms.length c2) ms ∧ Reads wr (.slice a7 ns.length c7) ns) (fun _ iv _ => ns.length - (intOf iv).toNat)
          case atStart => exact ⟨0, by omega, rfl, by simp, X7.out, R2.out, R7.out⟩
          case round =>
            obtain ⟨k, hk, rfl, rfl, hbx, hr, hn⟩ := hrel
            have XR := Lib.hid hbx
            have RR := Lib.hid hr
            have RN := Lib.hid hn
            have xr : wr.cell? ⟨w1.heap.size, 0, none⟩ = some (.slice va fs.length vc) := XR.out.cell 0
            clear hbx hr hn x7 R2 R7
            have hfl : ((ns.take k).filter (fun s => decide (parentOf s = p))).length ≤ 36 := by
              have h1 := List.length_filter_le (fun s => decide (parentOf s = p)) (ns.take k)
              rw [List.length_take] at h1
              omega
            by_cases hlt : k < ns.length
            · obtain ⟨b1, o1, c1, e1, _, _, hb1, hc1⟩ := Reads.some RN.out (by omega)
              simp only [Value.slice.injEq] at e1
              obtain ⟨rfl, _, rfl⟩ := e1
              have hcell := hc1 k hlt
              have hnl2 := Hnv.out _ (List.getElem_mem hlt)
              have Hkm1 := Lib.hid (fun h => Hkm.out _ (List.getElem_mem hlt) h)
              have Hsn := Lib.hid (filter_snoc (fun s => decide (parentOf s = p)) ns k hlt)
              clear hc1
              obtain ⟨nm, hnm⟩ : ∃ nm, nm = ns[k] := ⟨_, rfl⟩
              rw [← hnm] at hcell hnl2 Hkm1 Hsn
              clear hnm
              generalize hq : ((ns.take k).filter (fun s => decide (parentOf s = p))).length = cn at *
              have Hq := Lib.hid hq
              clear hq
              obtain ⟨pn, hpn⟩ : ∃ pn, pn = parentOf nm := ⟨_, rfl⟩
              have Hpn := Lib.hid hpn.symm
              clear hpn
              have hi1 : (k : Int) < (ns.length : Int) := by omega
              go_wp2_with fail
              refine (impl_ParentOf nm _ (by omega)).mono ?_
              rintro _ w6 ⟨rfl, hb6⟩
              rw [Hpn.out]
              have X6 := Lib.hid (XR.out.step hb6)
              have R6 := Lib.hid (Reads.below RR.out hb6)
              have N6 := Lib.hid (Reads.below RN.out hb6)
              have hcell6 := (hb6.cell (p := ⟨b1, o1 + k, none⟩) hb1).trans hcell
              clear hb6 hcell xr
              by_cases hpp : pn = p
              · subst hpp
                have Hm := Lib.hid (decide_eq_true (Hkm1.out Hpn.out))
                have Hs2 := Lib.hid (show ((ns.take (k + 1)).filter (fun s => decide (parentOf s = pn))).length = cn + 1 by
                  rw [Hsn.out, List.length_append, Hq.out]
                  simp [Hpn.out])
                have hcn : (cn : Int) + 1 ≤ 37 := by omega
                obtain ⟨ln, hln⟩ : ∃ ln, ln = lastOf nm := ⟨_, rfl⟩
                have Hln := Lib.hid hln.symm
                rw [← hln] at Hm
                clear hln
                go_wp2_with fail
                refine (impl_LastOf nm _ (by omega)).mono ?_
                rintro _ w7 ⟨rfl, hb7⟩
                rw [Hln.out]
                have X7 := Lib.hid (X6.out.step hb7)
                have R7 := Lib.hid (Reads.below R6.out hb7)
                have N7 := Lib.hid (Reads.below N6.out hb7)
                clear hb7 hcell6
                go_wp2_with fail
                refine (laws_hasText _ ms ln _ R7.out (by omega)).mono ?_
                rintro _ w8 ⟨rfl, rfl⟩
                rw [Hm.out]
                go_wp2_with fail
                go_roundw
                case rel => exact ⟨k + 1, by omega, by go_num, by rw [Hs2.out]; go_num, X7.out, R7.out, N7.out⟩
                case measure => simp [intOf]; omega
              · have hpb : (pn == p) = false := by simpa using hpp
                have hpe : pn.isEmpty = false ∨ True := .inr trivial
                have Hs2 := Lib.hid (show ((ns.take (k + 1)).filter (fun s => decide (parentOf s = p))).length = cn by
                  rw [Hsn.out, List.length_append, Hq.out]
                  simp [Hpn.out, hpp])
                go_wp2_with fail
                go_roundw
                case rel => exact ⟨k + 1, by omega, by go_num, by rw [Hs2.out], X6.out, R6.out, N6.out⟩
                case measure => simp [intOf]; omega
            · obtain rfl : k = ns.length := by omega
              have he : ((ns.take ns.length).filter (fun s => decide (parentOf s = p))).length = ms.length := by rw [List.take_length]; exact Hcnt.out
              rw [he]
              rw [he] at hfl
              clear he
              go_wp2_with fail
              refine (laws_rises _ ms _ RR.out (by omega) Hup.out).mono ?_
              rintro _ w6 ⟨rfl, hb6⟩
              have X6 := Lib.hid (XR.out.step hb6)
              clear hb6 xr
              go_wp2_with fail
              go_ret
              exact ⟨ret_bool (by first | rfl | simp), bt Hb1.out X6.out.below⟩
        · have Hpk := Lib.hid hpk
          clear hpk
          go_wp2_with fail
          refine (impl_ValidTree _ fs (fun _ => True) _ (HF.out.below X4.out.below) Hz8.out).mono ?_
          rintro _ w5 ⟨rfl, hb5⟩
          rw [Hok.out]
          have X5 := Lib.hid (X4.out.step hb5)
          have x5 : w5.cell? ⟨w1.heap.size, 0, none⟩ = some (.slice va fs.length vc) := X5.out.cell 0
          have R2 := Lib.hid (Reads.below R2.out hb5)
          clear hb5 x4
          go_wp2_with fail
          refine (impl_ValidPath _ xs _ (HP.out.below X5.out.below)).mono ?_
          rintro _ _ ⟨rfl, rfl⟩
          rw [Hpo.out]
          go_wp2_with fail
          refine (impl_IsPackage _ fs (fun _ => True) _ xs p _ (HF.out.below X5.out.below) Hz2.out (HP.out.below X5.out.below) (by omega)).mono ?_
          rintro _ w6 ⟨rfl, hb6⟩
          rw [Hpk.out]
          have X6 := Lib.hid (X5.out.step hb6)
          have x6 : w6.cell? ⟨w1.heap.size, 0, none⟩ = some (.slice va fs.length vc) := X6.out.cell 0
          have R2 := Lib.hid (Reads.below R2.out hb6)
          clear hb6 x5
          go_wp2_with fail
          refine (spec_KidsOf _ fs (fun _ => True) _ xs p _ (HF.out.below X6.out.below) Hz2.out (HP.out.below X6.out.below) (by omega)).mono ?_
          rintro _ w7 ⟨v7, rfl, hown7, hb7⟩
          have R7 := Lib.hid (Reads.of_owns hown7)
          obtain ⟨a7, c7, rfl⟩ := owns_shape hown7
          have X7 := Lib.hid (X6.out.step hb7)
          have x7 : w7.cell? ⟨w1.heap.size, 0, none⟩ = some (.slice va fs.length vc) := X7.out.cell 0
          have R2 := Lib.hid (Reads.below R2.out hb7)
          clear hb7 hown7 x6
          go_wp2_with fail
          refine (laws_equalTexts _ _ _ _ _ R2.out R7.out (by have := kids_len fs xs p; omega) (by have := kids_len fs xs p; omega)).mono ?_
          rintro _ w8 ⟨rfl, hb8⟩
          rw [decide_eq_true rfl]
          have X8 := Lib.hid (X7.out.step hb8)
          have x8 : w8.cell? ⟨w1.heap.size, 0, none⟩ = some (.slice va fs.length vc) := X8.out.cell 0
          clear hb8 x7
          go_wp2_with fail
          go_ret
          exact ⟨rfl, bt Hb1.out X8.out.below⟩
    · have Hpo := Lib.hid hpo
      clear hok hpo
      go_wp2_with fail
      refine (impl_ValidTree _ fs (fun _ => True) _ (HF.out.below X4.out.below) Hz8.out).mono ?_
      rintro _ w5 ⟨rfl, hb5⟩
      rw [Hok.out]
      have X5 := Lib.hid (X4.out.step hb5)
      have x5 : w5.cell? ⟨w1.heap.size, 0, none⟩ = some (.slice va fs.length vc) := X5.out.cell 0
      have R2 := Lib.hid (Reads.below R2.out hb5)
      clear hb5 x4
      go_wp2_with fail
      refine (impl_ValidPath _ xs _ (HP.out.below X5.out.below)).mono ?_
      rintro _ _ ⟨rfl, rfl⟩
      rw [Hpo.out]
      go_wp2_with fail
      refine (spec_KidsOf _ fs (fun _ => True) _ xs p _ (HF.out.below X5.out.below) Hz2.out (HP.out.below X5.out.below) (by omega)).mono ?_
      rintro _ w6 ⟨v6, rfl, hown6, hb6⟩
      have R6 := Lib.hid (Reads.of_owns hown6)
      obtain ⟨a6, c6, rfl⟩ := owns_shape hown6
      have X6 := Lib.hid (X5.out.step hb6)
      have x6 : w6.cell? ⟨w1.heap.size, 0, none⟩ = some (.slice va fs.length vc) := X6.out.cell 0
      have R2 := Lib.hid (Reads.below R2.out hb6)
      clear hb6 hown6 x5
      go_wp2_with fail
      refine (laws_equalTexts _ _ _ _ _ R2.out R6.out (by have := kids_len fs xs p; omega) (by have := kids_len fs xs p; omega)).mono ?_
      rintro _ w7 ⟨rfl, hb7⟩
      rw [decide_eq_true rfl]
      have X7 := Lib.hid (X6.out.step hb7)
      have x7 : w7.cell? ⟨w1.heap.size, 0, none⟩ = some (.slice va fs.length vc) := X7.out.cell 0
      clear hb7 x6
      go_wp2_with fail
      go_ret
      exact ⟨rfl, bt Hb1.out X7.out.below⟩
  · have Hok := Lib.hid hok
    clear hok
    go_wp2_with fail
    refine (impl_ValidTree _ fs (fun _ => True) _ (HF.out.below X4.out.below) Hz8.out).mono ?_
    rintro _ w5 ⟨rfl, hb5⟩
    rw [Hok.out]
    have X5 := Lib.hid (X4.out.step hb5)
    have x5 : w5.cell? ⟨w1.heap.size, 0, none⟩ = some (.slice va fs.length vc) := X5.out.cell 0
    have R2 := Lib.hid (Reads.below R2.out hb5)
    clear hb5 x4
    go_wp2_with fail
    refine (spec_KidsOf _ fs (fun _ => True) _ xs p _ (HF.out.below X5.out.below) Hz2.out (HP.out.below X5.out.below) (by omega)).mono ?_
    rintro _ w6 ⟨v6, rfl, hown6, hb6⟩
    have R6 := Lib.hid (Reads.of_owns hown6)
    obtain ⟨a6, c6, rfl⟩ := owns_shape hown6
    have X6 := Lib.hid (X5.out.step hb6)
    have x6 : w6.cell? ⟨w1.heap.size, 0, none⟩ = some (.slice va fs.length vc) := X6.out.cell 0
    have R2 := Lib.hid (Reads.below R2.out hb6)
    clear hb6 hown6 x5
    go_wp2_with fail
    refine (laws_equalTexts _ _ _ _ _ R2.out R6.out (by have := kids_len fs xs p; omega) (by have := kids_len fs xs p; omega)).mono ?_
    rintro _ w7 ⟨rfl, hb7⟩
    rw [decide_eq_true rfl]
    have X7 := Lib.hid (X6.out.step hb7)
    have x7 : w7.cell? ⟨w1.heap.size, 0, none⟩ = some (.slice va fs.length vc) := X7.out.cell 0
    clear hb7 x6
    go_wp2_with fail
    go_ret
    exact ⟨rfl, bt Hb1.out X7.out.below⟩

/-! ### THE STEP TO THE ROW -/
set_option maxRecDepth 100000 in
theorem lifted (os : Os) (started : os.Started) (H : Type) (enc : TypeId × Value → H) :
    ReturnsInHanded {} Tryz.checked os 4 .any (Rows.fnKidsOfSpec.pre6 enc Tryz.prog Tryz.f4 Rows.fnKidsOfRow.domain false) (Rows.fnKidsOfSpec.post enc Tryz.prog Tryz.f4 false true false false) := by
  refine returnsInHanded_of_change (C := Tryz.checked) own started (by kernel_rfl) Tryz.func4
    (ChangeSpec.witness6 (enc := enc) (C := Tryz.checked) false ⟨#[], #[.slice none 0 0], []⟩ 8 (by kernel_rfl) (by kernel_rfl) (by kernel_rfl) (by kernel_rfl)) ?_
  intro W base args ds gs before hval0 hW hcnd _
  have hval : ∀ (j : Nat) t v, Tryz.f4.params[j]? = some t → args[j]? = some v → Value.okWide Tryz.prog W .any base t v := hval0
  have hW' := hW
  obtain ⟨p, q, hA0, hV, rfl, hfz, hnd⟩ := hW
  have hA : DataW.TrodAll enc Tryz.prog W 0 (fun _ => true) true Tryz.f4.params.toList args.toList ds p := hA0
  rw [Tryz.params4] at hA hval
  obtain ⟨v0, vs0, d0, ds0, p0, q0, hargs, rfl, rfl, h0, r0⟩ := trodAll_cons hA
  obtain ⟨rfl, rfl, rfl⟩ := trodAll_nil r0
  obtain rfl : args = #[v0] := by cases args; simp_all
  obtain ⟨rfl, rfl⟩ := trodVars_none hV
  obtain ⟨a0, len0, cap0, rfl⟩ := okWide_slice Tryz.underlying22 (hval 0 22 v0 rfl rfl)
  have k0 := h0
  have lt0 : ∀ x ∈ p0, x.block < W.heap.size := by obtain ⟨m, hm⟩ := k0; exact DataW.trod_lt m _ _ _ hm
  have w0 : Code W W.heap.size a0 len0 cap0 := by
    obtain ⟨fuel, hf⟩ := h0
    rcases open_ints Tryz.underlying22 Tryz.underlying5 (by kernel_rfl) hf with ⟨hcs, _⟩ | ⟨x, l, c, zs, hcs, _, hl, hm, hz, _, hcell, hwz⟩
    · simp [Value.cells] at hcs
      obtain ⟨rfl, rfl, rfl⟩ := hcs
      exact .inl ⟨rfl, by unfold maxLen; omega⟩
    · simp [Value.cells] at hcs
      obtain ⟨rfl, rfl, rfl⟩ := hcs
      exact code_row W _ _ _ zs hl hm (by simpa using hz) hcell hwz
  clear hA0 hval0
  refine (walk a0 len0 cap0 W w0).mono fun e W' ⟨he, bel⟩ => ?_
  subst he
  exact ⟨_, rfl, _, _, _, [], _, [], hW', trodAll_mk1 (shut_bool Tryz.underlying4 _), (trodAll_cons_mk (Below.trod laidOut (by kernel_rfl) (of_decide_eq_true (by kernel_rfl)) k0 bel lt0) trodAll_mk0), rfl, bel.frame _, fun h => by cases h⟩

theorem over : Rows.fnKidsOfRow.holds Tryz.pinned (OpenSpec.ofChange Rows.fnKidsOfSpec) :=
  OpenClaim.holds_of_wide 4 Tryz.f4 rfl rfl rfl rfl rfl rfl rfl ⟨rfl, rfl, rfl, rfl, rfl⟩ rfl rfl rfl rfl rfl (by kernel_rfl) Tryz.func4 (by kernel_rfl)
    (of_decide_eq_true (by kernel_rfl)) (by unfold Func.isWrapper; first | (rw [if_pos (by decide +kernel)]; kernel_rfl) | (rw [if_neg (by decide +kernel)]; exact ⟨rfl, rfl⟩))
    (fun os started H enc _ => lifted os started H enc)

/-- THE STATEMENT -/
theorem proved : Rows.FnKidsOfSaid := over
end Go.Proofs.YtggkkehmhapomaaGreat.FnKidsOf
