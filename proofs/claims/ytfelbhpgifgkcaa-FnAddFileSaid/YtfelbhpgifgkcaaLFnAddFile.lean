/- FnAddFile returns true for every code. Written by mklaws.py. -/
import Derived.Test.YtfelbhpgifgkcaaDrawA
import Derived.Test.YtfelbhpgifgkcaaTrees
import Derived.Test.YtfelbhpgifgkcaaAdds2
import Derived.Test.YtfelbhpgifgkcaaSAdds2
import Derived.Test.YtfelbhpgifgkcaaEqLaw
import Derived.Test.YtfelbhpgifgkcaaLists
import Derived.Test.YtfelbhpgifgkcaaStmts
import Derived.Test.YtfelbhpgifgkcaaPlainG
import Derived.Test.YtfelbhpgifgkcaaFrame
import Derived.Deep.RegionHeld3
set_option linter.unusedVariables false
set_option linter.unusedSimpArgs false
namespace Go.Proofs.Ytfelbhpgifgkcaa.FnAddFile
open Go.Sort Go.ChangeShapes Go.WideShapes Go.ChangeAt Go.RowKit Go.Proofs.Ytfelbhpgifgkcaa.Nm

theorem add_facts {fs us : List Fil} {f : Fil} (h : addFil fs f = (us, true)) : us = fs ++ [f] ∧ remFil us (fs.length : Int) = (fs, true) ∧ addFil us f = ([], false) ∧ modOf f ∈ modulesOf us ∧ okTree us = true := by
  unfold addFil at h
  split at h
  · rename_i hc
    simp only [Bool.and_eq_true] at hc
    simp only [Prod.mk.injEq, and_true] at h
    subst h
    refine ⟨rfl, ?_, ?_, ?_, hc.2⟩
    · unfold remFil inr
      rw [hc.2]
      rw [decide_eq_true (show (0 : Int) ≤ (fs.length : Int) by omega), decide_eq_true (show (fs.length : Int) ≤ ((fs ++ [f]).length : Int) - 1 by simp)]
      simp [erase_last]
    · unfold addFil
      rw [okTree_twice]
      simp
    · exact modOf_mem hc.2 (by simp)
  · simp at h
theorem add_short {fs us : List Fil} {f : Fil} {ok : Bool} (h : addFil fs f = (us, ok)) (h1 : ShortT 2000000 fs) (h2 : ShortF 2000000 f) : ShortT 2000000 us := by
  unfold addFil at h
  split at h
  · simp only [Prod.mk.injEq] at h
    rw [← h.1]
    intro g hg
    rcases List.mem_append.1 hg with hg | hg
    · exact h1 g hg
    · simp at hg; subst hg; exact h2
  · simp only [Prod.mk.injEq] at h
    rw [← h.1]
    intro g hg; cases hg
set_option maxRecDepth 100000 in
set_option maxHeartbeats 6000000 in
theorem walk (a : Option Addr) (n cap : Nat) (w : World) (hc : Code w w.heap.size a n cap) :
    Calls Try.prog 4 #[.slice a n cap] w fun e w' => e = .returned (.bool true) ∧ Below w.heap.size w w' := by
  by_cases hn : (1048576 : Int) < (n : Int)
  · go_enter Try.func4, Try.ntmps4
    go_wp2_with fail
    go_ret
    exact ⟨rfl, Below.refl _ _⟩
  have Hc := Lib.hid hc
  clear hc
  go_enter Try.func4, Try.ntmps4
  go_wp2_with fail
  refine (spec_DrawAddFile a n cap w Hc.out).mono ?_
  rintro e w1 ⟨v, ps, ⟨fr, fp, fn, fi, fst, fb⟩, bv, rfl, ⟨hrows, hsh, hl, hb5, hb1⟩, hownf, hsf, hfb5⟩
  obtain ⟨va, vc, rfl⟩ := hrows.len
  have HR := Lib.hid hrows
  obtain ⟨fs, hfs⟩ : ∃ fs, fs = ps.map (·.1) := ⟨_, rfl⟩
  have Hfs := Lib.hid hfs
  have hfl : fs.length = ps.length := by rw [hfs, List.length_map]
  have HF := Lib.hid (show FilsIn w1 (fun _ => True) (.slice va ps.length vc) fs by rw [hfs]; exact hrows.fils)
  have Hz8 := Lib.hid (show ShortT 8000000 fs by rw [hfs]; exact shortT_mono (by omega) hsh)
  have Hz3 := Lib.hid (show ShortT 3000000 fs by rw [hfs]; exact shortT_mono (by omega) hsh)
  have Hz2 := Lib.hid (show ShortT 2000000 fs by rw [hfs]; exact shortT_mono (by omega) hsh)
  have Hs8 := Lib.hid (show ShortT 8 fs by rw [hfs]; exact hsh)
  have Hb5 := Lib.hid (show ∀ f ∈ fs, f.body.length ≤ 5 by rw [hfs]; intro f hf; obtain ⟨p, hp, rfl⟩ := List.mem_map.1 hf; exact hb5 p hp)
  have Hb1 := Lib.hid hb1
  have B0 := Boxed.start w1 #[.slice va ps.length vc] 25
  have hl11 : fs.length ≤ 11 := by omega
  clear hrows hsh hb5 hb1 hfs
  generalize ps.length = pn at *
  subst hfl
  unfold filV
  dsimp only at hownf hfb5 ⊢
  obtain ⟨sa, sc, rfl⟩ := owns_shape hownf
  have HO := Lib.hid (owns_mono hownf (Nat.zero_le _))
  have Hsf := Lib.hid hsf
  have Hb5p := Lib.hid (show ∀ p ∈ ps, p.1.body.length ≤ 1048576 from fun p hp => Nat.le_trans (Hb5.out p.1 (by rw [Hfs.out]; exact List.mem_map.2 ⟨p, hp, rfl⟩)) (by omega))
  have hpl : ps.length ≤ 11 := by have := congrArg List.length Hfs.out; rw [List.length_map] at this; omega
  have HzF := Lib.hid (show ShortF 2000000 ⟨fr, fp, fn, fi, fst, fb⟩ from shortF_mono (by omega) hsf)
  obtain ⟨us, ok, hadd⟩ : ∃ us ok, addFil (ps.map (·.1)) ⟨fr, fp, fn, fi, fst, fb⟩ = (us, ok) := ⟨_, _, rfl⟩
  have Hadd := Lib.hid hadd
  have Hse := Lib.hid (show sameFils us us = true from decide_eq_true rfl)
  have Hsf2 := Lib.hid (show sameFils fs fs = true from decide_eq_true rfl)
  have Hfa := Lib.hid (fun (h : ok = true) => add_facts (show addFil fs ⟨fr, fp, fn, fi, fst, fb⟩ = (us, true) by rw [Hfs.out, hadd, h]))
  have hul : us.length ≤ 12 := by
    have := (addFil_fine (ps.map (·.1)) ⟨fr, fp, fn, fi, fst, fb⟩).2
    rw [hadd] at this
    exact this
  have HzU := Lib.hid (show ShortT 2000000 us from add_short (show addFil fs ⟨fr, fp, fn, fi, fst, fb⟩ = (us, ok) by rw [Hfs.out, hadd]) Hz2.out HzF.out)
  clear hadd hownf hsf B0
  have P2 := Lib.hid (Boxed2.start w1 #[.slice va fs.length vc] 25 #[.int .i64 fr, .string (mk fp), .string (mk fn), .bool fi, .int .i64 fst, .slice sa fb.length sc] 36)
  go_wp2_with fail
  refine (impl_AddFile _ ps fr fst fp fn fi _ fb _ ⟨owns_mono (HR.out.below P2.out.below).1 (Nat.zero_le _), fun p hp => owns_mono ((HR.out.below P2.out.below).2 p hp) (Nat.zero_le _)⟩ (by rw [← Hfs.out]; exact Hz2.out) (owns_below HO.out P2.out.below) HzF.out).mono ?_
  rintro _ w3 ⟨v3, qs, rfl, hq, ho3, hb3⟩
  rw [Hadd.out] at hq ⊢
  dsimp only at hq ⊢
  have hql : qs.length = us.length := by rw [← hq, List.length_map]
  have HU := Lib.hid (show FilsIn w3 (fun _ => True) v3 us by rw [← hq]; exact ho3.fils (fun _ _ => trivial))
  have HUR := Lib.hid (RowsF.of ho3)
  have Hqm := Lib.hid hq
  obtain ⟨a3, c3, rfl⟩ := ho3.len
  have P3 := Lib.hid (P2.out.step hb3)
  have hz3 := P3.out.lt
  clear ho3 hb3 hq
  generalize qs.length = qn at *
  subst hql
  have C3 := Lib.hid (Boxed.start w3 #[.slice a3 us.length c3] 25)
  have P3' := Lib.hid (P3.out.step C3.out.below)
  have x3 : (w3.alloc (.cells #[.slice a3 us.length c3] 25)).cell? ⟨w1.heap.size, 0, none⟩ = some (.slice va fs.length vc) := P3'.out.one.cell 0
  have f3_0 : (w3.alloc (.cells #[.slice a3 us.length c3] 25)).cell? ⟨w1.heap.size + 1, 0, none⟩ = some (.int .i64 fr) := P3'.out.cell 0
  have f3_1 : (w3.alloc (.cells #[.slice a3 us.length c3] 25)).cell? ⟨w1.heap.size + 1, 1, none⟩ = some (.string (mk fp)) := P3'.out.cell 1
  have f3_2 : (w3.alloc (.cells #[.slice a3 us.length c3] 25)).cell? ⟨w1.heap.size + 1, 2, none⟩ = some (.string (mk fn)) := P3'.out.cell 2
  have f3_3 : (w3.alloc (.cells #[.slice a3 us.length c3] 25)).cell? ⟨w1.heap.size + 1, 3, none⟩ = some (.bool fi) := P3'.out.cell 3
  have f3_4 : (w3.alloc (.cells #[.slice a3 us.length c3] 25)).cell? ⟨w1.heap.size + 1, 4, none⟩ = some (.int .i64 fst) := P3'.out.cell 4
  have f3_5 : (w3.alloc (.cells #[.slice a3 us.length c3] 25)).cell? ⟨w1.heap.size + 1, 5, none⟩ = some (.slice sa fb.length sc) := P3'.out.cell 5
  go_wp2_with fail
  refine (spec_AddFile _ ps fr fst fp fn fi _ fb _ ⟨owns_mono (HR.out.below P3'.out.below).1 (Nat.zero_le _), fun p hp => owns_mono ((HR.out.below P3'.out.below).2 p hp) (Nat.zero_le _)⟩ (by rw [← Hfs.out]; exact Hz2.out) (by omega) Hb5p.out (owns_below HO.out P3'.out.below) HzF.out (by omega)).mono ?_
  rintro _ w5 ⟨v5, rs, rfl, hq5, ho5, hb5⟩
  rw [Hadd.out] at hq5 ⊢
  dsimp only at hq5 ⊢
  have hrl : rs.length = us.length := by rw [← hq5, List.length_map]
  have HV := Lib.hid (show FilsIn w5 (fun _ => True) v5 us by rw [← hq5]; exact ho5.fils (fun _ _ => trivial))
  obtain ⟨a5, c5, rfl⟩ := ho5.len
  have P5 := Lib.hid (P3'.out.step hb5)
  have C5 := Lib.hid (C3.out.step hb5)
  have u5 : w5.cell? ⟨w3.heap.size, 0, none⟩ = some (.slice a3 us.length c3) := C5.out.cell 0
  have hz5 : w3.heap.size < w5.heap.size := C5.out.lt
  clear ho5 hb5 hq5 x3 f3_0 f3_1 f3_2 f3_3 f3_4 f3_5
  generalize rs.length = rn at *
  subst hrl
  have D5 := Lib.hid (Boxed.start w5 #[.slice a5 us.length c5] 25)
  go_wp2_with fail
  refine (laws_equalTree _ _ us us (fun _ => True) (fun _ => True) _ (HU.out.below (bt C5.out.below (by (repeat (with_reducible first | exact Below.refl _ _ | assumption | refine ba ?_ _ | refine bd ?_ | refine bdN ?_ _ | refine bs ?_ (by first | exact Nat.le_refl _ | (dsimp only; omega) | (simp; done)) _ | refine bt ?_ (by assumption)))))) (HV.out.below (by (repeat (with_reducible first | exact Below.refl _ _ | assumption | refine ba ?_ _ | refine bd ?_ | refine bdN ?_ _ | refine bs ?_ (by first | exact Nat.le_refl _ | (dsimp only; omega) | (simp; done)) _ | refine bt ?_ (by assumption)))))).mono ?_
  rintro _ w6 ⟨rfl, hb6⟩
  rw [Hse.out]
  have D6 := Lib.hid (D5.out.step hb6)
  have P6 := Lib.hid (P5.out.step D6.out.below)
  have C6 := Lib.hid (C5.out.step D6.out.below)
  have u6 : w6.cell? ⟨w3.heap.size, 0, none⟩ = some (.slice a3 us.length c3) := C6.out.cell 0
  have d6 : w6.cell? ⟨w5.heap.size, 0, none⟩ = some (.slice a5 us.length c5) := D6.out.cell 0
  clear hb6 u5
  cases ok
  · go_wp2_with fail
    refine (laws_equalTree _ _ us us (fun _ => True) (fun _ => True) _ (HU.out.below C6.out.below) (HV.out.below D6.out.below)).mono ?_
    rintro _ w7 ⟨rfl, hb7⟩
    rw [Hse.out]
    have P7 := Lib.hid (P6.out.step hb7)
    clear hb7
    go_wp2_with fail
    go_ret
    exact ⟨rfl, bt Hb1.out P7.out.below⟩
  · obtain ⟨hus, hrem, hadd2, hmod, hokU⟩ := Hfa.out rfl
    have Hrem := Lib.hid (show remFil (qs.map (·.1)) (fs.length : Int) = (fs, true) by rw [Hqm.out]; exact hrem)
    have Had2 := Lib.hid (show addFil (qs.map (·.1)) ⟨fr, fp, fn, fi, fst, fb⟩ = ([], false) by rw [Hqm.out]; exact hadd2)
    have Hmod := Lib.hid (decide_eq_true hmod)
    have hulen : us.length = fs.length + 1 := by rw [hus]; simp
    have Hlast := Lib.hid (show ∀ h : fs.length < us.length, us[fs.length] = ⟨fr, fp, fn, fi, fst, fb⟩ by subst hus; intro h; simp)
    have hml : (modulesOf us).length ≤ 12 := by
      unfold modulesOf
      rw [hokU, if_pos rfl]
      exact Nat.le_trans (sortUp_len _) (by rw [List.length_map]; omega)
    have hqsl : qs.length ≤ 12 := by have := congrArg List.length Hqm.out; rw [List.length_map] at this; omega
    have Hulen := Lib.hid hulen
    clear hrem hadd2 hmod Hfa d6 hus hulen
    have x6 : w6.cell? ⟨w1.heap.size, 0, none⟩ = some (.slice va fs.length vc) := P6.out.one.cell 0
    have f6_0 : w6.cell? ⟨w1.heap.size + 1, 0, none⟩ = some (.int .i64 fr) := P6.out.cell 0
    have f6_1 : w6.cell? ⟨w1.heap.size + 1, 1, none⟩ = some (.string (mk fp)) := P6.out.cell 1
    have f6_2 : w6.cell? ⟨w1.heap.size + 1, 2, none⟩ = some (.string (mk fn)) := P6.out.cell 2
    have f6_3 : w6.cell? ⟨w1.heap.size + 1, 3, none⟩ = some (.bool fi) := P6.out.cell 3
    have f6_4 : w6.cell? ⟨w1.heap.size + 1, 4, none⟩ = some (.int .i64 fst) := P6.out.cell 4
    have f6_5 : w6.cell? ⟨w1.heap.size + 1, 5, none⟩ = some (.slice sa fb.length sc) := P6.out.cell 5
    go_wp2_with fail
    refine (impl_RemoveFile _ qs (fs.length : Int) _ (HUR.out.below C6.out.below) (by rw [Hqm.out]; exact HzU.out) (by omega)).mono ?_
    rintro _ w7 ⟨v7, ts, rfl, hq7, ho7, hb7⟩
    rw [Hrem.out] at hq7 ⊢
    dsimp only at hq7 ⊢
    have htl : ts.length = fs.length := by rw [← hq7, List.length_map]
    have HT := Lib.hid (show FilsIn w7 (fun _ => True) v7 fs by rw [← hq7]; exact ho7.fils (fun _ _ => trivial))
    obtain ⟨a7, c7, rfl⟩ := ho7.len
    have P7 := Lib.hid (P6.out.step hb7)
    have C7 := Lib.hid (C6.out.step hb7)
    have hz7 : w3.heap.size < w7.heap.size := C7.out.lt
    have hz7' := P7.out.lt
    clear ho7 hb7 hq7 u6 x6 f6_0 f6_1 f6_2 f6_3 f6_4 f6_5
    generalize ts.length = tn at *
    subst htl
    have E7 := Lib.hid (Boxed.start w7 #[.slice a7 fs.length c7] 25)
    have P7' := Lib.hid (P7.out.step E7.out.below)
    have C7' := Lib.hid (C7.out.step E7.out.below)
    have u7 : (w7.alloc (.cells #[.slice a7 fs.length c7] 25)).cell? ⟨w3.heap.size, 0, none⟩ = some (.slice a3 us.length c3) := C7'.out.cell 0
    have x7 : (w7.alloc (.cells #[.slice a7 fs.length c7] 25)).cell? ⟨w1.heap.size, 0, none⟩ = some (.slice va fs.length vc) := P7'.out.one.cell 0
    have f7_0 : (w7.alloc (.cells #[.slice a7 fs.length c7] 25)).cell? ⟨w1.heap.size + 1, 0, none⟩ = some (.int .i64 fr) := P7'.out.cell 0
    have f7_1 : (w7.alloc (.cells #[.slice a7 fs.length c7] 25)).cell? ⟨w1.heap.size + 1, 1, none⟩ = some (.string (mk fp)) := P7'.out.cell 1
    have f7_2 : (w7.alloc (.cells #[.slice a7 fs.length c7] 25)).cell? ⟨w1.heap.size + 1, 2, none⟩ = some (.string (mk fn)) := P7'.out.cell 2
    have f7_3 : (w7.alloc (.cells #[.slice a7 fs.length c7] 25)).cell? ⟨w1.heap.size + 1, 3, none⟩ = some (.bool fi) := P7'.out.cell 3
    have f7_4 : (w7.alloc (.cells #[.slice a7 fs.length c7] 25)).cell? ⟨w1.heap.size + 1, 4, none⟩ = some (.int .i64 fst) := P7'.out.cell 4
    have f7_5 : (w7.alloc (.cells #[.slice a7 fs.length c7] 25)).cell? ⟨w1.heap.size + 1, 5, none⟩ = some (.slice sa fb.length sc) := P7'.out.cell 5
    go_wp2_with fail
    refine (impl_AddFile _ qs fr fst fp fn fi _ fb _ (HUR.out.below C7'.out.below) (by rw [Hqm.out]; exact HzU.out) (owns_below HO.out P7'.out.below) HzF.out).mono ?_
    rintro _ w9 ⟨v9, ys, rfl, hq9, ho9, hb9⟩
    rw [Had2.out] at hq9 ⊢
    dsimp only at hq9 ⊢
    obtain ⟨a9, c9, rfl⟩ := ho9.len
    have P9 := Lib.hid (P7'.out.step hb9)
    have C9 := Lib.hid (C7'.out.step hb9)
    have E9 := Lib.hid (E7.out.step hb9)
    have hz9 : w7.heap.size < w9.heap.size := E9.out.lt
    clear ho9 hb9 hq9 u7 x7 f7_0 f7_1 f7_2 f7_3 f7_4 f7_5
    generalize ys.length = yn at *
    have hlt : fs.length < us.length := by have := Hulen.out; omega
    have HW := Lib.hid (show Below w9.heap.size w9 (w9.alloc (.cells #[.slice a9 yn c9] 25)) by (repeat (with_reducible first | exact Below.refl _ _ | assumption | refine ba ?_ _ | refine bd ?_ | refine bdN ?_ _ | refine bs ?_ (by first | exact Nat.le_refl _ | (dsimp only; omega) | (simp; done)) _ | refine bt ?_ (by assumption))))
    have HUw := Lib.hid (HU.out.below (bt C9.out.below HW.out))
    obtain ⟨b, off, cap', bv1, e, hD, hb, hbody, c0, c1, c2', c3', c4', c5'⟩ := HUw.out.at_ hlt
    simp only [Value.slice.injEq] at e
    obtain ⟨rfl, _, rfl⟩ := e
    obtain ⟨ba1, bc1, rfl, _, _⟩ := hbody.len
    rw [Hlast.out hlt] at c0 c1 c2' c3' c4' c5' hbody
    have Hbody := Lib.hid hbody
    dsimp only at c0 c1 c2' c3' c4' c5'
    have Hk := Lib.hid (fun (w' : World) (hB : Below (w9.alloc (.cells #[.slice a9 yn c9] 25)).heap.size (w9.alloc (.cells #[.slice a9 yn c9] 25)) w') => (⟨(P9.out.step (bt HW.out hB)).one.cell 0, (P9.out.step (bt HW.out hB)).cell 0, (P9.out.step (bt HW.out hB)).cell 1, (P9.out.step (bt HW.out hB)).cell 2, (P9.out.step (bt HW.out hB)).cell 3, (P9.out.step (bt HW.out hB)).cell 4, (P9.out.step (bt HW.out hB)).cell 5, (C9.out.step (bt HW.out hB)).cell 0, (E9.out.step (bt HW.out hB)).cell 0, (hB.cell (p := ⟨b, _, none⟩) hb).trans c0, (hB.cell (p := ⟨b, _, none⟩) hb).trans c1, (hB.cell (p := ⟨b, _, none⟩) hb).trans c2', (hB.cell (p := ⟨b, _, none⟩) hb).trans c3', (hB.cell (p := ⟨b, _, none⟩) hb).trans c4', (hB.cell (p := ⟨b, _, none⟩) hb).trans c5', hB⟩ : (fun w' => w'.cell? ⟨w1.heap.size, 0, none⟩ = some (.slice va fs.length vc) ∧ w'.cell? ⟨w1.heap.size + 1, 0, none⟩ = some (.int .i64 fr) ∧ w'.cell? ⟨w1.heap.size + 1, 1, none⟩ = some (.string (mk fp)) ∧ w'.cell? ⟨w1.heap.size + 1, 2, none⟩ = some (.string (mk fn)) ∧ w'.cell? ⟨w1.heap.size + 1, 3, none⟩ = some (.bool fi) ∧ w'.cell? ⟨w1.heap.size + 1, 4, none⟩ = some (.int .i64 fst) ∧ w'.cell? ⟨w1.heap.size + 1, 5, none⟩ = some (.slice sa fb.length sc) ∧ w'.cell? ⟨w3.heap.size, 0, none⟩ = some (.slice (some ⟨b, off, none⟩) us.length c3) ∧ w'.cell? ⟨w7.heap.size, 0, none⟩ = some (.slice a7 fs.length c7) ∧ w'.cell? ⟨b, off + fs.length * 6, none⟩ = some (.int .i64 fr) ∧ w'.cell? ⟨b, off + fs.length * 6 + 1, none⟩ = some (.string (mk fp)) ∧ w'.cell? ⟨b, off + fs.length * 6 + 2, none⟩ = some (.string (mk fn)) ∧ w'.cell? ⟨b, off + fs.length * 6 + 3, none⟩ = some (.bool fi) ∧ w'.cell? ⟨b, off + fs.length * 6 + 4, none⟩ = some (.int .i64 fst) ∧ w'.cell? ⟨b, off + fs.length * 6 + 5, none⟩ = some (.slice ba1 fb.length bc1) ∧ Below (w9.alloc (.cells #[.slice a9 yn c9] 25)).heap.size (w9.alloc (.cells #[.slice a9 yn c9] 25)) w') w'))
    have Hsf3 := Lib.hid (show sameFil ⟨fr, fp, fn, fi, fst, fb⟩ ⟨fr, fp, fn, fi, fst, fb⟩ = true from decide_eq_true rfl)
    have HP9 := Lib.hid (bt P9.out.below HW.out)
    have hfl1 : (0 : Int) ≤ (fs.length : Int) := by omega
    have hfl2 : (fs.length : Int) < (us.length : Int) := by omega
    have hfp8 : fp.length ≤ 8 := Hsf.out.1
    have hfn8 : fn.length ≤ 8 := Hsf.out.2.1
    have HSb := Lib.hid (short_mono (B := 8000000) (by omega) Hsf.out.2.2)
    have HOS := Lib.hid (show StmsIn w1 (fun _ => True) (.slice sa fb.length sc) fb from StmsIn.of_owns HO.out (fun _ _ => trivial))
    have HT9 := Lib.hid (HT.out.below (bt E9.out.below HW.out))
    clear c0 c1 c2' c3' c4' c5' hbody
    obtain ⟨m, hm⟩ : ∃ m, m = modOf ⟨fr, fp, fn, fi, fst, fb⟩ := ⟨_, rfl⟩
    have Hm := Lib.hid hm.symm
    rw [← hm] at Hmod
    clear hm
    obtain ⟨x9, g0, g1, g2, g3, g4, g5, u9, k9, c0, c1, c2', c3', c4', c5', _⟩ := Hk.out _ (Below.refl _ _)
    go_wp2_with fail
    go_region_held3 (fun w' => w'.cell? ⟨w1.heap.size, 0, none⟩ = some (.slice va fs.length vc) ∧ w'.cell? ⟨w1.heap.size + 1, 0, none⟩ = some (.int .i64 fr) ∧ w'.cell? ⟨w1.heap.size + 1, 1, none⟩ = some (.string (mk fp)) ∧ w'.cell? ⟨w1.heap.size + 1, 2, none⟩ = some (.string (mk fn)) ∧ w'.cell? ⟨w1.heap.size + 1, 3, none⟩ = some (.bool fi) ∧ w'.cell? ⟨w1.heap.size + 1, 4, none⟩ = some (.int .i64 fst) ∧ w'.cell? ⟨w1.heap.size + 1, 5, none⟩ = some (.slice sa fb.length sc) ∧ w'.cell? ⟨w3.heap.size, 0, none⟩ = some (.slice (some ⟨b, off, none⟩) us.length c3) ∧ w'.cell? ⟨w7.heap.size, 0, none⟩ = some (.slice a7 fs.length c7) ∧ w'.cell? ⟨b, off + fs.length * 6, none⟩ = some (.int .i64 fr) ∧ w'.cell? ⟨b, off + fs.length * 6 + 1, none⟩ = some (.string (mk fp)) ∧ w'.cell? ⟨b, off + fs.length * 6 + 2, none⟩ = some (.string (mk fn)) ∧ w'.cell? ⟨b, off + fs.length * 6 + 3, none⟩ = some (.bool fi) ∧ w'.cell? ⟨b, off + fs.length * 6 + 4, none⟩ = some (.int .i64 fst) ∧ w'.cell? ⟨b, off + fs.length * 6 + 5, none⟩ = some (.slice ba1 fb.length bc1) ∧ Below (w9.alloc (.cells #[.slice a9 yn c9] 25)).heap.size (w9.alloc (.cells #[.slice a9 yn c9] 25)) w')
      (exact Hk.out _ (by (repeat (with_reducible first | exact Below.refl _ _ | assumption | refine ba ?_ _ | refine bd ?_ | refine bdN ?_ _ | refine bs ?_ (by first | exact Nat.le_refl _ | (dsimp only; omega) | (simp; done)) _ | refine bt ?_ (by assumption)))))
      (first
        | (go_at_call 19; refine (laws_equalTree _ _ fs fs (fun _ => True) (fun _ => True) _ (HT9.out.below (by (repeat (with_reducible first | exact Below.refl _ _ | assumption | refine ba ?_ _ | refine bd ?_ | refine bdN ?_ _ | refine bs ?_ (by first | exact Nat.le_refl _ | (dsimp only; omega) | (simp; done)) _ | refine bt ?_ (by assumption))))) (HF.out.below (bt HP9.out (by (repeat (with_reducible first | exact Below.refl _ _ | assumption | refine ba ?_ _ | refine bd ?_ | refine bdN ?_ _ | refine bs ?_ (by first | exact Nat.le_refl _ | (dsimp only; omega) | (simp; done)) _ | refine bt ?_ (by assumption))))))).mono ?_; rintro _ wa ⟨rfl, hba⟩; rw [Hsf2.out])
        | (go_at_call 21; refine (laws_equalFile _ _ _ _ _ _ fb _ _ _ _ _ _ fb (fun _ => True) (fun _ => True) _ (Hbody.out.below (by (repeat (with_reducible first | exact Below.refl _ _ | assumption | refine ba ?_ _ | refine bd ?_ | refine bdN ?_ _ | refine bs ?_ (by first | exact Nat.le_refl _ | (dsimp only; omega) | (simp; done)) _ | refine bt ?_ (by assumption))))) (HOS.out.below (bt HP9.out (by (repeat (with_reducible first | exact Below.refl _ _ | assumption | refine ba ?_ _ | refine bd ?_ | refine bdN ?_ _ | refine bs ?_ (by first | exact Nat.le_refl _ | (dsimp only; omega) | (simp; done)) _ | refine bt ?_ (by assumption))))))).mono ?_; rintro _ wb ⟨rfl, hbb⟩; rw [Hsf3.out])
        | (go_at_call 23; refine (impl_ModulesOf _ us (fun _ => True) _ (HUw.out.below (by (repeat (with_reducible first | exact Below.refl _ _ | assumption | refine ba ?_ _ | refine bd ?_ | refine bdN ?_ _ | refine bs ?_ (by first | exact Nat.le_refl _ | (dsimp only; omega) | (simp; done)) _ | refine bt ?_ (by assumption))))) HzU.out).mono ?_; rintro _ wd ⟨vd, rfl, hownd, hbd⟩; have RM := Lib.hid (Reads.of_owns hownd); obtain ⟨ad, cd, rfl⟩ := owns_shape hownd; clear hownd)
        | (go_at_call 15; refine (impl_ModuleOf _ _ _ _ _ _ fb (fun _ => True) _ (by omega) (by omega) (HOS.out.below (bt HP9.out (by (repeat (with_reducible first | exact Below.refl _ _ | assumption | refine ba ?_ _ | refine bd ?_ | refine bdN ?_ _ | refine bs ?_ (by first | exact Nat.le_refl _ | (dsimp only; omega) | (simp; done)) _ | refine bt ?_ (by assumption)))))) HSb.out).mono ?_; rintro _ we ⟨rfl, hbe⟩; rw [Hm.out])
        | (go_at_call 22; refine (laws_hasText _ (modulesOf us) m _ (RM.out.below (by (repeat (with_reducible first | exact Below.refl _ _ | assumption | refine ba ?_ _ | refine bd ?_ | refine bdN ?_ _ | refine bs ?_ (by first | exact Nat.le_refl _ | (dsimp only; omega) | (simp; done)) _ | refine bt ?_ (by assumption))))) (by omega)).mono ?_; rintro _ _ ⟨rfl, rfl⟩; rw [Hmod.out]))
    go_wp2_with fail
    go_ret
    exact ⟨rfl, bt Hb1.out (bt HP9.out (by (repeat (with_reducible first | exact Below.refl _ _ | assumption | refine ba ?_ _ | refine bd ?_ | refine bdN ?_ _ | refine bs ?_ (by first | exact Nat.le_refl _ | (dsimp only; omega) | (simp; done)) _ | refine bt ?_ (by assumption)))))⟩

/-! ### THE STEP TO THE ROW -/
set_option maxRecDepth 100000 in
theorem lifted (os : Os) (started : os.Started) (H : Type) (enc : TypeId × Value → H) :
    ReturnsInHanded {} Try.checked os 4 .any (Rows.fnAddFileSpec.pre6 enc Try.prog Try.f4 Rows.fnAddFileRow.domain false) (Rows.fnAddFileSpec.post enc Try.prog Try.f4 false true false false) := by
  refine returnsInHanded_of_change (C := Try.checked) own started (by kernel_rfl) Try.func4
    (ChangeSpec.witness6 (enc := enc) (C := Try.checked) false ⟨#[], #[.slice none 0 0], []⟩ 8 (by kernel_rfl) (by kernel_rfl) (by kernel_rfl) (by kernel_rfl)) ?_
  intro W base args ds gs before hval0 hW hcnd _
  have hval : ∀ (j : Nat) t v, Try.f4.params[j]? = some t → args[j]? = some v → Value.okWide Try.prog W .any base t v := hval0
  have hW' := hW
  obtain ⟨p, q, hA0, hV, rfl, hfz, hnd⟩ := hW
  have hA : DataW.TrodAll enc Try.prog W 0 (fun _ => true) true Try.f4.params.toList args.toList ds p := hA0
  rw [Try.params4] at hA hval
  obtain ⟨v0, vs0, d0, ds0, p0, q0, hargs, rfl, rfl, h0, r0⟩ := trodAll_cons hA
  obtain ⟨rfl, rfl, rfl⟩ := trodAll_nil r0
  obtain rfl : args = #[v0] := by cases args; simp_all
  obtain ⟨rfl, rfl⟩ := trodVars_none hV
  obtain ⟨a0, len0, cap0, rfl⟩ := okWide_slice Try.underlying22 (hval 0 22 v0 rfl rfl)
  have k0 := h0
  have lt0 : ∀ x ∈ p0, x.block < W.heap.size := by obtain ⟨m, hm⟩ := k0; exact DataW.trod_lt m _ _ _ hm
  have w0 : Code W W.heap.size a0 len0 cap0 := by
    obtain ⟨fuel, hf⟩ := h0
    rcases open_ints Try.underlying22 Try.underlying5 (by kernel_rfl) hf with ⟨hcs, _⟩ | ⟨x, l, c, zs, hcs, _, hl, hm, hz, _, hcell, hwz⟩
    · simp [Value.cells] at hcs
      obtain ⟨rfl, rfl, rfl⟩ := hcs
      exact .inl ⟨rfl, by unfold maxLen; omega⟩
    · simp [Value.cells] at hcs
      obtain ⟨rfl, rfl, rfl⟩ := hcs
      exact code_row W _ _ _ zs hl hm (by simpa using hz) hcell hwz
  clear hA0 hval0
  refine (walk a0 len0 cap0 W w0).mono fun e W' ⟨he, bel⟩ => ?_
  subst he
  exact ⟨_, rfl, _, _, _, [], _, [], hW', trodAll_mk1 (shut_bool Try.underlying4 _), (trodAll_cons_mk (Below.trod laidOut (by kernel_rfl) (of_decide_eq_true (by kernel_rfl)) k0 bel lt0) trodAll_mk0), rfl, bel.frame _, fun h => by cases h⟩

theorem over : Rows.fnAddFileRow.holds Try.pinned (OpenSpec.ofChange Rows.fnAddFileSpec) :=
  OpenClaim.holds_of_wide 4 Try.f4 rfl rfl rfl rfl rfl rfl rfl ⟨rfl, rfl, rfl, rfl, rfl⟩ rfl rfl rfl rfl rfl (by kernel_rfl) Try.func4 (by kernel_rfl)
    (of_decide_eq_true (by kernel_rfl)) (by unfold Func.isWrapper; first | (rw [if_pos (by decide +kernel)]; kernel_rfl) | (rw [if_neg (by decide +kernel)]; exact ⟨rfl, rfl⟩))
    (fun os started H enc _ => lifted os started H enc)

/-- THE STATEMENT -/
theorem proved : Rows.FnAddFileSaid := over
end Go.Proofs.Ytfelbhpgifgkcaa.FnAddFile
