/- FnHiddenFilesGone returns true for every code. Written by mklaws.py. -/
import Derived.Test.YtfelbhpgifgkcaaGreatDrawO
import Derived.Test.YtfelbhpgifgkcaaGreatTrees
import Derived.Test.YtfelbhpgifgkcaaGreatLooks
import Derived.Test.YtfelbhpgifgkcaaGreatSLooks
import Derived.Test.YtfelbhpgifgkcaaGreatHidden
import Derived.Test.YtfelbhpgifgkcaaGreatSHidden
import Derived.Test.YtfelbhpgifgkcaaGreatEqFind
import Derived.Test.YtfelbhpgifgkcaaGreatAdds2
import Derived.Test.YtfelbhpgifgkcaaGreatSame
import Derived.Test.YtfelbhpgifgkcaaGreatPlainS
import Derived.Test.YtfelbhpgifgkcaaGreatBoxT
import Derived.Test.YtfelbhpgifgkcaaGreatDirs2
import Derived.Test.YtfelbhpgifgkcaaGreatFrame
import Derived.RegionCalls
import Derived.Deep.RegionLaw
import Derived.Deep.RegionHeld3
import Derived.Deep.DeepCutAuto
set_option linter.unusedVariables false
set_option linter.unusedSimpArgs false
namespace Go.Proofs.YtfelbhpgifgkcaaGreat.FnHiddenFilesGone
open Go.Sort Go.ChangeShapes Go.WideShapes Go.ChangeAt Go.RowKit Go.Proofs.YtfelbhpgifgkcaaGreat.Nm

theorem boxC_set {w : World} {X : Nat} {u : Value} (h : BoxC w X #[u]) (v : Value) : BoxC (w.setCell ⟨X, 0, none⟩ v) X #[v] := by
  refine ⟨by simpa using h.1, fun i => ?_⟩
  cases i with
  | zero => simp [go_sem, h.2 0]
  | succ n => rw [World.cell?_setCell_other _ _ _ _ (by simp)]; simpa using h.2 (n + 1)
theorem box_kept {w w1 : World} {u : Value} {T : TypeId} (h : Below (w.alloc (.cells #[u] T)).heap.size (w.alloc (.cells #[u] T)) w1) : w1.cell? ⟨w.heap.size, 0, none⟩ = some u ∧ w1.frozen? ⟨w.heap.size, 0, none⟩ = false ∧ w.heap.size < w1.heap.size := by
  have hb := (BoxC.start w #[u] T).below h
  exact ⟨hb.2 0, (h.frozen (p := ⟨w.heap.size, 0, none⟩) (by simp)).trans (by simp [go_sem]), hb.1⟩
theorem box_drew {w w1 : World} {o : Obj} (h : Below (w.alloc o).drew.heap.size (w.alloc o).drew w1) : Below (w.alloc o).heap.size (w.alloc o) w1 := bt (bd (Below.refl _ _)) h
theorem hidden_first {t : List Fil} {path : List Int} (h : 0 < (hidden t path).length) : ∃ (i : Nat) (hi : i < t.length), (hidden t path)[0] = (i : Int) ∧ okLook t path = true ∧ (t[i].pack = [] ∨ hasDir (t.eraseIdx i) t[i].root t[i].pack = true → sameLook t (t.eraseIdx i) path = true) ∧ remFil t (i : Int) = (t.eraseIdx i, true) := by
  have hl : okLook t path = true := by
    cases e : okLook t path
    · rw [hidden_no e] at h; exact absurd h (by simp)
    · rfl
  have hm : (hidden t path)[0] ∈ hidden t path := List.getElem_mem h
  have e2 : hidden t path = hiddenGo t path t 0 := by unfold hidden; rw [if_pos hl]
  have hm2 : (hidden t path)[0] ∈ hiddenGo t path t 0 := by
    have h2 := hm
    generalize (hidden t path)[0] = x at h2 ⊢
    rw [e2] at h2
    exact h2
  rw [mem_hiddenGo] at hm2
  obtain ⟨i, hi, e, _⟩ := hm2
  have e' : (hidden t path)[0] = (i : Int) := by rw [e]; omega
  refine ⟨i, hi, e', hl, fun hd => ?_, ?_⟩
  · rw [← sameLook_eq]
    refine hidden_gone hl hi (by rw [← e']; exact hm) ?_
    rcases hd with hd | hd
    · exact .inl hd
    · exact .inr (hasDir_of hd).2
  · unfold remFil inr
    rw [okLook_tree hl, decide_eq_true (show (0 : Int) ≤ (i : Int) by omega), decide_eq_true (show (i : Int) ≤ (t.length : Int) - 1 by omega)]
    simp
set_option maxRecDepth 100000 in
set_option maxHeartbeats 6000000 in
theorem walk (a : Option Addr) (n cap : Nat) (w : World) (hc : Code w w.heap.size a n cap) :
    Calls Tryz.prog 4 #[.slice a n cap] w fun e w' => e = .returned (.bool true) ∧ Below w.heap.size w w' := by
  by_cases hn : (1048576 : Int) < (n : Int)
  · go_enter Tryz.func4, Tryz.ntmps4
    go_wp2_with fail
    go_ret
    exact ⟨rfl, Below.refl _ _⟩
  have Hc := Lib.hid hc
  clear hc
  go_enter Tryz.func4, Tryz.ntmps4
  go_wp2_with fail
  refine (spec_DrawHiddenFiles a n cap w Hc.out).mono ?_
  rintro e w1 ⟨v, ps, pv, xs, rfl, ⟨hrows, hsh, hl, hb5, hb1⟩, hp, hx3⟩
  obtain ⟨va, vc, rfl⟩ := hrows.len
  have HR := Lib.hid hrows
  obtain ⟨fs, hfs⟩ : ∃ fs, fs = ps.map (·.1) := ⟨_, rfl⟩
  have Hfs := Lib.hid hfs
  have hfl : fs.length = ps.length := by rw [hfs, List.length_map]
  have HF := Lib.hid (show FilsIn w1 (fun _ => True) (.slice va ps.length vc) fs by rw [hfs]; exact hrows.fils)
  have Hz8 := Lib.hid (show ShortT 8000000 fs by rw [hfs]; exact shortT_mono (by omega) hsh)
  have Hz3 := Lib.hid (show ShortT 3000000 fs by rw [hfs]; exact shortT_mono (by omega) hsh)
  have Hz2 := Lib.hid (show ShortT 2000000 fs by rw [hfs]; exact shortT_mono (by omega) hsh)
  have Hs8 := Lib.hid (show ShortT 8 fs by rw [hfs]; exact hsh)
  have Hb5 := Lib.hid (show ∀ f ∈ fs, f.body.length ≤ 5 by rw [hfs]; intro f hf; obtain ⟨p, hp, rfl⟩ := List.mem_map.1 hf; exact hb5 p hp)
  have Hb1 := Lib.hid hb1
  have B0 := Boxed.start w1 #[.slice va ps.length vc] 25
  have hl11 : fs.length ≤ 11 := by omega
  clear hrows hsh hb5 hb1 hfs
  generalize ps.length = pn at *
  subst hfl
  have X1 := Lib.hid B0
  clear B0
  obtain ⟨pa, pc, rfl⟩ := hp.len
  have HP := Lib.hid hp.ints
  clear hp
  go_wp2_with fail
  refine (impl_HiddenFiles _ fs (fun _ => True) _ xs _ (HF.out.below X1.out.below) Hz2.out (HP.out.below X1.out.below)).mono ?_
  rintro _ w2 ⟨v2, rfl, hown2, hb2⟩
  have R2 := Lib.hid (IntsIn.of_owns hown2)
  obtain ⟨a2, c2, rfl⟩ := owns_shape hown2
  have X2 := Lib.hid (X1.out.step hb2)
  have x2 : w2.cell? ⟨w1.heap.size, 0, none⟩ = some (.slice va fs.length vc) := X2.out.cell 0
  clear hb2 hown2
  go_wp2_with fail
  refine (spec_HiddenFiles _ fs (fun _ => True) _ xs _ (HF.out.below X2.out.below) Hz2.out (HP.out.below X2.out.below)).mono ?_
  rintro _ w3 ⟨v3, rfl, hown3, hb3⟩
  have R3 := Lib.hid (IntsIn.of_owns hown3)
  obtain ⟨a3, c3, rfl⟩ := owns_shape hown3
  have X3 := Lib.hid (X2.out.step hb3)
  have x3 : w3.cell? ⟨w1.heap.size, 0, none⟩ = some (.slice va fs.length vc) := X3.out.cell 0
  have R2 := Lib.hid (IntsIn.below R2.out hb3)
  clear hb3 hown3 x2
  go_wp2_with fail
  refine (laws_equalInts _ _ _ _ _ R2.out R3.out).mono ?_
  rintro _ w4 ⟨rfl, hb4⟩
  rw [decide_eq_true rfl]
  have X4 := Lib.hid (X3.out.step hb4)
  have x4 : w4.cell? ⟨w1.heap.size, 0, none⟩ = some (.slice va fs.length vc) := X4.out.cell 0
  have R2 := Lib.hid (IntsIn.below R2.out hb4)
  clear hb4 x3
  by_cases h0 : (hidden fs xs).length = 0
  · have He := List.length_eq_zero_iff.1 h0
    have HE := Lib.hid He
    rw [He] at R2 ⊢
    simp only [List.length_nil] at R2 ⊢
    clear h0 He
    go_wp2_with fail
    refine (spec_HiddenFiles _ fs (fun _ => True) _ xs _ (HF.out.below X4.out.below) Hz2.out (HP.out.below X4.out.below)).mono ?_
    rintro _ w5 ⟨v5, rfl, hown5, hb5⟩
    rw [HE.out] at hown5
    have R5 := Lib.hid (IntsIn.of_owns hown5)
    obtain ⟨a5, c5, rfl⟩ := owns_shape hown5
    have X5 := Lib.hid (X4.out.step hb5)
    have R2b := Lib.hid (IntsIn.below R2.out hb5)
    clear hb5 hown5
    simp only [List.length_nil] at R5 ⊢
    go_wp2_with fail
    refine (laws_equalInts _ _ [] [] _ R2b.out R5.out).mono ?_
    rintro _ w6 ⟨rfl, hb6⟩
    rw [decide_eq_true rfl]
    go_wp2_with fail
    go_ret
    exact ⟨rfl, bt Hb1.out (bt X5.out.below hb6)⟩
  · have h0b : (((hidden fs xs).length : Int) == 0) = false := by rw [beq_eq_false_iff_ne]; omega
    have h0n : ((hidden fs xs).length == 0) = false := by rw [beq_eq_false_iff_ne]; exact h0
    have h0e : ¬ hidden fs xs = [] := fun e => h0 (by rw [e]; rfl)
    have R2' := R2.out
    have hne : 0 < (hidden fs xs).length := by omega
    obtain ⟨i, hi, hh0, hlk, hgone, hrem⟩ := hidden_first hne
    have Hgone := Lib.hid hgone
    have Hrem := Lib.hid (show remFil (ps.map (·.1)) (i : Int) = (fs.eraseIdx i, true) by rw [← Hfs.out]; exact hrem)
    have hel : (fs.eraseIdx i).length ≤ 12 := by rw [List.length_eraseIdx]; split <;> omega
    have Hez := Lib.hid (show ShortT 2000000 (fs.eraseIdx i) from fun f hf => Hz2.out f (List.mem_of_mem_eraseIdx hf))
    obtain ⟨b, off, cap', bv, e, hD, hb, hbody, c0, c1, c2', c3, c4', c5⟩ := (HF.out.below X4.out.below).at_ hi
    simp only [Value.slice.injEq] at e
    obtain ⟨rfl, _, rfl⟩ := e
    obtain ⟨ba1, bc1, rfl, _, _⟩ := hbody.len
    obtain ⟨pb, po, pc', pe, hpb, hpc⟩ := R2.out.at_ hne
    simp only [Value.slice.injEq] at pe
    obtain ⟨rfl, _, rfl⟩ := pe
    rw [hh0] at hpc
    have hz := Hs8.out _ (List.getElem_mem hi)
    obtain ⟨f, hf⟩ : ∃ f, f = fs[i] := ⟨_, rfl⟩
    rw [← hf] at c0 c1 c2' c3 c4' c5 hz Hgone
    obtain ⟨us, hus⟩ : ∃ us, us = fs.eraseIdx i := ⟨_, rfl⟩
    rw [← hus] at Hgone Hrem hel Hez
    clear hf hus hbody hrem hgone R2'
    obtain ⟨fr, fp, fn, fi, fst, fb⟩ := f
    obtain ⟨hz1, hz2', hz3⟩ := hz
    dsimp only at c0 c1 c2' c3 c4' c5 hz1 hz2' hz3 Hgone
    have hi1 : (i : Int) < (fs.length : Int) := by omega
    have hi0 : (0 : Int) ≤ (i : Int) := by omega
    have hnl : (0 : Int) < ((hidden fs xs).length : Int) := by omega
    have Hcell := Lib.hid (fun (w' : World) (hB : Below w4.heap.size w4 w') => (⟨(X4.out.step hB).cell 0, (hB.cell (p := ⟨pb, _, none⟩) hpb).trans hpc, (hB.cell (p := ⟨b, _, none⟩) hb).trans c0, (hB.cell (p := ⟨b, _, none⟩) hb).trans c1, (hB.cell (p := ⟨b, _, none⟩) hb).trans c2', (hB.cell (p := ⟨b, _, none⟩) hb).trans c3, (hB.cell (p := ⟨b, _, none⟩) hb).trans c4', (hB.cell (p := ⟨b, _, none⟩) hb).trans c5, hB⟩ :
      w'.cell? ⟨w1.heap.size, 0, none⟩ = some (.slice (some ⟨b, off, none⟩) fs.length vc) ∧ w'.cell? ⟨pb, po + 0, none⟩ = some (.int .i64 i) ∧ w'.cell? ⟨b, off + i * 6, none⟩ = some (.int .i64 fr) ∧ w'.cell? ⟨b, off + i * 6 + 1, none⟩ = some (.string (mk fp)) ∧ w'.cell? ⟨b, off + i * 6 + 2, none⟩ = some (.string (mk fn)) ∧ w'.cell? ⟨b, off + i * 6 + 3, none⟩ = some (.bool fi) ∧ w'.cell? ⟨b, off + i * 6 + 4, none⟩ = some (.int .i64 fst) ∧ w'.cell? ⟨b, off + i * 6 + 5, none⟩ = some (.slice ba1 fb.length bc1) ∧ Below w4.heap.size w4 w'))
    simp only [Nat.add_zero] at Hcell
    generalize hidden fs xs = hs at *
    clear x4 c0 c1 c2' c3 c4' c5 hpc hh0
    obtain ⟨x0, x1, x2, x3, x4, x5, x6, x7, _⟩ := Hcell.out _ (Below.refl _ _)
    go_upto_region 7 with fail
    go_cut [6, 7] (fun s6 s7 wx => ∃ (X : Nat) (a : Option Addr) (c : Nat), s6 = .pointer (some ⟨X, 0, none⟩) ∧ s7 = .bool true ∧ BoxC wx X #[.slice a us.length c] ∧ FilsIn wx (fun _ => True) (.slice a us.length c) us ∧ Below w4.heap.size w4 wx)
    case first =>
      clear x2 x3 x4 x5 x6 x7
      go_region_held3 (fun w' => w'.cell? ⟨w1.heap.size, 0, none⟩ = some (.slice (some ⟨b, off, none⟩) fs.length vc) ∧ w'.cell? ⟨pb, po, none⟩ = some (.int .i64 i) ∧ Below w4.heap.size w4 w')
        (exact ⟨(Hcell.out _ (by (repeat (with_reducible first | exact Below.refl _ _ | assumption | refine ba ?_ _ | refine bd ?_ | refine bdN ?_ _ | refine bs ?_ (by first | exact Nat.le_refl _ | (dsimp only; omega) | (simp; done)) _ | refine bt ?_ (by assumption))))).1, (Hcell.out _ (by (repeat (with_reducible first | exact Below.refl _ _ | assumption | refine ba ?_ _ | refine bd ?_ | refine bdN ?_ _ | refine bs ?_ (by first | exact Nat.le_refl _ | (dsimp only; omega) | (simp; done)) _ | refine bt ?_ (by assumption))))).2.1, by (repeat (with_reducible first | exact Below.refl _ _ | assumption | refine ba ?_ _ | refine bd ?_ | refine bdN ?_ _ | refine bs ?_ (by first | exact Nat.le_refl _ | (dsimp only; omega) | (simp; done)) _ | refine bt ?_ (by assumption)))⟩)
        (first
          | (go_at_call 17; refine (impl_RemoveFile _ ps (i : Int) _ ⟨owns_mono (HR.out.below (bt X4.out.below (by (repeat (with_reducible first | exact Below.refl _ _ | assumption | refine ba ?_ _ | refine bd ?_ | refine bdN ?_ _ | refine bs ?_ (by first | exact Nat.le_refl _ | (dsimp only; omega) | (simp; done)) _ | refine bt ?_ (by assumption)))))).1 (Nat.zero_le _), fun p hp => owns_mono ((HR.out.below (bt X4.out.below (by (repeat (with_reducible first | exact Below.refl _ _ | assumption | refine ba ?_ _ | refine bd ?_ | refine bdN ?_ _ | refine bs ?_ (by first | exact Nat.le_refl _ | (dsimp only; omega) | (simp; done)) _ | refine bt ?_ (by assumption)))))).2 p hp) (Nat.zero_le _)⟩ (by rw [← Hfs.out]; exact Hz2.out) (by have := congrArg List.length Hfs.out; rw [List.length_map] at this; omega)).mono ?_; rintro _ w5 ⟨v5, qs, rfl, hq, ho5, hb5⟩; rw [Hrem.out] at hq ⊢; dsimp only at hq ⊢; have hql : qs.length = us.length := (by rw [← hq, List.length_map]); have HU := Lib.hid (show FilsIn w5 (fun _ => True) v5 us by rw [← hq]; exact ho5.fils (fun _ _ => trivial)); have HO := Lib.hid ho5; have Hq := Lib.hid hq; obtain ⟨a5, c5, rfl⟩ := ho5.len; rw [hql] at HU HO ⊢; clear ho5 hq; (first | (have hxk := box_kept hb5; obtain ⟨xk0, xf0, xks⟩ := hxk) | (have hxk := box_kept (box_drew hb5); obtain ⟨xk0, xf0, xks⟩ := hxk) | skip)))
      all_goals (go_wp2_with fail; go_meet; refine ⟨_, a5, c5, rfl, rfl, ?_, ?_, ?_⟩)
      all_goals first
        | exact ((BoxC.start _ _ _).at (by first | rfl | simp))
        | exact boxC_set (((BoxC.start _ _ _).below hb5).at (by first | rfl | simp)) _
        | exact boxC_set (((BoxC.start _ _ _).below (box_drew hb5)).at (by first | rfl | simp)) _
        | exact HU.out.below (ba (Below.refl _ _) _)
        | (have h := (HO.out.set_low (p := ⟨w4.heap.size, 0, none⟩) (by simp) (.slice a5 us.length c5)).fils (D := fun _ => True) (fun _ _ => trivial); rw [Hq.out] at h; exact h)
        | ((repeat (with_reducible first | exact Below.refl _ _ | assumption | refine ba ?_ _ | refine bd ?_ | refine bdN ?_ _ | refine bs ?_ (by first | exact Nat.le_refl _ | (dsimp only; omega) | (simp; done)) _ | refine bt ?_ (by assumption))); done)
        | trace_state
    case rest =>
      obtain ⟨X, a5, c5, rfl, rfl, hX, hU, hbX⟩ := hcut
      have E5 := Lib.hid hX
      have HU := Lib.hid hU
      have HbX := Lib.hid hbX
      clear hX hU hbX x0 x1 x2 x3 x4 x5 x6 x7
      obtain ⟨x0, x1, x2, x3, x4, x5, x6, x7, _⟩ := Hcell.out _ HbX.out
      go_upto_region 8 with fail
      obtain ⟨wb, hwb⟩ : ∃ wb, wb = wc := ⟨_, rfl⟩
      rw [← hwb] at E5 HU HbX x0 x1 x2 x3 x4 x5 x6 x7 ⊢
      clear hwb
      go_cut [8] (fun s8 wx => ∃ Y : Nat, s8 = .pointer (some ⟨Y, 0, none⟩) ∧ BoxC wx Y #[.int .i64 fr, .string (mk fp), .string (mk fn), .bool fi, .int .i64 fst, .slice ba1 fb.length bc1] ∧ Below wb.heap.size wb wx)
      case first =>
        have Hcx := Lib.hid (fun (w' : World) (hB : Below wb.heap.size wb w') => (by obtain ⟨q0, q1, q2, q3, q4, q5, q6, q7, _⟩ := Hcell.out w' (bt HbX.out hB); exact ⟨q0, q1, q2, q3, q4, q5, q6, q7, hB⟩ : w'.cell? ⟨w1.heap.size, 0, none⟩ = some (.slice (some ⟨b, off, none⟩) fs.length vc) ∧ w'.cell? ⟨pb, po, none⟩ = some (.int .i64 i) ∧ w'.cell? ⟨b, off + i * 6, none⟩ = some (.int .i64 fr) ∧ w'.cell? ⟨b, off + i * 6 + 1, none⟩ = some (.string (mk fp)) ∧ w'.cell? ⟨b, off + i * 6 + 2, none⟩ = some (.string (mk fn)) ∧ w'.cell? ⟨b, off + i * 6 + 3, none⟩ = some (.bool fi) ∧ w'.cell? ⟨b, off + i * 6 + 4, none⟩ = some (.int .i64 fst) ∧ w'.cell? ⟨b, off + i * 6 + 5, none⟩ = some (.slice ba1 fb.length bc1) ∧ Below wb.heap.size wb w'))
        go_region_held3 (fun w' => w'.cell? ⟨w1.heap.size, 0, none⟩ = some (.slice (some ⟨b, off, none⟩) fs.length vc) ∧ w'.cell? ⟨pb, po, none⟩ = some (.int .i64 i) ∧ w'.cell? ⟨b, off + i * 6, none⟩ = some (.int .i64 fr) ∧ w'.cell? ⟨b, off + i * 6 + 1, none⟩ = some (.string (mk fp)) ∧ w'.cell? ⟨b, off + i * 6 + 2, none⟩ = some (.string (mk fn)) ∧ w'.cell? ⟨b, off + i * 6 + 3, none⟩ = some (.bool fi) ∧ w'.cell? ⟨b, off + i * 6 + 4, none⟩ = some (.int .i64 fst) ∧ w'.cell? ⟨b, off + i * 6 + 5, none⟩ = some (.slice ba1 fb.length bc1) ∧ Below wb.heap.size wb w')
          ((refine Hcx.out _ ?_; (repeat (with_reducible first | exact Below.refl _ _ | assumption | refine ba ?_ _ | refine bd ?_ | refine bdN ?_ _ | refine bs ?_ (by first | exact Nat.le_refl _ | (dsimp only; omega) | (simp; done)) _ | refine bt ?_ (by assumption))); done))
          (first | fail)
        all_goals (go_wp2_with fail; go_meet; refine ⟨_, rfl, ?_, ?_⟩)
        all_goals first
          | exact ((BoxC.start _ _ _).at (by first | rfl | simp))
          | exact ((BoxC.start _ _ _).drew).at (by first | rfl | simp)
          | ((repeat (with_reducible first | exact Below.refl _ _ | assumption | refine ba ?_ _ | refine bd ?_ | refine bdN ?_ _ | refine bs ?_ (by first | exact Nat.le_refl _ | (dsimp only; omega) | (simp; done)) _ | refine bt ?_ (by assumption))); done)
          | trace_state
      case rest =>
        obtain ⟨Y, rfl, hY, hbY⟩ := hcut
        have HbY := Lib.hid (bt HbX.out hbY)
        have y0 := hY.2 0
        have y1 := hY.2 1
        have e0 := (E5.out.below hbY).2 0
        have FY := Lib.hid hY
        have EY := Lib.hid (E5.out.below hbY)
        have HUY := Lib.hid (HU.out.below hbY)
        clear hY hbY x0 x1 x2 x3 x4 x5 x6 x7
        have HXY := Lib.hid (X4.out.step HbY.out)
        have x0 : wc.cell? ⟨w1.heap.size, 0, none⟩ = some (.slice (some ⟨b, off, none⟩) fs.length vc) := HXY.out.cell 0
        by_cases h0 : fp = []
        · subst h0
          have Hsame := Lib.hid (Hgone.out (.inl rfl))
          go_wp2_with fail
          refine (impl_SameFinds _ fs (fun _ => True) _ us (fun _ => True) _ xs _ (HF.out.below HXY.out.below) Hz2.out HUY.out Hez.out (HP.out.below HXY.out.below)).mono ?_
          rintro _ w7 ⟨rfl, hb7⟩
          rw [Hsame.out]
          go_wp2_with fail
          go_ret
          exact ⟨rfl, bt Hb1.out (bt HXY.out.below hb7)⟩
        · have h0b : (fp == []) = false := by simpa using h0
          have h0n : (fp != []) = true := by rw [bne, h0b]; rfl
          have h0c : fp.isEmpty = false := by simpa using h0
          obtain ⟨q, hq⟩ : ∃ q, q = hasDir us fr fp := ⟨_, rfl⟩
          have Hq := Lib.hid hq.symm
          clear hq h0
          cases q
          · go_wp2_with fail
            refine (impl_HasDir _ us (fun _ => True) fr fp _ HUY.out Hez.out (by omega)).mono ?_
            rintro _ w7 ⟨rfl, hb7⟩
            rw [Hq.out]
            go_wp2_with fail
            go_ret
            exact ⟨rfl, bt Hb1.out (bt HXY.out.below hb7)⟩
          · have Hsame := Lib.hid (Hgone.out (.inr Hq.out))
            go_wp2_with fail
            refine (impl_HasDir _ us (fun _ => True) fr fp _ HUY.out Hez.out (by omega)).mono ?_
            rintro _ w7 ⟨rfl, hb7⟩
            rw [Hq.out]
            have HX7 := Lib.hid (HXY.out.step hb7)
            have HU7 := Lib.hid (HUY.out.below hb7)
            have x0' : w7.cell? ⟨w1.heap.size, 0, none⟩ = some (.slice (some ⟨b, off, none⟩) fs.length vc) := HX7.out.cell 0
            have e0' := (EY.out.below hb7).2 0
            clear x0 y0 y1 e0
            go_wp2_with fail
            refine (impl_SameFinds _ fs (fun _ => True) _ us (fun _ => True) _ xs _ (HF.out.below HX7.out.below) Hz2.out HU7.out Hez.out (HP.out.below HX7.out.below)).mono ?_
            rintro _ w8 ⟨rfl, hb8⟩
            rw [Hsame.out]
            go_wp2_with fail
            go_ret
            exact ⟨rfl, bt Hb1.out (bt HX7.out.below hb8)⟩

/-! ### THE STEP TO THE ROW -/
set_option maxRecDepth 100000 in
theorem lifted (os : Os) (started : os.Started) (H : Type) (enc : TypeId × Value → H) :
    ReturnsInHanded {} Tryz.checked os 4 .any (Rows.fnHiddenFilesGoneSpec.pre6 enc Tryz.prog Tryz.f4 Rows.fnHiddenFilesGoneRow.domain false) (Rows.fnHiddenFilesGoneSpec.post enc Tryz.prog Tryz.f4 false true false false) := by
  refine returnsInHanded_of_change (C := Tryz.checked) own started (by kernel_rfl) Tryz.func4
    (ChangeSpec.witness6 (enc := enc) (C := Tryz.checked) false ⟨#[], #[.slice none 0 0], []⟩ 8 (by kernel_rfl) (by kernel_rfl) (by kernel_rfl) (by kernel_rfl)) ?_
  intro W base args ds gs before hval0 hW hcnd _
  have hval : ∀ (j : Nat) t v, Tryz.f4.params[j]? = some t → args[j]? = some v → Value.okWide Tryz.prog W .any base t v := hval0
  have hW' := hW
  obtain ⟨p, q, hA0, hV, rfl, hfz, hnd⟩ := hW
  have hA : DataW.TrodAll enc Tryz.prog W 0 (fun _ => true) true Tryz.f4.params.toList args.toList ds p := hA0
  rw [Tryz.params4] at hA hval
  obtain ⟨v0, vs0, d0, ds0, p0, q0, hargs, rfl, rfl, h0, r0⟩ := trodAll_cons hA
  obtain ⟨rfl, rfl, rfl⟩ := trodAll_nil r0
  obtain rfl : args = #[v0] := by cases args; simp_all
  obtain ⟨rfl, rfl⟩ := trodVars_none hV
  obtain ⟨a0, len0, cap0, rfl⟩ := okWide_slice Tryz.underlying22 (hval 0 22 v0 rfl rfl)
  have k0 := h0
  have lt0 : ∀ x ∈ p0, x.block < W.heap.size := by obtain ⟨m, hm⟩ := k0; exact DataW.trod_lt m _ _ _ hm
  have w0 : Code W W.heap.size a0 len0 cap0 := by
    obtain ⟨fuel, hf⟩ := h0
    rcases open_ints Tryz.underlying22 Tryz.underlying5 (by kernel_rfl) hf with ⟨hcs, _⟩ | ⟨x, l, c, zs, hcs, _, hl, hm, hz, _, hcell, hwz⟩
    · simp [Value.cells] at hcs
      obtain ⟨rfl, rfl, rfl⟩ := hcs
      exact .inl ⟨rfl, by unfold maxLen; omega⟩
    · simp [Value.cells] at hcs
      obtain ⟨rfl, rfl, rfl⟩ := hcs
      exact code_row W _ _ _ zs hl hm (by simpa using hz) hcell hwz
  clear hA0 hval0
  refine (walk a0 len0 cap0 W w0).mono fun e W' ⟨he, bel⟩ => ?_
  subst he
  exact ⟨_, rfl, _, _, _, [], _, [], hW', trodAll_mk1 (shut_bool Tryz.underlying4 _), (trodAll_cons_mk (Below.trod laidOut (by kernel_rfl) (of_decide_eq_true (by kernel_rfl)) k0 bel lt0) trodAll_mk0), rfl, bel.frame _, fun h => by cases h⟩

theorem over : Rows.fnHiddenFilesGoneRow.holds Tryz.pinned (OpenSpec.ofChange Rows.fnHiddenFilesGoneSpec) :=
  OpenClaim.holds_of_wide 4 Tryz.f4 rfl rfl rfl rfl rfl rfl rfl ⟨rfl, rfl, rfl, rfl, rfl⟩ rfl rfl rfl rfl rfl (by kernel_rfl) Tryz.func4 (by kernel_rfl)
    (of_decide_eq_true (by kernel_rfl)) (by unfold Func.isWrapper; first | (rw [if_pos (by decide +kernel)]; kernel_rfl) | (rw [if_neg (by decide +kernel)]; exact ⟨rfl, rfl⟩))
    (fun os started H enc _ => lifted os started H enc)

/-- THE STATEMENT -/
theorem proved : Rows.FnHiddenFilesGoneSaid := over
end Go.Proofs.YtfelbhpgifgkcaaGreat.FnHiddenFilesGone
