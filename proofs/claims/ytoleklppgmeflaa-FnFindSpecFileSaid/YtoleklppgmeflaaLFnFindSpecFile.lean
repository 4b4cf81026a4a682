/- FnFindSpecFile returns true for every code. Written by mklaws.py. -/
import Derived.Test.YtoleklppgmeflaaDrawO
import Derived.Test.YtoleklppgmeflaaTrees
import Derived.Test.YtoleklppgmeflaaLooks
import Derived.Test.YtoleklppgmeflaaSLooks
import Derived.Test.YtoleklppgmeflaaKin
import Derived.Test.YtoleklppgmeflaaEqFind
import Derived.Test.YtoleklppgmeflaaPlainG
import Derived.Test.YtoleklppgmeflaaFrame
import Derived.Deep.RegionHeld3
set_option linter.unusedVariables false
set_option linter.unusedSimpArgs false
namespace Go.Proofs.Ytoleklppgmeflaa.FnFindSpecFile
open Go.Sort Go.ChangeShapes Go.WideShapes Go.ChangeAt Go.RowKit Go.Proofs.Ytoleklppgmeflaa.Nm

theorem lastOf_len (p : Bs) : (lastOf p).length ≤ 3 := by
  unfold lastOf
  split
  · rename_i h; exact (vp_len (getLast_vp h)).2
  · simp
theorem parentOf_len (p : Bs) : (parentOf p).length ≤ p.length := by
  unfold parentOf
  split
  · exact parent_len p
  · simp
set_option maxRecDepth 100000 in
set_option maxHeartbeats 2000000 in
theorem walk (a : Option Addr) (n cap : Nat) (w : World) (hc : Code w w.heap.size a n cap) :
    Calls Try.prog 13 #[.slice a n cap] w fun e w' => e = .returned (.bool true) ∧ Below w.heap.size w w' := by
  by_cases hn : (1048576 : Int) < (n : Int)
  · go_enter Try.func13, Try.ntmps13
    go_wp2_with fail
    go_ret
    exact ⟨rfl, Below.refl _ _⟩
  have Hc := Lib.hid hc
  clear hc
  go_enter Try.func13, Try.ntmps13
  go_wp2_with fail
  refine (spec_DrawFindSpec a n cap w Hc.out).mono ?_
  rintro e w1 ⟨v, ps, pv, xs, s, rfl, ⟨hrows, hsh, hl, hb5, hb1⟩, hp, hx3, hs17⟩
  obtain ⟨va, vc, rfl⟩ := hrows.len
  have HR := Lib.hid hrows
  obtain ⟨fs, hfs⟩ : ∃ fs, fs = ps.map (·.1) := ⟨_, rfl⟩
  have Hfs := Lib.hid hfs
  have hfl : fs.length = ps.length := by rw [hfs, List.length_map]
  have HF := Lib.hid (show FilsIn w1 (fun _ => True) (.slice va ps.length vc) fs by rw [hfs]; exact hrows.fils)
  have Hz8 := Lib.hid (show ShortT 8000000 fs by rw [hfs]; exact shortT_mono (by omega) hsh)
  have Hz3 := Lib.hid (show ShortT 3000000 fs by rw [hfs]; exact shortT_mono (by omega) hsh)
  have Hz2 := Lib.hid (show ShortT 2000000 fs by rw [hfs]; exact shortT_mono (by omega) hsh)
  have Hs8 := Lib.hid (show ShortT 8 fs by rw [hfs]; exact hsh)
  have Hb5 := Lib.hid (show ∀ f ∈ fs, f.body.length ≤ 5 by rw [hfs]; intro f hf; obtain ⟨p, hp, rfl⟩ := List.mem_map.1 hf; exact hb5 p hp)
  have Hb1 := Lib.hid hb1
  have B0 := Boxed.start w1 #[.slice va ps.length vc] 25
  have hl11 : fs.length ≤ 11 := by omega
  clear hrows hsh hb5 hb1 hfs
  generalize ps.length = pn at *
  subst hfl
  have X1 := Lib.hid B0
  clear B0
  obtain ⟨pa, pc, rfl⟩ := hp.len
  have HP := Lib.hid hp.ints
  clear hp
  obtain ⟨sp, hsp⟩ : ∃ sp, sp = findSpec fs xs s := ⟨_, rfl⟩
  have Hsp := Lib.hid hsp
  clear hsp
  go_wp2_with fail
  refine (impl_FindSpec _ fs (fun _ => True) _ xs s _ (HF.out.below X1.out.below) Hz2.out (HP.out.below X1.out.below) (by omega)).mono ?_
  rintro _ w2 ⟨v2, rfl, hown2, hb2⟩
  rw [← Hsp.out] at hown2 ⊢
  have S2 := Lib.hid (IntsIn.of_owns hown2)
  obtain ⟨a2, c2, rfl⟩ := owns_shape hown2
  have X2 := Lib.hid (X1.out.step hb2)
  have O2 := Lib.hid (Boxed.start w2 #[.int .i64 sp.kind, .int .i64 sp.file, .slice a2 sp.roots.length c2] 56)
  have H13 := Lib.hid (show Below w1.heap.size w1 (w2.alloc (.cells #[.int .i64 sp.kind, .int .i64 sp.file, .slice a2 sp.roots.length c2] 56)) from bt X2.out.below (by (repeat (with_reducible first | exact Below.refl _ _ | assumption | refine ba ?_ _ | refine bd ?_ | refine bdN ?_ _ | refine bs ?_ (by first | exact Nat.le_refl _ | (dsimp only; omega) | (simp; done)) _ | refine bt ?_ (by assumption)))))
  have H23 := Lib.hid (show Below w2.heap.size w2 (w2.alloc (.cells #[.int .i64 sp.kind, .int .i64 sp.file, .slice a2 sp.roots.length c2] 56)) by (repeat (with_reducible first | exact Below.refl _ _ | assumption | refine ba ?_ _ | refine bd ?_ | refine bdN ?_ _ | refine bs ?_ (by first | exact Nat.le_refl _ | (dsimp only; omega) | (simp; done)) _ | refine bt ?_ (by assumption))))
  have X3 := Lib.hid (show Boxed w1 #[.slice va fs.length vc] 25 (w2.alloc (.cells #[.int .i64 sp.kind, .int .i64 sp.file, .slice a2 sp.roots.length c2] 56)) from X2.out.step (by (repeat (with_reducible first | exact Below.refl _ _ | assumption | refine ba ?_ _ | refine bd ?_ | refine bdN ?_ _ | refine bs ?_ (by first | exact Nat.le_refl _ | (dsimp only; omega) | (simp; done)) _ | refine bt ?_ (by assumption)))))
  have Hk := Lib.hid (fun (w' : World) (hB : Below (w2.alloc (.cells #[.int .i64 sp.kind, .int .i64 sp.file, .slice a2 sp.roots.length c2] 56)).heap.size (w2.alloc (.cells #[.int .i64 sp.kind, .int .i64 sp.file, .slice a2 sp.roots.length c2] 56)) w') => (⟨(X3.out.step hB).cell 0, (O2.out.step hB).cell 0, (O2.out.step hB).cell 1, (O2.out.step hB).cell 2, hB⟩ : (fun w' => w'.cell? ⟨w1.heap.size, 0, none⟩ = some (.slice va fs.length vc) ∧ w'.cell? ⟨w2.heap.size, 0, none⟩ = some (.int .i64 sp.kind) ∧ w'.cell? ⟨w2.heap.size, 1, none⟩ = some (.int .i64 sp.file) ∧ w'.cell? ⟨w2.heap.size, 2, none⟩ = some (.slice a2 sp.roots.length c2) ∧ Below (w2.alloc (.cells #[.int .i64 sp.kind, .int .i64 sp.file, .slice a2 sp.roots.length c2] 56)).heap.size (w2.alloc (.cells #[.int .i64 sp.kind, .int .i64 sp.file, .slice a2 sp.roots.length c2] 56)) w') w'))
  obtain ⟨x3, y0, y1, y2, hB3⟩ := Hk.out _ (Below.refl _ _)
  have hlX := X2.out.lt
  have hz3 : w2.heap.size < (w2.alloc (.cells #[.int .i64 sp.kind, .int .i64 sp.file, .slice a2 sp.roots.length c2] 56)).heap.size := O2.out.lt
  clear hown2 hb2
  by_cases hneg : sp.file < 0
  · go_wp2_with fail
    go_region_held3 (fun w' => w'.cell? ⟨w1.heap.size, 0, none⟩ = some (.slice va fs.length vc) ∧ w'.cell? ⟨w2.heap.size, 0, none⟩ = some (.int .i64 sp.kind) ∧ w'.cell? ⟨w2.heap.size, 1, none⟩ = some (.int .i64 sp.file) ∧ w'.cell? ⟨w2.heap.size, 2, none⟩ = some (.slice a2 sp.roots.length c2) ∧ Below (w2.alloc (.cells #[.int .i64 sp.kind, .int .i64 sp.file, .slice a2 sp.roots.length c2] 56)).heap.size (w2.alloc (.cells #[.int .i64 sp.kind, .int .i64 sp.file, .slice a2 sp.roots.length c2] 56)) w')
      (exact Hk.out _ (by (repeat (with_reducible first | exact Below.refl _ _ | assumption | refine ba ?_ _ | refine bd ?_ | refine bdN ?_ _ | refine bs ?_ (by first | exact Nat.le_refl _ | (dsimp only; omega) | (simp; done)) _ | refine bt ?_ (by assumption)))))
      (first
        | (go_at_call 52; refine (spec_FindSpec _ fs (fun _ => True) _ xs s _ (HF.out.below (bt H13.out (by (repeat (with_reducible first | exact Below.refl _ _ | assumption | refine ba ?_ _ | refine bd ?_ | refine bdN ?_ _ | refine bs ?_ (by first | exact Nat.le_refl _ | (dsimp only; omega) | (simp; done)) _ | refine bt ?_ (by assumption)))))) Hz2.out (HP.out.below (bt H13.out (by (repeat (with_reducible first | exact Below.refl _ _ | assumption | refine ba ?_ _ | refine bd ?_ | refine bdN ?_ _ | refine bs ?_ (by first | exact Nat.le_refl _ | (dsimp only; omega) | (simp; done)) _ | refine bt ?_ (by assumption)))))) (by omega)).mono ?_; rintro _ w5 ⟨v5, rfl, hown5, hb5⟩; rw [← Hsp.out] at hown5 ⊢; have S5 := Lib.hid (IntsIn.of_owns hown5); obtain ⟨a5, c5, rfl⟩ := owns_shape hown5; clear hown5)
        | (go_at_call 46; refine (laws_equalSpec sp sp _ _ _ (S2.out.below (bt H23.out (by (repeat (with_reducible first | exact Below.refl _ _ | assumption | refine ba ?_ _ | refine bd ?_ | refine bdN ?_ _ | refine bs ?_ (by first | exact Nat.le_refl _ | (dsimp only; omega) | (simp; done)) _ | refine bt ?_ (by assumption)))))) (S5.out.below (by (repeat (with_reducible first | exact Below.refl _ _ | assumption | refine ba ?_ _ | refine bd ?_ | refine bdN ?_ _ | refine bs ?_ (by first | exact Nat.le_refl _ | (dsimp only; omega) | (simp; done)) _ | refine bt ?_ (by assumption)))))).mono ?_; rintro _ w6 ⟨rfl, hb6⟩; rw [decide_eq_true rfl]))
    have hE6 : Below (w2.alloc (.cells #[.int .i64 sp.kind, .int .i64 sp.file, .slice a2 sp.roots.length c2] 56)).heap.size (w2.alloc (.cells #[.int .i64 sp.kind, .int .i64 sp.file, .slice a2 sp.roots.length c2] 56)) w6 := by (repeat (with_reducible first | exact Below.refl _ _ | assumption | refine ba ?_ _ | refine bd ?_ | refine bdN ?_ _ | refine bs ?_ (by first | exact Nat.le_refl _ | (dsimp only; omega) | (simp; done)) _ | refine bt ?_ (by assumption)))
    clear x3 y0 y1 y2 hb5 hb6 S5
    obtain ⟨x3, y0, y1, y2, _⟩ := Hk.out _ hE6
    go_wp2_with fail
    go_region_held3 (fun w' => w'.cell? ⟨w1.heap.size, 0, none⟩ = some (.slice va fs.length vc) ∧ w'.cell? ⟨w2.heap.size, 0, none⟩ = some (.int .i64 sp.kind) ∧ w'.cell? ⟨w2.heap.size, 1, none⟩ = some (.int .i64 sp.file) ∧ w'.cell? ⟨w2.heap.size, 2, none⟩ = some (.slice a2 sp.roots.length c2) ∧ Below (w2.alloc (.cells #[.int .i64 sp.kind, .int .i64 sp.file, .slice a2 sp.roots.length c2] 56)).heap.size (w2.alloc (.cells #[.int .i64 sp.kind, .int .i64 sp.file, .slice a2 sp.roots.length c2] 56)) w')
      (exact Hk.out _ (by (repeat (with_reducible first | exact Below.refl _ _ | assumption | refine ba ?_ _ | refine bd ?_ | refine bdN ?_ _ | refine bs ?_ (by first | exact Nat.le_refl _ | (dsimp only; omega) | (simp; done)) _ | refine bt ?_ (by assumption)))))
      (first
        | (go_at_call 52; refine (spec_FindSpec _ fs (fun _ => True) _ xs s _ (HF.out.below (bt H13.out (by (repeat (with_reducible first | exact Below.refl _ _ | assumption | refine ba ?_ _ | refine bd ?_ | refine bdN ?_ _ | refine bs ?_ (by first | exact Nat.le_refl _ | (dsimp only; omega) | (simp; done)) _ | refine bt ?_ (by assumption)))))) Hz2.out (HP.out.below (bt H13.out (by (repeat (with_reducible first | exact Below.refl _ _ | assumption | refine ba ?_ _ | refine bd ?_ | refine bdN ?_ _ | refine bs ?_ (by first | exact Nat.le_refl _ | (dsimp only; omega) | (simp; done)) _ | refine bt ?_ (by assumption)))))) (by omega)).mono ?_; rintro _ w10 ⟨v10, rfl, hown10, hb10⟩; rw [← Hsp.out] at hown10 ⊢; have S10 := Lib.hid (IntsIn.of_owns hown10); obtain ⟨a10, c10, rfl⟩ := owns_shape hown10; clear hown10)
        | (go_at_call 46; refine (laws_equalSpec sp sp _ _ _ (S2.out.below (bt H23.out (by (repeat (with_reducible first | exact Below.refl _ _ | assumption | refine ba ?_ _ | refine bd ?_ | refine bdN ?_ _ | refine bs ?_ (by first | exact Nat.le_refl _ | (dsimp only; omega) | (simp; done)) _ | refine bt ?_ (by assumption)))))) (S10.out.below (by (repeat (with_reducible first | exact Below.refl _ _ | assumption | refine ba ?_ _ | refine bd ?_ | refine bdN ?_ _ | refine bs ?_ (by first | exact Nat.le_refl _ | (dsimp only; omega) | (simp; done)) _ | refine bt ?_ (by assumption)))))).mono ?_; rintro _ w11 ⟨rfl, hb11⟩; rw [decide_eq_true rfl]))
    go_wp2_with fail
    go_ret
    exact ⟨rfl, bt Hb1.out (bt H13.out (by (repeat (with_reducible first | exact Below.refl _ _ | assumption | refine ba ?_ _ | refine bd ?_ | refine bdN ?_ _ | refine bs ?_ (by first | exact Nat.le_refl _ | (dsimp only; omega) | (simp; done)) _ | refine bt ?_ (by assumption)))))⟩
  · have Hff := Lib.hid (findSpec_file (t := fs) (path := xs) (s := s) (by rw [← Hsp.out]; omega))
    have hnegb : decide (sp.file < 0) = false := decide_eq_false hneg
    go_wp2_with fail
    go_region_held3 (fun w' => w'.cell? ⟨w1.heap.size, 0, none⟩ = some (.slice va fs.length vc) ∧ w'.cell? ⟨w2.heap.size, 0, none⟩ = some (.int .i64 sp.kind) ∧ w'.cell? ⟨w2.heap.size, 1, none⟩ = some (.int .i64 sp.file) ∧ w'.cell? ⟨w2.heap.size, 2, none⟩ = some (.slice a2 sp.roots.length c2) ∧ Below (w2.alloc (.cells #[.int .i64 sp.kind, .int .i64 sp.file, .slice a2 sp.roots.length c2] 56)).heap.size (w2.alloc (.cells #[.int .i64 sp.kind, .int .i64 sp.file, .slice a2 sp.roots.length c2] 56)) w')
      (exact Hk.out _ (by (repeat (with_reducible first | exact Below.refl _ _ | assumption | refine ba ?_ _ | refine bd ?_ | refine bdN ?_ _ | refine bs ?_ (by first | exact Nat.le_refl _ | (dsimp only; omega) | (simp; done)) _ | refine bt ?_ (by assumption)))))
      (first
        | (go_at_call 52; refine (spec_FindSpec _ fs (fun _ => True) _ xs s _ (HF.out.below (bt H13.out (by (repeat (with_reducible first | exact Below.refl _ _ | assumption | refine ba ?_ _ | refine bd ?_ | refine bdN ?_ _ | refine bs ?_ (by first | exact Nat.le_refl _ | (dsimp only; omega) | (simp; done)) _ | refine bt ?_ (by assumption)))))) Hz2.out (HP.out.below (bt H13.out (by (repeat (with_reducible first | exact Below.refl _ _ | assumption | refine ba ?_ _ | refine bd ?_ | refine bdN ?_ _ | refine bs ?_ (by first | exact Nat.le_refl _ | (dsimp only; omega) | (simp; done)) _ | refine bt ?_ (by assumption)))))) (by omega)).mono ?_; rintro _ w5 ⟨v5, rfl, hown5, hb5⟩; rw [← Hsp.out] at hown5 ⊢; have S5 := Lib.hid (IntsIn.of_owns hown5); obtain ⟨a5, c5, rfl⟩ := owns_shape hown5; clear hown5)
        | (go_at_call 46; refine (laws_equalSpec sp sp _ _ _ (S2.out.below (bt H23.out (by (repeat (with_reducible first | exact Below.refl _ _ | assumption | refine ba ?_ _ | refine bd ?_ | refine bdN ?_ _ | refine bs ?_ (by first | exact Nat.le_refl _ | (dsimp only; omega) | (simp; done)) _ | refine bt ?_ (by assumption)))))) (S5.out.below (by (repeat (with_reducible first | exact Below.refl _ _ | assumption | refine ba ?_ _ | refine bd ?_ | refine bdN ?_ _ | refine bs ?_ (by first | exact Nat.le_refl _ | (dsimp only; omega) | (simp; done)) _ | refine bt ?_ (by assumption)))))).mono ?_; rintro _ w6 ⟨rfl, hb6⟩; rw [decide_eq_true rfl]))
    have hE6 : Below (w2.alloc (.cells #[.int .i64 sp.kind, .int .i64 sp.file, .slice a2 sp.roots.length c2] 56)).heap.size (w2.alloc (.cells #[.int .i64 sp.kind, .int .i64 sp.file, .slice a2 sp.roots.length c2] 56)) w6 := by (repeat (with_reducible first | exact Below.refl _ _ | assumption | refine ba ?_ _ | refine bd ?_ | refine bdN ?_ _ | refine bs ?_ (by first | exact Nat.le_refl _ | (dsimp only; omega) | (simp; done)) _ | refine bt ?_ (by assumption)))
    clear x3 y0 y1 y2 hb5 hb6 S5
    obtain ⟨x3, y0, y1, y2, _⟩ := Hk.out _ hE6
    obtain ⟨f, g1, g2, g3, g4⟩ := Hff.out
    rw [← Hsp.out] at g1 g4
    obtain ⟨k, hk⟩ := Int.eq_ofNat_of_zero_le (show 0 ≤ sp.file by omega)
    rw [hk, Int.toNat_natCast] at g1
    obtain ⟨hlt, gf⟩ := List.getElem?_eq_some_iff.1 g1
    rw [hk] at y1
    obtain ⟨b, off, cap', bv, e, hD, hb, hbody, c0, c1, c2', c3, c4, c5⟩ := (HF.out.below (bt H13.out (show Below (w2.alloc (.cells #[.int .i64 sp.kind, .int .i64 sp.file, .slice a2 sp.roots.length c2] 56)).heap.size (w2.alloc (.cells #[.int .i64 sp.kind, .int .i64 sp.file, .slice a2 sp.roots.length c2] 56)) w6 by assumption))).at_ hlt
    simp only [Value.slice.injEq] at e
    obtain ⟨rfl, _, rfl⟩ := e
    obtain ⟨ba1, bc1, rfl, _, _⟩ := hbody.len
    have hz := Hs8.out _ (List.getElem_mem hlt)
    rw [gf] at c0 c1 c2' c3 c4 c5 hz hbody
    have Hbody := Lib.hid hbody
    clear hbody gf g1 Hff hneg
    obtain ⟨fr, fp, fn, fi, fst, fb⟩ := f
    obtain ⟨hz1, hz2, hz3⟩ := hz
    dsimp only at c0 c1 c2' c3 c4 c5 hz1 hz2 hz3 g3 g4
    have Hz := Lib.hid (short_mono (B := 8000000) (by omega) hz3)
    have Hm := Lib.hid g2
    have Hin := Lib.hid (decide_eq_true g3)
    have hkb : (sp.kind == 2) = fi := by
      cases fi
      · have : ¬ sp.kind = 2 := fun e => by have := g4.2 e; cases this
        simpa using this
      · simpa using g4.1 rfl
    clear hz3 g2 g3 g4
    have hk1 : (k : Int) < (fs.length : Int) := by omega
    have hk0 : (0 : Int) ≤ (k : Int) := by omega
    have F0 := Lib.hid (Boxed.start w6 #[.int .i64 fr, .string (mk fp), .string (mk fn), .bool fi, .int .i64 fst, .slice ba1 fb.length bc1] 33)
    have HE6 := Lib.hid (show Below (w2.alloc (.cells #[.int .i64 sp.kind, .int .i64 sp.file, .slice a2 sp.roots.length c2] 56)).heap.size (w2.alloc (.cells #[.int .i64 sp.kind, .int .i64 sp.file, .slice a2 sp.roots.length c2] 56)) w6 by assumption)
    have hz6 : w2.heap.size < w6.heap.size := by have := HE6.out.size; omega
    have hzx : w1.heap.size < w6.heap.size := by have := X2.out.lt; omega
    go_wp2_with fail
    refine (impl_ModuleOf _ _ _ _ _ _ fb (fun _ => True) _ (by omega) (by omega) (Hbody.out.below (by (repeat (with_reducible first | exact Below.refl _ _ | assumption | refine ba ?_ _ | refine bd ?_ | refine bdN ?_ _ | refine bs ?_ (by first | exact Nat.le_refl _ | (dsimp only; omega) | (simp; done)) _ | refine bt ?_ (by assumption))))) Hz.out).mono ?_
    rintro _ w7 ⟨rfl, hb7⟩
    rw [Hm.out]
    have F7 := Lib.hid (F0.out.step hb7)
    obtain ⟨f0, f1, f2, f3, f4, f5⟩ : w7.cell? ⟨w6.heap.size, 0, none⟩ = some (.int .i64 fr) ∧ w7.cell? ⟨w6.heap.size, 1, none⟩ = some (.string (mk fp)) ∧ w7.cell? ⟨w6.heap.size, 2, none⟩ = some (.string (mk fn)) ∧ w7.cell? ⟨w6.heap.size, 3, none⟩ = some (.bool fi) ∧ w7.cell? ⟨w6.heap.size, 4, none⟩ = some (.int .i64 fst) ∧ w7.cell? ⟨w6.heap.size, 5, none⟩ = some (.slice ba1 fb.length bc1) := ⟨F7.out.cell 0, F7.out.cell 1, F7.out.cell 2, F7.out.cell 3, F7.out.cell 4, F7.out.cell 5⟩
    have HE7 := Lib.hid (bt HE6.out F7.out.below)
    clear x3 y0 y1 y2 hb7 c0 c1 c2' c3 c4 c5
    obtain ⟨x3, y0, y1, y2, _⟩ := Hk.out _ HE7.out
    go_wp2_with fail
    refine (laws_isIn _ xs fr _ (HP.out.below (bt H13.out HE7.out))).mono ?_
    rintro _ _ ⟨rfl, rfl⟩
    rw [Hin.out]
    go_wp2_with fail
    go_ret
    exact ⟨ret_bool (by first | rfl | (cases fi <;> simp_all)), bt Hb1.out (bt H13.out HE7.out)⟩

/-! ### THE STEP TO THE ROW -/
set_option maxRecDepth 100000 in
theorem lifted (os : Os) (started : os.Started) (H : Type) (enc : TypeId × Value → H) :
    ReturnsInHanded {} Try.checked os 13 .any (Rows.fnFindSpecFileSpec.pre6 enc Try.prog Try.f13 Rows.fnFindSpecFileRow.domain false) (Rows.fnFindSpecFileSpec.post enc Try.prog Try.f13 false true false false) := by
  refine returnsInHanded_of_change (C := Try.checked) own started (by kernel_rfl) Try.func13
    (ChangeSpec.witness6 (enc := enc) (C := Try.checked) false ⟨#[], #[.slice none 0 0], []⟩ 8 (by kernel_rfl) (by kernel_rfl) (by kernel_rfl) (by kernel_rfl)) ?_
  intro W base args ds gs before hval0 hW hcnd _
  have hval : ∀ (j : Nat) t v, Try.f13.params[j]? = some t → args[j]? = some v → Value.okWide Try.prog W .any base t v := hval0
  have hW' := hW
  obtain ⟨p, q, hA0, hV, rfl, hfz, hnd⟩ := hW
  have hA : DataW.TrodAll enc Try.prog W 0 (fun _ => true) true Try.f13.params.toList args.toList ds p := hA0
  rw [Try.params13] at hA hval
  obtain ⟨v0, vs0, d0, ds0, p0, q0, hargs, rfl, rfl, h0, r0⟩ := trodAll_cons hA
  obtain ⟨rfl, rfl, rfl⟩ := trodAll_nil r0
  obtain rfl : args = #[v0] := by cases args; simp_all
  obtain ⟨rfl, rfl⟩ := trodVars_none hV
  obtain ⟨a0, len0, cap0, rfl⟩ := okWide_slice Try.underlying22 (hval 0 22 v0 rfl rfl)
  have k0 := h0
  have lt0 : ∀ x ∈ p0, x.block < W.heap.size := by obtain ⟨m, hm⟩ := k0; exact DataW.trod_lt m _ _ _ hm
  have w0 : Code W W.heap.size a0 len0 cap0 := by
    obtain ⟨fuel, hf⟩ := h0
    rcases open_ints Try.underlying22 Try.underlying5 (by kernel_rfl) hf with ⟨hcs, _⟩ | ⟨x, l, c, zs, hcs, _, hl, hm, hz, _, hcell, hwz⟩
    · simp [Value.cells] at hcs
      obtain ⟨rfl, rfl, rfl⟩ := hcs
      exact .inl ⟨rfl, by unfold maxLen; omega⟩
    · simp [Value.cells] at hcs
      obtain ⟨rfl, rfl, rfl⟩ := hcs
      exact code_row W _ _ _ zs hl hm (by simpa using hz) hcell hwz
  clear hA0 hval0
  refine (walk a0 len0 cap0 W w0).mono fun e W' ⟨he, bel⟩ => ?_
  subst he
  exact ⟨_, rfl, _, _, _, [], _, [], hW', trodAll_mk1 (shut_bool Try.underlying4 _), (trodAll_cons_mk (Below.trod laidOut (by kernel_rfl) (of_decide_eq_true (by kernel_rfl)) k0 bel lt0) trodAll_mk0), rfl, bel.frame _, fun h => by cases h⟩

theorem over : Rows.fnFindSpecFileRow.holds Try.pinned (OpenSpec.ofChange Rows.fnFindSpecFileSpec) :=
  OpenClaim.holds_of_wide 13 Try.f13 rfl rfl rfl rfl rfl rfl rfl ⟨rfl, rfl, rfl, rfl, rfl⟩ rfl rfl rfl rfl rfl (by kernel_rfl) Try.func13 (by kernel_rfl)
    (of_decide_eq_true (by kernel_rfl)) (by unfold Func.isWrapper; first | (rw [if_pos (by decide +kernel)]; kernel_rfl) | (rw [if_neg (by decide +kernel)]; exact ⟨rfl, rfl⟩))
    (fun os started H enc _ => lifted os started H enc)

/-- THE STATEMENT -/
theorem proved : Rows.FnFindSpecFileSaid := over
end Go.Proofs.Ytoleklppgmeflaa.FnFindSpecFile
