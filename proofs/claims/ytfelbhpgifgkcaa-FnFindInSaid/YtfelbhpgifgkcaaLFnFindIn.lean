/- FnFindIn returns true for every code. Written by mklaws.py. -/
import Derived.Test.YtfelbhpgifgkcaaDrawO
import Derived.Test.YtfelbhpgifgkcaaTrees
import Derived.Test.YtfelbhpgifgkcaaLooks
import Derived.Test.YtfelbhpgifgkcaaSLooks
import Derived.Test.YtfelbhpgifgkcaaKin
import Derived.Test.YtfelbhpgifgkcaaEqFind
import Derived.Test.YtfelbhpgifgkcaaPlainG
import Derived.Test.YtfelbhpgifgkcaaFrame
import Derived.Deep.RegionHeld3
import Derived.Test.YtfelbhpgifgkcaaEqFind
import Derived.Test.YtfelbhpgifgkcaaBoxS
import Derived.RegionCalls
import Derived.Deep.DeepCutAuto
set_option linter.unusedVariables false
set_option linter.unusedSimpArgs false
namespace Go.Proofs.Ytfelbhpgifgkcaa.FnFindIn
open Go.Sort Go.ChangeShapes Go.WideShapes Go.ChangeAt Go.RowKit Go.Proofs.Ytfelbhpgifgkcaa.Nm

set_option maxRecDepth 100000 in
set_option maxHeartbeats 12000000 in
theorem walk (a : Option Addr) (n cap : Nat) (w : World) (hc : Code w w.heap.size a n cap) :
    Calls Try.prog 5 #[.slice a n cap] w fun e w' => e = .returned (.bool true) ∧ Below w.heap.size w w' := by
  by_cases hn : (1048576 : Int) < (n : Int)
  · go_enter Try.func5, Try.ntmps5
    go_wp2_with fail
    go_ret
    exact ⟨rfl, Below.refl _ _⟩
  have Hc := Lib.hid hc
  clear hc
  go_enter Try.func5, Try.ntmps5
  go_wp2_with fail
  refine (spec_DrawFindIn a n cap w Hc.out).mono ?_
  rintro e w1 ⟨v, ps, pv, xs, p, s, rfl, ⟨hrows, hsh, hl, hb5, hb1⟩, hp, hx3, hp7, hs4⟩
  obtain ⟨va, vc, rfl⟩ := hrows.len
  have HR := Lib.hid hrows
  obtain ⟨fs, hfs⟩ : ∃ fs, fs = ps.map (·.1) := ⟨_, rfl⟩
  have Hfs := Lib.hid hfs
  have hfl : fs.length = ps.length := by rw [hfs, List.length_map]
  have HF := Lib.hid (show FilsIn w1 (fun _ => True) (.slice va ps.length vc) fs by rw [hfs]; exact hrows.fils)
  have Hz8 := Lib.hid (show ShortT 8000000 fs by rw [hfs]; exact shortT_mono (by omega) hsh)
  have Hz3 := Lib.hid (show ShortT 3000000 fs by rw [hfs]; exact shortT_mono (by omega) hsh)
  have Hz2 := Lib.hid (show ShortT 2000000 fs by rw [hfs]; exact shortT_mono (by omega) hsh)
  have Hs8 := Lib.hid (show ShortT 8 fs by rw [hfs]; exact hsh)
  have Hb5 := Lib.hid (show ∀ f ∈ fs, f.body.length ≤ 5 by rw [hfs]; intro f hf; obtain ⟨p, hp, rfl⟩ := List.mem_map.1 hf; exact hb5 p hp)
  have Hb1 := Lib.hid hb1
  have B0 := Boxed.start w1 #[.slice va ps.length vc] 25
  have hl11 : fs.length ≤ 11 := by omega
  clear hrows hsh hb5 hb1 hfs
  generalize ps.length = pn at *
  subst hfl
  have X1 := Lib.hid B0
  clear B0
  obtain ⟨pa, pc, rfl⟩ := hp.len
  have HP := Lib.hid hp.ints
  clear hp
  obtain ⟨sp, hsp⟩ : ∃ sp, sp = findIn fs xs p s := ⟨_, rfl⟩
  have Hsp := Lib.hid hsp
  clear hsp
  go_wp2_with fail
  refine (impl_FindIn _ fs (fun _ => True) _ xs p s _ (HF.out.below X1.out.below) Hz2.out (HP.out.below X1.out.below) (by omega) (by omega)).mono ?_
  rintro _ w2 ⟨v2, rfl, hown2, hb2⟩
  rw [← Hsp.out] at hown2 ⊢
  have S2 := Lib.hid (IntsIn.of_owns hown2)
  obtain ⟨a2, c2, rfl⟩ := owns_shape hown2
  have X2 := Lib.hid (X1.out.step hb2)
  have O2 := Lib.hid (Boxed.start w2 #[.int .i64 sp.kind, .int .i64 sp.file, .slice a2 sp.roots.length c2] 51)
  have H13 := Lib.hid (show Below w1.heap.size w1 (w2.alloc (.cells #[.int .i64 sp.kind, .int .i64 sp.file, .slice a2 sp.roots.length c2] 51)) from bt X2.out.below (by (repeat (with_reducible first | exact Below.refl _ _ | assumption | refine ba ?_ _ | refine bd ?_ | refine bdN ?_ _ | refine bs ?_ (by first | exact Nat.le_refl _ | (dsimp only; omega) | (simp; done)) _ | refine bt ?_ (by assumption)))))
  have H23 := Lib.hid (show Below w2.heap.size w2 (w2.alloc (.cells #[.int .i64 sp.kind, .int .i64 sp.file, .slice a2 sp.roots.length c2] 51)) by (repeat (with_reducible first | exact Below.refl _ _ | assumption | refine ba ?_ _ | refine bd ?_ | refine bdN ?_ _ | refine bs ?_ (by first | exact Nat.le_refl _ | (dsimp only; omega) | (simp; done)) _ | refine bt ?_ (by assumption))))
  have X3 := Lib.hid (show Boxed w1 #[.slice va fs.length vc] 25 (w2.alloc (.cells #[.int .i64 sp.kind, .int .i64 sp.file, .slice a2 sp.roots.length c2] 51)) from X2.out.step (by (repeat (with_reducible first | exact Below.refl _ _ | assumption | refine ba ?_ _ | refine bd ?_ | refine bdN ?_ _ | refine bs ?_ (by first | exact Nat.le_refl _ | (dsimp only; omega) | (simp; done)) _ | refine bt ?_ (by assumption)))))
  have Hk := Lib.hid (fun (w' : World) (hB : Below (w2.alloc (.cells #[.int .i64 sp.kind, .int .i64 sp.file, .slice a2 sp.roots.length c2] 51)).heap.size (w2.alloc (.cells #[.int .i64 sp.kind, .int .i64 sp.file, .slice a2 sp.roots.length c2] 51)) w') => (⟨(X3.out.step hB).cell 0, (O2.out.step hB).cell 0, (O2.out.step hB).cell 1, (O2.out.step hB).cell 2, hB⟩ : (fun w' => w'.cell? ⟨w1.heap.size, 0, none⟩ = some (.slice va fs.length vc) ∧ w'.cell? ⟨w2.heap.size, 0, none⟩ = some (.int .i64 sp.kind) ∧ w'.cell? ⟨w2.heap.size, 1, none⟩ = some (.int .i64 sp.file) ∧ w'.cell? ⟨w2.heap.size, 2, none⟩ = some (.slice a2 sp.roots.length c2) ∧ Below (w2.alloc (.cells #[.int .i64 sp.kind, .int .i64 sp.file, .slice a2 sp.roots.length c2] 51)).heap.size (w2.alloc (.cells #[.int .i64 sp.kind, .int .i64 sp.file, .slice a2 sp.roots.length c2] 51)) w') w'))
  obtain ⟨x3, y0, y1, y2, hB3⟩ := Hk.out _ (Below.refl _ _)
  have hlX := X2.out.lt
  have hz3 : w2.heap.size < (w2.alloc (.cells #[.int .i64 sp.kind, .int .i64 sp.file, .slice a2 sp.roots.length c2] 51)).heap.size := O2.out.lt
  clear hown2 hb2
  by_cases hneg : sp.file < 0
  · go_wp2_with fail
    go_region_held3 (fun w' => w'.cell? ⟨w1.heap.size, 0, none⟩ = some (.slice va fs.length vc) ∧ w'.cell? ⟨w2.heap.size, 0, none⟩ = some (.int .i64 sp.kind) ∧ w'.cell? ⟨w2.heap.size, 1, none⟩ = some (.int .i64 sp.file) ∧ w'.cell? ⟨w2.heap.size, 2, none⟩ = some (.slice a2 sp.roots.length c2) ∧ Below (w2.alloc (.cells #[.int .i64 sp.kind, .int .i64 sp.file, .slice a2 sp.roots.length c2] 51)).heap.size (w2.alloc (.cells #[.int .i64 sp.kind, .int .i64 sp.file, .slice a2 sp.roots.length c2] 51)) w')
      (exact Hk.out _ (by (repeat (with_reducible first | exact Below.refl _ _ | assumption | refine ba ?_ _ | refine bd ?_ | refine bdN ?_ _ | refine bs ?_ (by first | exact Nat.le_refl _ | (dsimp only; omega) | (simp; done)) _ | refine bt ?_ (by assumption)))))
      (first
        | (go_at_call 27; refine (spec_FindIn _ fs (fun _ => True) _ xs p s _ (HF.out.below (bt H13.out (by (repeat (with_reducible first | exact Below.refl _ _ | assumption | refine ba ?_ _ | refine bd ?_ | refine bdN ?_ _ | refine bs ?_ (by first | exact Nat.le_refl _ | (dsimp only; omega) | (simp; done)) _ | refine bt ?_ (by assumption)))))) Hz2.out (HP.out.below (bt H13.out (by (repeat (with_reducible first | exact Below.refl _ _ | assumption | refine ba ?_ _ | refine bd ?_ | refine bdN ?_ _ | refine bs ?_ (by first | exact Nat.le_refl _ | (dsimp only; omega) | (simp; done)) _ | refine bt ?_ (by assumption)))))) (by omega) (by omega)).mono ?_; rintro _ w5 ⟨v5, rfl, hown5, hb5⟩; rw [← Hsp.out] at hown5 ⊢; have S5 := Lib.hid (IntsIn.of_owns hown5); obtain ⟨a5, c5, rfl⟩ := owns_shape hown5; clear hown5)
        | (go_at_call 26; refine (laws_equalSpec sp sp _ _ _ (S2.out.below (bt H23.out (by (repeat (with_reducible first | exact Below.refl _ _ | assumption | refine ba ?_ _ | refine bd ?_ | refine bdN ?_ _ | refine bs ?_ (by first | exact Nat.le_refl _ | (dsimp only; omega) | (simp; done)) _ | refine bt ?_ (by assumption)))))) (S5.out.below (by (repeat (with_reducible first | exact Below.refl _ _ | assumption | refine ba ?_ _ | refine bd ?_ | refine bdN ?_ _ | refine bs ?_ (by first | exact Nat.le_refl _ | (dsimp only; omega) | (simp; done)) _ | refine bt ?_ (by assumption)))))).mono ?_; rintro _ w6 ⟨rfl, hb6⟩; rw [decide_eq_true rfl]))
    have hE6 : Below (w2.alloc (.cells #[.int .i64 sp.kind, .int .i64 sp.file, .slice a2 sp.roots.length c2] 51)).heap.size (w2.alloc (.cells #[.int .i64 sp.kind, .int .i64 sp.file, .slice a2 sp.roots.length c2] 51)) w6 := by (repeat (with_reducible first | exact Below.refl _ _ | assumption | refine ba ?_ _ | refine bd ?_ | refine bdN ?_ _ | refine bs ?_ (by first | exact Nat.le_refl _ | (dsimp only; omega) | (simp; done)) _ | refine bt ?_ (by assumption)))
    clear x3 y0 y1 y2 hb5 hb6 S5
    obtain ⟨x3, y0, y1, y2, _⟩ := Hk.out _ hE6
    go_wp2_with fail
    go_region_held3 (fun w' => w'.cell? ⟨w1.heap.size, 0, none⟩ = some (.slice va fs.length vc) ∧ w'.cell? ⟨w2.heap.size, 0, none⟩ = some (.int .i64 sp.kind) ∧ w'.cell? ⟨w2.heap.size, 1, none⟩ = some (.int .i64 sp.file) ∧ w'.cell? ⟨w2.heap.size, 2, none⟩ = some (.slice a2 sp.roots.length c2) ∧ Below (w2.alloc (.cells #[.int .i64 sp.kind, .int .i64 sp.file, .slice a2 sp.roots.length c2] 51)).heap.size (w2.alloc (.cells #[.int .i64 sp.kind, .int .i64 sp.file, .slice a2 sp.roots.length c2] 51)) w')
      (exact Hk.out _ (by (repeat (with_reducible first | exact Below.refl _ _ | assumption | refine ba ?_ _ | refine bd ?_ | refine bdN ?_ _ | refine bs ?_ (by first | exact Nat.le_refl _ | (dsimp only; omega) | (simp; done)) _ | refine bt ?_ (by assumption)))))
      (first
        | (go_at_call 27; refine (spec_FindIn _ fs (fun _ => True) _ xs p s _ (HF.out.below (bt H13.out (by (repeat (with_reducible first | exact Below.refl _ _ | assumption | refine ba ?_ _ | refine bd ?_ | refine bdN ?_ _ | refine bs ?_ (by first | exact Nat.le_refl _ | (dsimp only; omega) | (simp; done)) _ | refine bt ?_ (by assumption)))))) Hz2.out (HP.out.below (bt H13.out (by (repeat (with_reducible first | exact Below.refl _ _ | assumption | refine ba ?_ _ | refine bd ?_ | refine bdN ?_ _ | refine bs ?_ (by first | exact Nat.le_refl _ | (dsimp only; omega) | (simp; done)) _ | refine bt ?_ (by assumption)))))) (by omega) (by omega)).mono ?_; rintro _ w10 ⟨v10, rfl, hown10, hb10⟩; rw [← Hsp.out] at hown10 ⊢; have S10 := Lib.hid (IntsIn.of_owns hown10); obtain ⟨a10, c10, rfl⟩ := owns_shape hown10; clear hown10)
        | (go_at_call 26; refine (laws_equalSpec sp sp _ _ _ (S2.out.below (bt H23.out (by (repeat (with_reducible first | exact Below.refl _ _ | assumption | refine ba ?_ _ | refine bd ?_ | refine bdN ?_ _ | refine bs ?_ (by first | exact Nat.le_refl _ | (dsimp only; omega) | (simp; done)) _ | refine bt ?_ (by assumption)))))) (S10.out.below (by (repeat (with_reducible first | exact Below.refl _ _ | assumption | refine ba ?_ _ | refine bd ?_ | refine bdN ?_ _ | refine bs ?_ (by first | exact Nat.le_refl _ | (dsimp only; omega) | (simp; done)) _ | refine bt ?_ (by assumption)))))).mono ?_; rintro _ w11 ⟨rfl, hb11⟩; rw [decide_eq_true rfl]))
    go_wp2_with fail
    go_ret
    exact ⟨rfl, bt Hb1.out (bt H13.out (by (repeat (with_reducible first | exact Below.refl _ _ | assumption | refine ba ?_ _ | refine bd ?_ | refine bdN ?_ _ | refine bs ?_ (by first | exact Nat.le_refl _ | (dsimp only; omega) | (simp; done)) _ | refine bt ?_ (by assumption)))))⟩
  · have Hff := Lib.hid (findIn_facts (t := fs) (path := xs) (p := p) (s := s) (by rw [← Hsp.out]; omega))
    have hnegb : decide (sp.file < 0) = false := decide_eq_false hneg
    go_wp2_with fail
    go_region_held3 (fun w' => w'.cell? ⟨w1.heap.size, 0, none⟩ = some (.slice va fs.length vc) ∧ w'.cell? ⟨w2.heap.size, 0, none⟩ = some (.int .i64 sp.kind) ∧ w'.cell? ⟨w2.heap.size, 1, none⟩ = some (.int .i64 sp.file) ∧ w'.cell? ⟨w2.heap.size, 2, none⟩ = some (.slice a2 sp.roots.length c2) ∧ Below (w2.alloc (.cells #[.int .i64 sp.kind, .int .i64 sp.file, .slice a2 sp.roots.length c2] 51)).heap.size (w2.alloc (.cells #[.int .i64 sp.kind, .int .i64 sp.file, .slice a2 sp.roots.length c2] 51)) w')
      (exact Hk.out _ (by (repeat (with_reducible first | exact Below.refl _ _ | assumption | refine ba ?_ _ | refine bd ?_ | refine bdN ?_ _ | refine bs ?_ (by first | exact Nat.le_refl _ | (dsimp only; omega) | (simp; done)) _ | refine bt ?_ (by assumption)))))
      (first
        | (go_at_call 27; refine (spec_FindIn _ fs (fun _ => True) _ xs p s _ (HF.out.below (bt H13.out (by (repeat (with_reducible first | exact Below.refl _ _ | assumption | refine ba ?_ _ | refine bd ?_ | refine bdN ?_ _ | refine bs ?_ (by first | exact Nat.le_refl _ | (dsimp only; omega) | (simp; done)) _ | refine bt ?_ (by assumption)))))) Hz2.out (HP.out.below (bt H13.out (by (repeat (with_reducible first | exact Below.refl _ _ | assumption | refine ba ?_ _ | refine bd ?_ | refine bdN ?_ _ | refine bs ?_ (by first | exact Nat.le_refl _ | (dsimp only; omega) | (simp; done)) _ | refine bt ?_ (by assumption)))))) (by omega) (by omega)).mono ?_; rintro _ w5 ⟨v5, rfl, hown5, hb5⟩; rw [← Hsp.out] at hown5 ⊢; have S5 := Lib.hid (IntsIn.of_owns hown5); obtain ⟨a5, c5, rfl⟩ := owns_shape hown5; clear hown5)
        | (go_at_call 26; refine (laws_equalSpec sp sp _ _ _ (S2.out.below (bt H23.out (by (repeat (with_reducible first | exact Below.refl _ _ | assumption | refine ba ?_ _ | refine bd ?_ | refine bdN ?_ _ | refine bs ?_ (by first | exact Nat.le_refl _ | (dsimp only; omega) | (simp; done)) _ | refine bt ?_ (by assumption)))))) (S5.out.below (by (repeat (with_reducible first | exact Below.refl _ _ | assumption | refine ba ?_ _ | refine bd ?_ | refine bdN ?_ _ | refine bs ?_ (by first | exact Nat.le_refl _ | (dsimp only; omega) | (simp; done)) _ | refine bt ?_ (by assumption)))))).mono ?_; rintro _ w6 ⟨rfl, hb6⟩; rw [decide_eq_true rfl]))
    have hE6 : Below (w2.alloc (.cells #[.int .i64 sp.kind, .int .i64 sp.file, .slice a2 sp.roots.length c2] 51)).heap.size (w2.alloc (.cells #[.int .i64 sp.kind, .int .i64 sp.file, .slice a2 sp.roots.length c2] 51)) w6 := by (repeat (with_reducible first | exact Below.refl _ _ | assumption | refine ba ?_ _ | refine bd ?_ | refine bdN ?_ _ | refine bs ?_ (by first | exact Nat.le_refl _ | (dsimp only; omega) | (simp; done)) _ | refine bt ?_ (by assumption)))
    clear x3 y0 y1 y2 hb5 hb6 S5
    obtain ⟨x3, y0, y1, y2, _⟩ := Hk.out _ hE6
    obtain ⟨al, r, bl, f, gp, gr, g1, g3, g2, g5, g6⟩ := Hff.out
    rw [← Hsp.out] at g1 g6
    obtain ⟨k, hk⟩ := Int.eq_ofNat_of_zero_le (show 0 ≤ sp.file by omega)
    rw [hk, Int.toNat_natCast] at g1
    obtain ⟨hlt, gf⟩ := List.getElem?_eq_some_iff.1 g1
    rw [hk] at y1
    have HE6 := Lib.hid (show Below (w2.alloc (.cells #[.int .i64 sp.kind, .int .i64 sp.file, .slice a2 sp.roots.length c2] 51)).heap.size (w2.alloc (.cells #[.int .i64 sp.kind, .int .i64 sp.file, .slice a2 sp.roots.length c2] 51)) w6 by assumption)
    obtain ⟨b, off, cap', bv, e, hD, hb, hbody, c0, c1, c2', c3, c4, c5⟩ := (HF.out.below (bt H13.out HE6.out)).at_ hlt
    simp only [Value.slice.injEq] at e
    obtain ⟨rfl, _, rfl⟩ := e
    obtain ⟨ba1, bc1, rfl, _, _⟩ := hbody.len
    have hz := Hs8.out _ (List.getElem_mem hlt)
    rw [gf] at c0 c1 c2' c3 c4 c5 hz hbody
    have Hbody := Lib.hid hbody
    clear hbody gf g1 Hff hneg
    obtain ⟨fr, fp, fn, fi, fst, fb⟩ := f
    obtain ⟨hz1, hz2, hz3⟩ := hz
    dsimp only at c0 c1 c2' c3 c4 c5 hz1 hz2 hz3 g2 g3
    subst g3
    have Hz := Lib.hid (short_mono (B := 8000000) (by omega) hz3)
    have Hm := Lib.hid g2
    have H5 := Lib.hid g5
    have H6 := Lib.hid g6
    have Hgp := Lib.hid gp
    have hk1 : (k : Int) < (fs.length : Int) := by omega
    have hk0 : (0 : Int) ≤ (k : Int) := by omega
    obtain ⟨an, han⟩ : ∃ an, an = al.length := ⟨_, rfl⟩
    have hall : an < xs.length := by rw [gp, han]; simp
    have Hat := Lib.hid (show xs[an]'hall = fr by subst han; simp [gp])
    have Hne := Lib.hid (fun (j : Nat) (h : j < an) => (show xs[j]'(Nat.lt_trans h hall) ≠ fr by
      have hj : j < al.length := by omega
      have e : xs[j]'(by omega) = al[j] := by simp [gp, List.getElem_append_left hj]
      rw [e]; exact fun e2 => gr (e2 ▸ List.getElem_mem hj)))
    have Htk := Lib.hid (show xs.take an = al by rw [gp, han]; simp)
    have Htk1 := Lib.hid (show xs.take (an + 1) = al ++ [fr] by rw [gp, han, show al ++ fr :: bl = (al ++ [fr]) ++ bl by simp, List.take_left' (by simp)])
    have hal3 : an ≤ 3 := by omega
    clear hz3 g2 g5 g6 gp gr han
    have Hc := Lib.hid (show ∀ w', Below w6.heap.size w6 w' → w'.cell? ⟨b, off + k * 6, none⟩ = some (.int .i64 fr) ∧ w'.cell? ⟨b, off + k * 6 + 1, none⟩ = some (.string (mk fp)) ∧ w'.cell? ⟨b, off + k * 6 + 2, none⟩ = some (.string (mk fn)) ∧ w'.cell? ⟨b, off + k * 6 + 3, none⟩ = some (.bool fi) ∧ w'.cell? ⟨b, off + k * 6 + 4, none⟩ = some (.int .i64 fst) ∧ w'.cell? ⟨b, off + k * 6 + 5, none⟩ = some (.slice ba1 fb.length bc1) from fun w' hB => ⟨(hB.cell (p := ⟨b, _, none⟩) hb).trans c0, (hB.cell (p := ⟨b, _, none⟩) hb).trans c1, (hB.cell (p := ⟨b, _, none⟩) hb).trans c2', (hB.cell (p := ⟨b, _, none⟩) hb).trans c3, (hB.cell (p := ⟨b, _, none⟩) hb).trans c4, (hB.cell (p := ⟨b, _, none⟩) hb).trans c5⟩)
    go_wp2_with fail
    go_loopw [9] (fun iv wr => ∃ m : Nat, m ≤ an ∧ iv = .int .i64 m ∧ Below w6.heap.size w6 wr) (fun iv _ => xs.length - (intOf iv).toNat)
    case atStart => exact ⟨0, by omega, rfl, Below.refl _ _⟩
    case round =>
      obtain ⟨m, hm, rfl, hbr⟩ := hrel
      have HEr := Lib.hid (bt HE6.out hbr)
      have Hbr := Lib.hid hbr
      clear x3 y0 y1 y2 c0 c1 c2' c3 c4 c5 hbr
      have hmx : m < xs.length := by omega
      obtain ⟨pb, po, pc', pe, hpb, hpc⟩ := (HP.out.below (bt H13.out HEr.out)).at_ hmx
      simp only [Value.slice.injEq] at pe
      obtain ⟨rfl, _, rfl⟩ := pe
      by_cases hlm : m < an
      · have hne := Hne.out m hlm
        have hneb : (xs[m] == fr) = false := by rw [beq_eq_false_iff_ne]; exact hne
        have hneb2 : (xs[m] != fr) = true := by rw [bne, hneb]; rfl
        generalize xs[m] = xm at *
        go_wp2_with fail
        go_roundw
        case rel => exact ⟨m + 1, by omega, by go_num, Hbr.out⟩
        case measure => simp [intOf]; omega
      · obtain rfl : m = an := by omega
        have hat := Hat.out
        rw [hat] at hpc
        obtain ⟨sq, hsq⟩ : ∃ sq, sq = findIn fs al p s := ⟨_, rfl⟩
        have Hsq := Lib.hid hsq
        rw [← hsq] at H5
        have h5 := H5.out
        have HPal := Lib.hid (fun W' (hW : Below w1.heap.size w1 W') => (by have h := (HP.out.below hW).front m (by omega); rw [Htk.out] at h; exact h : IntsIn W' (.slice (some ⟨pb, po, none⟩) m pc) al))
        have HPal1 := Lib.hid (fun W' (hW : Below w1.heap.size w1 W') => (by have h := (HP.out.below hW).front (m + 1) (by omega); rw [Htk1.out] at h; exact h : IntsIn W' (.slice (some ⟨pb, po, none⟩) (m + 1) pc) (al ++ [fr])))
        have Hse := Lib.hid (show decide (sp = ⟨sp.kind, (k : Int), sp.roots⟩) = true by rw [← hk]; exact decide_eq_true rfl)
        have hmi : IntKind.i64.wrap ((m : Int) + 1) = (m : Int) + 1 := IntWalk.i64_in _ (by omega)
        have hm1 : (m : Int) < (xs.length : Int) := by omega
        have hpcm : xs.length ≤ pc := by obtain ⟨_, _, e, h, _⟩ := HP.out.len; simp only [Value.slice.injEq] at e; obtain ⟨_, _, rfl⟩ := e; exact h
        have hpcx : pc ≤ maxLen := by obtain ⟨_, _, e, _, h⟩ := HP.out.len; simp only [Value.slice.injEq] at e; obtain ⟨_, _, rfl⟩ := e; exact h
        unfold maxLen at hpcx
        have hm0 : (0 : Int) ≤ (m : Int) := by omega
        have hmc : (m : Int) ≤ (pc : Int) := by omega
        have hm2 : (0 : Int) ≤ (m : Int) + 1 := by omega
        have hmc2 : (m : Int) + 1 ≤ (pc : Int) := by omega
        clear hsq
        go_upto_region 11 with fail
        go_cut [10] (fun s10 wx => ∃ (X : Nat) (a7 : Option Addr) (c7 : Nat), s10 = .pointer (some ⟨X, 0, none⟩) ∧ BoxC wx X #[.int .i64 sq.kind, .int .i64 (-1), .slice a7 sq.roots.length c7] ∧ Below wr.heap.size wr wx)
        case first =>
          have Hk2 := Lib.hid (fun (w' : World) (hB : Below wr.heap.size wr w') => (⟨(Hk.out _ (bt HEr.out hB)).1, hB⟩ : (fun w' => w'.cell? ⟨w1.heap.size, 0, none⟩ = some (.slice (some ⟨b, off, none⟩) fs.length vc) ∧ Below wr.heap.size wr w') w'))
          obtain ⟨x0, hBB⟩ := Hk2.out _ (Below.refl _ _)
          go_region_held3 (fun w' => w'.cell? ⟨w1.heap.size, 0, none⟩ = some (.slice (some ⟨b, off, none⟩) fs.length vc) ∧ Below wr.heap.size wr w')
            (exact Hk2.out _ (by (repeat (with_reducible first | exact Below.refl _ _ | assumption | refine ba ?_ _ | refine bd ?_ | refine bdN ?_ _ | refine bs ?_ (by first | exact Nat.le_refl _ | (dsimp only; omega) | (simp; done)) _ | refine bt ?_ (by assumption)))))
            (first
              | (go_at_call 25; refine (impl_FindIn _ fs (fun _ => True) _ al p s _ (HF.out.below (bt H13.out (bt HEr.out (by (repeat (with_reducible first | exact Below.refl _ _ | assumption | refine ba ?_ _ | refine bd ?_ | refine bdN ?_ _ | refine bs ?_ (by first | exact Nat.le_refl _ | (dsimp only; omega) | (simp; done)) _ | refine bt ?_ (by assumption))))))) Hz2.out (HPal.out _ (bt H13.out (bt HEr.out (by (repeat (with_reducible first | exact Below.refl _ _ | assumption | refine ba ?_ _ | refine bd ?_ | refine bdN ?_ _ | refine bs ?_ (by first | exact Nat.le_refl _ | (dsimp only; omega) | (simp; done)) _ | refine bt ?_ (by assumption))))))) (by omega) (by omega)).mono ?_; rintro _ w7 ⟨v7, rfl, hown7, hb7⟩; rw [← Hsq.out] at hown7 ⊢; obtain ⟨a7, c7, rfl⟩ := owns_shape hown7; clear hown7; (first | (have hxk := boxS_kept hb7; obtain ⟨xk0, xk1, xk2, xf0, xf1, xf2, xks⟩ := hxk) | (have hxk := boxS_kept (boxS_drew hb7); obtain ⟨xk0, xk1, xk2, xf0, xf1, xf2, xks⟩ := hxk) | skip)))
          all_goals (go_wp2_with fail; go_meet; refine ⟨_, a7, c7, rfl, ?_, ?_⟩)
          all_goals first
            | exact ((BoxC.start _ _ _).at (by first | rfl | simp))
            | exact boxS_set (((BoxC.start _ _ _).below hb7).at (by first | rfl | simp)) _ _ _
            | exact boxS_set (((BoxC.start _ _ _).below (boxS_drew hb7)).at (by first | rfl | simp)) _ _ _
            | ((repeat (with_reducible first | exact Below.refl _ _ | assumption | refine ba ?_ _ | refine bd ?_ | refine bdN ?_ _ | refine bs ?_ (by first | exact Nat.le_refl _ | (dsimp only; omega) | (simp; done)) _ | refine bt ?_ (by assumption))); done)
            | trace_state
        case rest =>
          obtain ⟨X, a7, c7, rfl, hX, hbX⟩ := hcut
          have HE8 := Lib.hid (bt HEr.out hbX)
          have HB8 := Lib.hid (bt Hbr.out hbX)
          have E8 := Lib.hid hX
          clear hX hbX hpc hat
          have Hk2 := Lib.hid (fun (w' : World) (hB : Below wc.heap.size wc w') => (⟨(Hk.out _ (bt HE8.out hB)).1, (Hk.out _ (bt HE8.out hB)).2.1, (by have h := (Hk.out _ (bt HE8.out hB)).2.2.1; rw [hk] at h; exact h), (Hk.out _ (bt HE8.out hB)).2.2.2.1, (E8.out.below hB).2 0, (E8.out.below hB).2 1, (E8.out.below hB).2 2, (Hc.out _ (bt HB8.out hB)).1, (Hc.out _ (bt HB8.out hB)).2.1, (Hc.out _ (bt HB8.out hB)).2.2.1, (Hc.out _ (bt HB8.out hB)).2.2.2.1, (Hc.out _ (bt HB8.out hB)).2.2.2.2.1, (Hc.out _ (bt HB8.out hB)).2.2.2.2.2, hB⟩ : (fun w' => w'.cell? ⟨w1.heap.size, 0, none⟩ = some (.slice (some ⟨b, off, none⟩) fs.length vc) ∧ w'.cell? ⟨w2.heap.size, 0, none⟩ = some (.int .i64 sp.kind) ∧ w'.cell? ⟨w2.heap.size, 1, none⟩ = some (.int .i64 (k : Int)) ∧ w'.cell? ⟨w2.heap.size, 2, none⟩ = some (.slice a2 sp.roots.length c2) ∧ w'.cell? ⟨X, 0, none⟩ = some (.int .i64 sq.kind) ∧ w'.cell? ⟨X, 1, none⟩ = some (.int .i64 (-1)) ∧ w'.cell? ⟨X, 2, none⟩ = some (.slice a7 sq.roots.length c7) ∧ w'.cell? ⟨b, off + k * 6, none⟩ = some (.int .i64 fr) ∧ w'.cell? ⟨b, off + k * 6 + 1, none⟩ = some (.string (mk fp)) ∧ w'.cell? ⟨b, off + k * 6 + 2, none⟩ = some (.string (mk fn)) ∧ w'.cell? ⟨b, off + k * 6 + 3, none⟩ = some (.bool fi) ∧ w'.cell? ⟨b, off + k * 6 + 4, none⟩ = some (.int .i64 fst) ∧ w'.cell? ⟨b, off + k * 6 + 5, none⟩ = some (.slice ba1 fb.length bc1) ∧ Below wc.heap.size wc w') w'))
          obtain ⟨x0, x1, x2, x3, x4, x5, x6, x7, x8, x9, x10, x11, x12, hBB⟩ := Hk2.out _ (Below.refl _ _)
          go_wp2_with fail
          go_region_held3 (fun w' => w'.cell? ⟨w1.heap.size, 0, none⟩ = some (.slice (some ⟨b, off, none⟩) fs.length vc) ∧ w'.cell? ⟨w2.heap.size, 0, none⟩ = some (.int .i64 sp.kind) ∧ w'.cell? ⟨w2.heap.size, 1, none⟩ = some (.int .i64 (k : Int)) ∧ w'.cell? ⟨w2.heap.size, 2, none⟩ = some (.slice a2 sp.roots.length c2) ∧ w'.cell? ⟨X, 0, none⟩ = some (.int .i64 sq.kind) ∧ w'.cell? ⟨X, 1, none⟩ = some (.int .i64 (-1)) ∧ w'.cell? ⟨X, 2, none⟩ = some (.slice a7 sq.roots.length c7) ∧ w'.cell? ⟨b, off + k * 6, none⟩ = some (.int .i64 fr) ∧ w'.cell? ⟨b, off + k * 6 + 1, none⟩ = some (.string (mk fp)) ∧ w'.cell? ⟨b, off + k * 6 + 2, none⟩ = some (.string (mk fn)) ∧ w'.cell? ⟨b, off + k * 6 + 3, none⟩ = some (.bool fi) ∧ w'.cell? ⟨b, off + k * 6 + 4, none⟩ = some (.int .i64 fst) ∧ w'.cell? ⟨b, off + k * 6 + 5, none⟩ = some (.slice ba1 fb.length bc1) ∧ Below wc.heap.size wc w')
            (exact Hk2.out _ (by (repeat (with_reducible first | exact Below.refl _ _ | assumption | refine ba ?_ _ | refine bd ?_ | refine bdN ?_ _ | refine bs ?_ (by first | exact Nat.le_refl _ | (dsimp only; omega) | (simp; done)) _ | refine bt ?_ (by assumption)))))
            (first
              | (go_at_call 25; refine (impl_FindIn _ fs (fun _ => True) _ (al ++ [fr]) p s _ (HF.out.below (bt H13.out (bt HE8.out (by (repeat (with_reducible first | exact Below.refl _ _ | assumption | refine ba ?_ _ | refine bd ?_ | refine bdN ?_ _ | refine bs ?_ (by first | exact Nat.le_refl _ | (dsimp only; omega) | (simp; done)) _ | refine bt ?_ (by assumption))))))) Hz2.out (HPal1.out _ (bt H13.out (bt HE8.out (by (repeat (with_reducible first | exact Below.refl _ _ | assumption | refine ba ?_ _ | refine bd ?_ | refine bdN ?_ _ | refine bs ?_ (by first | exact Nat.le_refl _ | (dsimp only; omega) | (simp; done)) _ | refine bt ?_ (by assumption))))))) (by omega) (by omega)).mono ?_; rintro _ w9 ⟨v9, rfl, hown9, hb9⟩; rw [H6.out] at hown9 ⊢; have S9 := Lib.hid (IntsIn.of_owns hown9); obtain ⟨a9, c9, rfl⟩ := owns_shape hown9; clear hown9)
              | (go_at_call 26; refine (laws_equalSpec ⟨sp.kind, (k : Int), sp.roots⟩ ⟨sp.kind, (k : Int), sp.roots⟩ _ _ _ (S9.out.below (by (repeat (with_reducible first | exact Below.refl _ _ | assumption | refine ba ?_ _ | refine bd ?_ | refine bdN ?_ _ | refine bs ?_ (by first | exact Nat.le_refl _ | (dsimp only; omega) | (simp; done)) _ | refine bt ?_ (by assumption))))) (S2.out.below (bt H23.out (bt HE8.out (by (repeat (with_reducible first | exact Below.refl _ _ | assumption | refine ba ?_ _ | refine bd ?_ | refine bdN ?_ _ | refine bs ?_ (by first | exact Nat.le_refl _ | (dsimp only; omega) | (simp; done)) _ | refine bt ?_ (by assumption)))))))).mono ?_; rintro _ w10 ⟨rfl, hb10⟩; rw [decide_eq_true rfl])
              | (go_at_call 15; refine (impl_ModuleOf _ _ _ _ _ _ fb (fun _ => True) _ (by omega) (by omega) (Hbody.out.below (bt HB8.out (by (repeat (with_reducible first | exact Below.refl _ _ | assumption | refine ba ?_ _ | refine bd ?_ | refine bdN ?_ _ | refine bs ?_ (by first | exact Nat.le_refl _ | (dsimp only; omega) | (simp; done)) _ | refine bt ?_ (by assumption)))))) Hz.out).mono ?_; rintro _ w11 ⟨rfl, hb11⟩; rw [Hm.out])
              | (go_at_call 28; refine (impl_ChildOf p s _ (by omega) (by omega)).mono ?_; rintro _ w12 ⟨rfl, hb12⟩))
          go_wp2_with fail
          go_ret
          exact ⟨ret_bool (by first | rfl | simp), bt Hb1.out (bt H13.out (bt HE8.out (by (repeat (with_reducible first | exact Below.refl _ _ | assumption | refine ba ?_ _ | refine bd ?_ | refine bdN ?_ _ | refine bs ?_ (by first | exact Nat.le_refl _ | (dsimp only; omega) | (simp; done)) _ | refine bt ?_ (by assumption))))))⟩

/-! ### THE STEP TO THE ROW -/
set_option maxRecDepth 100000 in
theorem lifted (os : Os) (started : os.Started) (H : Type) (enc : TypeId × Value → H) :
    ReturnsInHanded {} Try.checked os 5 .any (Rows.fnFindInSpec.pre6 enc Try.prog Try.f5 Rows.fnFindInRow.domain false) (Rows.fnFindInSpec.post enc Try.prog Try.f5 false true false false) := by
  refine returnsInHanded_of_change (C := Try.checked) own started (by kernel_rfl) Try.func5
    (ChangeSpec.witness6 (enc := enc) (C := Try.checked) false ⟨#[], #[.slice none 0 0], []⟩ 8 (by kernel_rfl) (by kernel_rfl) (by kernel_rfl) (by kernel_rfl)) ?_
  intro W base args ds gs before hval0 hW hcnd _
  have hval : ∀ (j : Nat) t v, Try.f5.params[j]? = some t → args[j]? = some v → Value.okWide Try.prog W .any base t v := hval0
  have hW' := hW
  obtain ⟨p, q, hA0, hV, rfl, hfz, hnd⟩ := hW
  have hA : DataW.TrodAll enc Try.prog W 0 (fun _ => true) true Try.f5.params.toList args.toList ds p := hA0
  rw [Try.params5] at hA hval
  obtain ⟨v0, vs0, d0, ds0, p0, q0, hargs, rfl, rfl, h0, r0⟩ := trodAll_cons hA
  obtain ⟨rfl, rfl, rfl⟩ := trodAll_nil r0
  obtain rfl : args = #[v0] := by cases args; simp_all
  obtain ⟨rfl, rfl⟩ := trodVars_none hV
  obtain ⟨a0, len0, cap0, rfl⟩ := okWide_slice Try.underlying22 (hval 0 22 v0 rfl rfl)
  have k0 := h0
  have lt0 : ∀ x ∈ p0, x.block < W.heap.size := by obtain ⟨m, hm⟩ := k0; exact DataW.trod_lt m _ _ _ hm
  have w0 : Code W W.heap.size a0 len0 cap0 := by
    obtain ⟨fuel, hf⟩ := h0
    rcases open_ints Try.underlying22 Try.underlying5 (by kernel_rfl) hf with ⟨hcs, _⟩ | ⟨x, l, c, zs, hcs, _, hl, hm, hz, _, hcell, hwz⟩
    · simp [Value.cells] at hcs
      obtain ⟨rfl, rfl, rfl⟩ := hcs
      exact .inl ⟨rfl, by unfold maxLen; omega⟩
    · simp [Value.cells] at hcs
      obtain ⟨rfl, rfl, rfl⟩ := hcs
      exact code_row W _ _ _ zs hl hm (by simpa using hz) hcell hwz
  clear hA0 hval0
  refine (walk a0 len0 cap0 W w0).mono fun e W' ⟨he, bel⟩ => ?_
  subst he
  exact ⟨_, rfl, _, _, _, [], _, [], hW', trodAll_mk1 (shut_bool Try.underlying4 _), (trodAll_cons_mk (Below.trod laidOut (by kernel_rfl) (of_decide_eq_true (by kernel_rfl)) k0 bel lt0) trodAll_mk0), rfl, bel.frame _, fun h => by cases h⟩

theorem over : Rows.fnFindInRow.holds Try.pinned (OpenSpec.ofChange Rows.fnFindInSpec) :=
  OpenClaim.holds_of_wide 5 Try.f5 rfl rfl rfl rfl rfl rfl rfl ⟨rfl, rfl, rfl, rfl, rfl⟩ rfl rfl rfl rfl rfl (by kernel_rfl) Try.func5 (by kernel_rfl)
    (of_decide_eq_true (by kernel_rfl)) (by unfold Func.isWrapper; first | (rw [if_pos (by decide +kernel)]; kernel_rfl) | (rw [if_neg (by decide +kernel)]; exact ⟨rfl, rfl⟩))
    (fun os started H enc _ => lifted os started H enc)

/-- THE STATEMENT -/
theorem proved : Rows.FnFindInSaid := over
end Go.Proofs.Ytfelbhpgifgkcaa.FnFindIn
