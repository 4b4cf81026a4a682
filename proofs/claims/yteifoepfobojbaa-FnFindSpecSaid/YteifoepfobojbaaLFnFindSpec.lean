/- FnFindSpec returns true for every code. Written by mklaws.py. -/
import Derived.Test.YteifoepfobojbaaDrawO
import Derived.Test.YteifoepfobojbaaTrees
import Derived.Test.YteifoepfobojbaaLooks
import Derived.Test.YteifoepfobojbaaSLooks
import Derived.Test.YteifoepfobojbaaKin
import Derived.Test.YteifoepfobojbaaEqFind
import Derived.Test.YteifoepfobojbaaPlainG
import Derived.Test.YteifoepfobojbaaFrame
import Derived.Test.YteifoepfobojbaaRegW
import Derived.Deep.RegionHeld3
set_option linter.unusedVariables false
set_option linter.unusedSimpArgs false
namespace Go.Proofs.Yteifoepfobojbaa.FnFindSpec
open Go.Sort Go.ChangeShapes Go.WideShapes Go.ChangeAt Go.RowKit Go.Proofs.Yteifoepfobojbaa.Nm

theorem lastOf_len (p : Bs) : (lastOf p).length ≤ 3 := by
  unfold lastOf
  split
  · rename_i h; exact (vp_len (getLast_vp h)).2
  · simp
theorem parentOf_len (p : Bs) : (parentOf p).length ≤ p.length := by
  unfold parentOf
  split
  · exact parent_len p
  · simp
set_option maxRecDepth 100000 in
set_option maxHeartbeats 2000000 in
theorem walk (a : Option Addr) (n cap : Nat) (w : World) (hc : Code w w.heap.size a n cap) :
    Calls Try.prog 3 #[.slice a n cap] w fun e w' => e = .returned (.bool true) ∧ Below w.heap.size w w' := by
  by_cases hn : (1048576 : Int) < (n : Int)
  · go_enter Try.func3, Try.ntmps3
    go_wp2_with fail
    go_ret
    exact ⟨rfl, Below.refl _ _⟩
  have Hc := Lib.hid hc
  clear hc
  go_enter Try.func3, Try.ntmps3
  go_wp2_with fail
  refine (spec_DrawFindSpec a n cap w Hc.out).mono ?_
  rintro e w1 ⟨v, ps, pv, xs, s, rfl, ⟨hrows, hsh, hl, hb5, hb1⟩, hp, hx3, hs17⟩
  obtain ⟨va, vc, rfl⟩ := hrows.len
  have HR := Lib.hid hrows
  obtain ⟨fs, hfs⟩ : ∃ fs, fs = ps.map (·.1) := ⟨_, rfl⟩
  have Hfs := Lib.hid hfs
  have hfl : fs.length = ps.length := by rw [hfs, List.length_map]
  have HF := Lib.hid (show FilsIn w1 (fun _ => True) (.slice va ps.length vc) fs by rw [hfs]; exact hrows.fils)
  have Hz8 := Lib.hid (show ShortT 8000000 fs by rw [hfs]; exact shortT_mono (by omega) hsh)
  have Hz3 := Lib.hid (show ShortT 3000000 fs by rw [hfs]; exact shortT_mono (by omega) hsh)
  have Hz2 := Lib.hid (show ShortT 2000000 fs by rw [hfs]; exact shortT_mono (by omega) hsh)
  have Hs8 := Lib.hid (show ShortT 8 fs by rw [hfs]; exact hsh)
  have Hb5 := Lib.hid (show ∀ f ∈ fs, f.body.length ≤ 5 by rw [hfs]; intro f hf; obtain ⟨p, hp, rfl⟩ := List.mem_map.1 hf; exact hb5 p hp)
  have Hb1 := Lib.hid hb1
  have B0 := Boxed.start w1 #[.slice va ps.length vc] 25
  have hl11 : fs.length ≤ 11 := by omega
  clear hrows hsh hb5 hb1 hfs
  generalize ps.length = pn at *
  subst hfl
  have X1 := Lib.hid B0
  clear B0
  obtain ⟨pa, pc, rfl⟩ := hp.len
  have HP := Lib.hid hp.ints
  clear hp
  obtain ⟨sp, hsp⟩ : ∃ sp, sp = findSpec fs xs s := ⟨_, rfl⟩
  have Hsp := Lib.hid hsp
  clear hsp
  go_wp2_with fail
  refine (impl_FindSpec _ fs (fun _ => True) _ xs s _ (HF.out.below X1.out.below) Hz2.out (HP.out.below X1.out.below) (by omega)).mono ?_
  rintro _ w2 ⟨v2, rfl, hown2, hb2⟩
  rw [← Hsp.out] at hown2 ⊢
  have S2 := Lib.hid (IntsIn.of_owns hown2)
  obtain ⟨a2, c2, rfl⟩ := owns_shape hown2
  have X2 := Lib.hid (X1.out.step hb2)
  have O2 := Lib.hid (Boxed.start w2 #[.int .i64 sp.kind, .int .i64 sp.file, .slice a2 sp.roots.length c2] 30)
  have H13 := Lib.hid (show Below w1.heap.size w1 (w2.alloc (.cells #[.int .i64 sp.kind, .int .i64 sp.file, .slice a2 sp.roots.length c2] 30)) from bt X2.out.below (by (repeat (with_reducible first | exact Below.refl _ _ | assumption | refine ba ?_ _ | refine bd ?_ | refine bdN ?_ _ | refine bs ?_ (by first | exact Nat.le_refl _ | (dsimp only; omega) | (simp; done)) _ | refine bt ?_ (by assumption)))))
  have H23 := Lib.hid (show Below w2.heap.size w2 (w2.alloc (.cells #[.int .i64 sp.kind, .int .i64 sp.file, .slice a2 sp.roots.length c2] 30)) by (repeat (with_reducible first | exact Below.refl _ _ | assumption | refine ba ?_ _ | refine bd ?_ | refine bdN ?_ _ | refine bs ?_ (by first | exact Nat.le_refl _ | (dsimp only; omega) | (simp; done)) _ | refine bt ?_ (by assumption))))
  have X3 := Lib.hid (show Boxed w1 #[.slice va fs.length vc] 25 (w2.alloc (.cells #[.int .i64 sp.kind, .int .i64 sp.file, .slice a2 sp.roots.length c2] 30)) from X2.out.step (by (repeat (with_reducible first | exact Below.refl _ _ | assumption | refine ba ?_ _ | refine bd ?_ | refine bdN ?_ _ | refine bs ?_ (by first | exact Nat.le_refl _ | (dsimp only; omega) | (simp; done)) _ | refine bt ?_ (by assumption)))))
  have Hk := Lib.hid (fun (w' : World) (hB : Below (w2.alloc (.cells #[.int .i64 sp.kind, .int .i64 sp.file, .slice a2 sp.roots.length c2] 30)).heap.size (w2.alloc (.cells #[.int .i64 sp.kind, .int .i64 sp.file, .slice a2 sp.roots.length c2] 30)) w') => (⟨(X3.out.step hB).cell 0, (O2.out.step hB).cell 0, (O2.out.step hB).cell 1, (O2.out.step hB).cell 2, hB⟩ : (fun w' => w'.cell? ⟨w1.heap.size, 0, none⟩ = some (.slice va fs.length vc) ∧ w'.cell? ⟨w2.heap.size, 0, none⟩ = some (.int .i64 sp.kind) ∧ w'.cell? ⟨w2.heap.size, 1, none⟩ = some (.int .i64 sp.file) ∧ w'.cell? ⟨w2.heap.size, 2, none⟩ = some (.slice a2 sp.roots.length c2) ∧ Below (w2.alloc (.cells #[.int .i64 sp.kind, .int .i64 sp.file, .slice a2 sp.roots.length c2] 30)).heap.size (w2.alloc (.cells #[.int .i64 sp.kind, .int .i64 sp.file, .slice a2 sp.roots.length c2] 30)) w') w'))
  obtain ⟨x3, y0, y1, y2, hB3⟩ := Hk.out _ (Below.refl _ _)
  have hlX := X2.out.lt
  have hz3 : w2.heap.size < (w2.alloc (.cells #[.int .i64 sp.kind, .int .i64 sp.file, .slice a2 sp.roots.length c2] 30)).heap.size := O2.out.lt
  clear hown2 hb2
  rcases (show okTree fs = true ∨ okTree fs = false by cases okTree fs <;> simp) with hok | hok
  · have Hok := Lib.hid hok
    rcases (show okPath xs = true ∨ okPath xs = false by cases okPath xs <;> simp) with hpo | hpo
    · have Hpo := Lib.hid hpo
      rcases (show vn s = true ∨ vn s = false by cases vn s <;> simp) with hvo | hvo
      · have Hvo := Lib.hid hvo
        have Hst := Lib.hid (findSpec_step (okLook_of hok hpo) hvo)
        clear hok hpo hvo
        go_wp2_with fail
        go_region_held3 (fun w' => w'.cell? ⟨w1.heap.size, 0, none⟩ = some (.slice va fs.length vc) ∧ w'.cell? ⟨w2.heap.size, 0, none⟩ = some (.int .i64 sp.kind) ∧ w'.cell? ⟨w2.heap.size, 1, none⟩ = some (.int .i64 sp.file) ∧ w'.cell? ⟨w2.heap.size, 2, none⟩ = some (.slice a2 sp.roots.length c2) ∧ Below (w2.alloc (.cells #[.int .i64 sp.kind, .int .i64 sp.file, .slice a2 sp.roots.length c2] 30)).heap.size (w2.alloc (.cells #[.int .i64 sp.kind, .int .i64 sp.file, .slice a2 sp.roots.length c2] 30)) w')
          (exact Hk.out _ (by (repeat (with_reducible first | exact Below.refl _ _ | assumption | refine ba ?_ _ | refine bd ?_ | refine bdN ?_ _ | refine bs ?_ (by first | exact Nat.le_refl _ | (dsimp only; omega) | (simp; done)) _ | refine bt ?_ (by assumption)))))
          (first
            | (go_at_call 7; refine (spec_FindSpec _ fs (fun _ => True) _ xs s _ (HF.out.below (bt H13.out (by (repeat (with_reducible first | exact Below.refl _ _ | assumption | refine ba ?_ _ | refine bd ?_ | refine bdN ?_ _ | refine bs ?_ (by first | exact Nat.le_refl _ | (dsimp only; omega) | (simp; done)) _ | refine bt ?_ (by assumption)))))) Hz2.out (HP.out.below (bt H13.out (by (repeat (with_reducible first | exact Below.refl _ _ | assumption | refine ba ?_ _ | refine bd ?_ | refine bdN ?_ _ | refine bs ?_ (by first | exact Nat.le_refl _ | (dsimp only; omega) | (simp; done)) _ | refine bt ?_ (by assumption)))))) (by omega)).mono ?_; rintro _ w5 ⟨v5, rfl, hown5, hb5⟩; rw [← Hsp.out] at hown5 ⊢; have S5 := Lib.hid (IntsIn.of_owns hown5); obtain ⟨a5, c5, rfl⟩ := owns_shape hown5; clear hown5)
            | (go_at_call 6; refine (laws_equalSpec sp sp _ _ _ (S2.out.below (bt H23.out (by (repeat (with_reducible first | exact Below.refl _ _ | assumption | refine ba ?_ _ | refine bd ?_ | refine bdN ?_ _ | refine bs ?_ (by first | exact Nat.le_refl _ | (dsimp only; omega) | (simp; done)) _ | refine bt ?_ (by assumption)))))) (S5.out.below (by (repeat (with_reducible first | exact Below.refl _ _ | assumption | refine ba ?_ _ | refine bd ?_ | refine bdN ?_ _ | refine bs ?_ (by first | exact Nat.le_refl _ | (dsimp only; omega) | (simp; done)) _ | refine bt ?_ (by assumption)))))).mono ?_; rintro _ w6 ⟨rfl, hb6⟩; rw [decide_eq_true rfl])
            | (go_at_call 8; refine (impl_ValidTree _ fs (fun _ => True) _ (HF.out.below (bt H13.out (by (repeat (with_reducible first | exact Below.refl _ _ | assumption | refine ba ?_ _ | refine bd ?_ | refine bdN ?_ _ | refine bs ?_ (by first | exact Nat.le_refl _ | (dsimp only; omega) | (simp; done)) _ | refine bt ?_ (by assumption)))))) Hz8.out).mono ?_; rintro _ w7 ⟨rfl, hb7⟩; rw [Hok.out])
            | (go_at_call 9; refine (impl_ValidPath _ xs _ (HP.out.below (bt H13.out (by (repeat (with_reducible first | exact Below.refl _ _ | assumption | refine ba ?_ _ | refine bd ?_ | refine bdN ?_ _ | refine bs ?_ (by first | exact Nat.le_refl _ | (dsimp only; omega) | (simp; done)) _ | refine bt ?_ (by assumption))))))).mono ?_; rintro _ _ ⟨rfl, rfl⟩; rw [Hpo.out])
            | (go_at_call 10; refine (impl_ValidName s _ (by omega)).mono ?_; rintro _ w8 ⟨rfl, hb8⟩; rw [Hvo.out]))
        have hE8 : Below (w2.alloc (.cells #[.int .i64 sp.kind, .int .i64 sp.file, .slice a2 sp.roots.length c2] 30)).heap.size (w2.alloc (.cells #[.int .i64 sp.kind, .int .i64 sp.file, .slice a2 sp.roots.length c2] 30)) w8 := by (repeat (with_reducible first | exact Below.refl _ _ | assumption | refine ba ?_ _ | refine bd ?_ | refine bdN ?_ _ | refine bs ?_ (by first | exact Nat.le_refl _ | (dsimp only; omega) | (simp; done)) _ | refine bt ?_ (by assumption)))
        clear x3 y0 y1 y2 hb5 hb6 hb7 hb8 S5
        obtain ⟨x3, y0, y1, y2, _⟩ := Hk.out _ hE8
        have hpl : (parentOf s).length ≤ 17 := by
          have h1 := parentOf_len s
          omega
        obtain ⟨p, hpp⟩ : ∃ p, p = parentOf s := ⟨_, rfl⟩
        have Hpp := Lib.hid hpp.symm
        rw [← hpp] at hpl
        rw [← hpp] at Hst
        clear hpp
        go_wp2_with fail
        refine (impl_ParentOf s _ (by omega)).mono ?_
        rintro _ w9 ⟨rfl, hb9⟩
        rw [Hpp.out]
        have hE9 : Below (w2.alloc (.cells #[.int .i64 sp.kind, .int .i64 sp.file, .slice a2 sp.roots.length c2] 30)).heap.size (w2.alloc (.cells #[.int .i64 sp.kind, .int .i64 sp.file, .slice a2 sp.roots.length c2] 30)) w9 := by (repeat (with_reducible first | exact Below.refl _ _ | assumption | refine ba ?_ _ | refine bd ?_ | refine bdN ?_ _ | refine bs ?_ (by first | exact Nat.le_refl _ | (dsimp only; omega) | (simp; done)) _ | refine bt ?_ (by assumption)))
        clear x3 y0 y1 y2 hb9 hE8
        obtain ⟨x3, y0, y1, y2, _⟩ := Hk.out _ hE9
        by_cases h0 : p = []
        · subst h0
          have Hin := Lib.hid (show findIn fs xs [] s = sp by rw [Hsp.out]; exact (Hst.out.1 rfl).symm)
          go_wp2_with fail
          go_region_held3 (fun w' => w'.cell? ⟨w1.heap.size, 0, none⟩ = some (.slice va fs.length vc) ∧ w'.cell? ⟨w2.heap.size, 0, none⟩ = some (.int .i64 sp.kind) ∧ w'.cell? ⟨w2.heap.size, 1, none⟩ = some (.int .i64 sp.file) ∧ w'.cell? ⟨w2.heap.size, 2, none⟩ = some (.slice a2 sp.roots.length c2) ∧ Below (w2.alloc (.cells #[.int .i64 sp.kind, .int .i64 sp.file, .slice a2 sp.roots.length c2] 30)).heap.size (w2.alloc (.cells #[.int .i64 sp.kind, .int .i64 sp.file, .slice a2 sp.roots.length c2] 30)) w')
            (exact Hk.out _ (by (repeat (with_reducible first | exact Below.refl _ _ | assumption | refine ba ?_ _ | refine bd ?_ | refine bdN ?_ _ | refine bs ?_ (by first | exact Nat.le_refl _ | (dsimp only; omega) | (simp; done)) _ | refine bt ?_ (by assumption)))))
            (first
              | (go_at_call 12; refine (impl_FindIn _ fs (fun _ => True) _ xs [] s _ (HF.out.below (bt H13.out (by (repeat (with_reducible first | exact Below.refl _ _ | assumption | refine ba ?_ _ | refine bd ?_ | refine bdN ?_ _ | refine bs ?_ (by first | exact Nat.le_refl _ | (dsimp only; omega) | (simp; done)) _ | refine bt ?_ (by assumption)))))) Hz2.out (HP.out.below (bt H13.out (by (repeat (with_reducible first | exact Below.refl _ _ | assumption | refine ba ?_ _ | refine bd ?_ | refine bdN ?_ _ | refine bs ?_ (by first | exact Nat.le_refl _ | (dsimp only; omega) | (simp; done)) _ | refine bt ?_ (by assumption)))))) (by simp) (by omega)).mono ?_; rintro _ w10 ⟨v10, rfl, hown10, hb10⟩; rw [Hin.out] at hown10 ⊢; have S10 := Lib.hid (IntsIn.of_owns hown10); obtain ⟨a10, c10, rfl⟩ := owns_shape hown10; clear hown10)
              | (go_at_call 6; refine (laws_equalSpec sp sp _ _ _ (S2.out.below (bt H23.out (by (repeat (with_reducible first | exact Below.refl _ _ | assumption | refine ba ?_ _ | refine bd ?_ | refine bdN ?_ _ | refine bs ?_ (by first | exact Nat.le_refl _ | (dsimp only; omega) | (simp; done)) _ | refine bt ?_ (by assumption)))))) (S10.out.below (by (repeat (with_reducible first | exact Below.refl _ _ | assumption | refine ba ?_ _ | refine bd ?_ | refine bdN ?_ _ | refine bs ?_ (by first | exact Nat.le_refl _ | (dsimp only; omega) | (simp; done)) _ | refine bt ?_ (by assumption)))))).mono ?_; rintro _ w11 ⟨rfl, hb11⟩; rw [decide_eq_true rfl]))
          go_wp2_with fail
          go_ret
          exact ⟨rfl, bt Hb1.out (bt H13.out (by (repeat (with_reducible first | exact Below.refl _ _ | assumption | refine ba ?_ _ | refine bd ?_ | refine bdN ?_ _ | refine bs ?_ (by first | exact Nat.le_refl _ | (dsimp only; omega) | (simp; done)) _ | refine bt ?_ (by assumption)))))⟩
        · have h0b : (p == []) = false := by simpa using h0
          have h0c : p.isEmpty = false := by simpa using h0
          have Hs2 := Lib.hid (Hst.out.2 h0)
          clear Hst h0
          obtain ⟨up, hup⟩ : ∃ up, up = findSpec fs xs p := ⟨_, rfl⟩
          have Hup := Lib.hid hup.symm
          rw [← hup] at Hs2
          clear hup
          go_wp2_with fail
          refine (impl_FindSpec _ fs (fun _ => True) _ xs p _ (HF.out.below (bt H13.out (by (repeat (with_reducible first | exact Below.refl _ _ | assumption | refine ba ?_ _ | refine bd ?_ | refine bdN ?_ _ | refine bs ?_ (by first | exact Nat.le_refl _ | (dsimp only; omega) | (simp; done)) _ | refine bt ?_ (by assumption)))))) Hz2.out (HP.out.below (bt H13.out (by (repeat (with_reducible first | exact Below.refl _ _ | assumption | refine ba ?_ _ | refine bd ?_ | refine bdN ?_ _ | refine bs ?_ (by first | exact Nat.le_refl _ | (dsimp only; omega) | (simp; done)) _ | refine bt ?_ (by assumption)))))) (by omega)).mono ?_
          rintro _ w10 ⟨v10, rfl, hown10, hb10⟩
          rw [Hup.out] at hown10 ⊢
          have S10 := Lib.hid (IntsIn.of_owns hown10)
          obtain ⟨a10, c10, rfl⟩ := owns_shape hown10
          have hE10 : Below (w2.alloc (.cells #[.int .i64 sp.kind, .int .i64 sp.file, .slice a2 sp.roots.length c2] 30)).heap.size (w2.alloc (.cells #[.int .i64 sp.kind, .int .i64 sp.file, .slice a2 sp.roots.length c2] 30)) w10 := by (repeat (with_reducible first | exact Below.refl _ _ | assumption | refine ba ?_ _ | refine bd ?_ | refine bdN ?_ _ | refine bs ?_ (by first | exact Nat.le_refl _ | (dsimp only; omega) | (simp; done)) _ | refine bt ?_ (by assumption)))
          clear x3 y0 y1 y2 hb10 hE9 hown10
          obtain ⟨x3, y0, y1, y2, _⟩ := Hk.out _ hE10
          have Z10 := Lib.hid (Boxed.start w10 #[.int .i64 up.kind, .int .i64 up.file, .slice a10 up.roots.length c10] 30)
          have hz10 : w2.heap.size < w10.heap.size := by have := hE10.size; omega
          have hzx : w1.heap.size < w10.heap.size := by have := X2.out.lt; omega
          obtain ⟨uk, uf, ur⟩ := up
          dsimp only at S10 Z10 Hs2 ⊢
          by_cases hk0 : uk = 0
          · subst hk0
            have Hs0 := Lib.hid (Hs2.out.1 (.inl rfl))
            rw [← Hsp.out] at Hs0
            have hs0b : (sp.kind == 0) = true := by simp [Hs0.out]
            go_wp2_with fail
            go_ret
            exact ⟨ret_bool (by first | rfl | simp [Hs0.out]), bt Hb1.out (bt H13.out (by (repeat (with_reducible first | exact Below.refl _ _ | assumption | refine ba ?_ _ | refine bd ?_ | refine bdN ?_ _ | refine bs ?_ (by first | exact Nat.le_refl _ | (dsimp only; omega) | (simp; done)) _ | refine bt ?_ (by assumption)))))⟩
          · by_cases hk1 : uk = 1
            · subst hk1
              have Hs0 := Lib.hid (Hs2.out.1 (.inr rfl))
              rw [← Hsp.out] at Hs0
              have hs0b : (sp.kind == 0) = true := by simp [Hs0.out]
              go_wp2_with fail
              go_ret
              exact ⟨ret_bool (by first | rfl | simp [Hs0.out]), bt Hb1.out (bt H13.out (by (repeat (with_reducible first | exact Below.refl _ _ | assumption | refine ba ?_ _ | refine bd ?_ | refine bdN ?_ _ | refine bs ?_ (by first | exact Nat.le_refl _ | (dsimp only; omega) | (simp; done)) _ | refine bt ?_ (by assumption)))))⟩
            · have hkb0 : (uk == 0) = false := by simpa using hk0
              have hkb1 : (uk == 1) = false := by simpa using hk1
              have Hin := Lib.hid (show findIn fs ur p (lastOf s) = sp by rw [Hsp.out]; exact (Hs2.out.2 (by simp [hk0, hk1])).symm)
              have hll : (lastOf s).length ≤ 3 := lastOf_len s
              obtain ⟨lp, hlp⟩ : ∃ lp, lp = lastOf s := ⟨_, rfl⟩
              have Hlp := Lib.hid hlp.symm
              rw [← hlp] at hll Hin
              clear hlp Hs2 hk0 hk1
              have Hk2 := Lib.hid (fun (w' : World) (hB : Below (w10.alloc (.cells #[.int .i64 uk, .int .i64 uf, .slice a10 ur.length c10] 30)).heap.size (w10.alloc (.cells #[.int .i64 uk, .int .i64 uf, .slice a10 ur.length c10] 30)) w') => (⟨(Hk.out w' (bt hE10 (bt (by (repeat (with_reducible first | exact Below.refl _ _ | assumption | refine ba ?_ _ | refine bd ?_ | refine bdN ?_ _ | refine bs ?_ (by first | exact Nat.le_refl _ | (dsimp only; omega) | (simp; done)) _ | refine bt ?_ (by assumption)))) hB))).1, (Hk.out w' (bt hE10 (bt (by (repeat (with_reducible first | exact Below.refl _ _ | assumption | refine ba ?_ _ | refine bd ?_ | refine bdN ?_ _ | refine bs ?_ (by first | exact Nat.le_refl _ | (dsimp only; omega) | (simp; done)) _ | refine bt ?_ (by assumption)))) hB))).2.1, (Hk.out w' (bt hE10 (bt (by (repeat (with_reducible first | exact Below.refl _ _ | assumption | refine ba ?_ _ | refine bd ?_ | refine bdN ?_ _ | refine bs ?_ (by first | exact Nat.le_refl _ | (dsimp only; omega) | (simp; done)) _ | refine bt ?_ (by assumption)))) hB))).2.2.1, (Hk.out w' (bt hE10 (bt (by (repeat (with_reducible first | exact Below.refl _ _ | assumption | refine ba ?_ _ | refine bd ?_ | refine bdN ?_ _ | refine bs ?_ (by first | exact Nat.le_refl _ | (dsimp only; omega) | (simp; done)) _ | refine bt ?_ (by assumption)))) hB))).2.2.2.1, (Z10.out.step hB).cell 2, hB⟩ : w'.cell? ⟨w1.heap.size, 0, none⟩ = some (.slice va fs.length vc) ∧ w'.cell? ⟨w2.heap.size, 0, none⟩ = some (.int .i64 sp.kind) ∧ w'.cell? ⟨w2.heap.size, 1, none⟩ = some (.int .i64 sp.file) ∧ w'.cell? ⟨w2.heap.size, 2, none⟩ = some (.slice a2 sp.roots.length c2) ∧ w'.cell? ⟨w10.heap.size, 2, none⟩ = some (.slice a10 ur.length c10) ∧ Below (w10.alloc (.cells #[.int .i64 uk, .int .i64 uf, .slice a10 ur.length c10] 30)).heap.size (w10.alloc (.cells #[.int .i64 uk, .int .i64 uf, .slice a10 ur.length c10] 30)) w'))
              have H10 := Lib.hid (show Below w10.heap.size w10 (w10.alloc (.cells #[.int .i64 uk, .int .i64 uf, .slice a10 ur.length c10] 30)) by (repeat (with_reducible first | exact Below.refl _ _ | assumption | refine ba ?_ _ | refine bd ?_ | refine bdN ?_ _ | refine bs ?_ (by first | exact Nat.le_refl _ | (dsimp only; omega) | (simp; done)) _ | refine bt ?_ (by assumption))))
              have HE10 := Lib.hid hE10
              clear x3 y0 y1 y2 hE10
              obtain ⟨x3, y0, y1, y2, u2, hB10⟩ := Hk2.out _ (Below.refl _ _)
              go_wp2_with fail
              go_region_held3 (fun w' => w'.cell? ⟨w1.heap.size, 0, none⟩ = some (.slice va fs.length vc) ∧ w'.cell? ⟨w2.heap.size, 0, none⟩ = some (.int .i64 sp.kind) ∧ w'.cell? ⟨w2.heap.size, 1, none⟩ = some (.int .i64 sp.file) ∧ w'.cell? ⟨w2.heap.size, 2, none⟩ = some (.slice a2 sp.roots.length c2) ∧ w'.cell? ⟨w10.heap.size, 2, none⟩ = some (.slice a10 ur.length c10) ∧ Below (w10.alloc (.cells #[.int .i64 uk, .int .i64 uf, .slice a10 ur.length c10] 30)).heap.size (w10.alloc (.cells #[.int .i64 uk, .int .i64 uf, .slice a10 ur.length c10] 30)) w')
                (exact Hk2.out _ (by (repeat (with_reducible first | exact Below.refl _ _ | assumption | refine ba ?_ _ | refine bd ?_ | refine bdN ?_ _ | refine bs ?_ (by first | exact Nat.le_refl _ | (dsimp only; omega) | (simp; done)) _ | refine bt ?_ (by assumption)))))
                (first
                  | (go_at_call 13; refine (impl_LastOf s _ (by omega)).mono ?_; rintro _ w11 ⟨rfl, hb11⟩; rw [Hlp.out])
                  | (go_at_call 12; refine (impl_FindIn _ fs (fun _ => True) _ ur p lp _ (HF.out.below (bt H13.out (bt HE10.out (bt H10.out (by (repeat (with_reducible first | exact Below.refl _ _ | assumption | refine ba ?_ _ | refine bd ?_ | refine bdN ?_ _ | refine bs ?_ (by first | exact Nat.le_refl _ | (dsimp only; omega) | (simp; done)) _ | refine bt ?_ (by assumption)))))))) Hz2.out (S10.out.below (bt H10.out (by (repeat (with_reducible first | exact Below.refl _ _ | assumption | refine ba ?_ _ | refine bd ?_ | refine bdN ?_ _ | refine bs ?_ (by first | exact Nat.le_refl _ | (dsimp only; omega) | (simp; done)) _ | refine bt ?_ (by assumption)))))) (by omega) (by omega)).mono ?_; rintro _ w12 ⟨v12, rfl, hown12, hb12⟩; rw [Hin.out] at hown12 ⊢; have S12 := Lib.hid (IntsIn.of_owns hown12); obtain ⟨a12, c12, rfl⟩ := owns_shape hown12; clear hown12)
                  | (go_at_call 6; refine (laws_equalSpec sp sp _ _ _ (S2.out.below (bt H23.out (bt HE10.out (bt H10.out (by (repeat (with_reducible first | exact Below.refl _ _ | assumption | refine ba ?_ _ | refine bd ?_ | refine bdN ?_ _ | refine bs ?_ (by first | exact Nat.le_refl _ | (dsimp only; omega) | (simp; done)) _ | refine bt ?_ (by assumption)))))))) (S12.out.below (by (repeat (with_reducible first | exact Below.refl _ _ | assumption | refine ba ?_ _ | refine bd ?_ | refine bdN ?_ _ | refine bs ?_ (by first | exact Nat.le_refl _ | (dsimp only; omega) | (simp; done)) _ | refine bt ?_ (by assumption)))))).mono ?_; rintro _ w13 ⟨rfl, hb13⟩; rw [decide_eq_true rfl]))
              go_wp2_with fail
              go_ret
              exact ⟨rfl, bt Hb1.out (bt H13.out (bt HE10.out (bt H10.out (by (repeat (with_reducible first | exact Below.refl _ _ | assumption | refine ba ?_ _ | refine bd ?_ | refine bdN ?_ _ | refine bs ?_ (by first | exact Nat.le_refl _ | (dsimp only; omega) | (simp; done)) _ | refine bt ?_ (by assumption)))))))⟩
      · have Hvo := Lib.hid hvo
        clear hok hpo hvo
        go_wp2_with fail
        go_region_held3 (fun w' => w'.cell? ⟨w1.heap.size, 0, none⟩ = some (.slice va fs.length vc) ∧ w'.cell? ⟨w2.heap.size, 0, none⟩ = some (.int .i64 sp.kind) ∧ w'.cell? ⟨w2.heap.size, 1, none⟩ = some (.int .i64 sp.file) ∧ w'.cell? ⟨w2.heap.size, 2, none⟩ = some (.slice a2 sp.roots.length c2) ∧ Below (w2.alloc (.cells #[.int .i64 sp.kind, .int .i64 sp.file, .slice a2 sp.roots.length c2] 30)).heap.size (w2.alloc (.cells #[.int .i64 sp.kind, .int .i64 sp.file, .slice a2 sp.roots.length c2] 30)) w')
          (exact Hk.out _ (by (repeat (with_reducible first | exact Below.refl _ _ | assumption | refine ba ?_ _ | refine bd ?_ | refine bdN ?_ _ | refine bs ?_ (by first | exact Nat.le_refl _ | (dsimp only; omega) | (simp; done)) _ | refine bt ?_ (by assumption)))))
          (first
            | (go_at_call 7; refine (spec_FindSpec _ fs (fun _ => True) _ xs s _ (HF.out.below (bt H13.out (by (repeat (with_reducible first | exact Below.refl _ _ | assumption | refine ba ?_ _ | refine bd ?_ | refine bdN ?_ _ | refine bs ?_ (by first | exact Nat.le_refl _ | (dsimp only; omega) | (simp; done)) _ | refine bt ?_ (by assumption)))))) Hz2.out (HP.out.below (bt H13.out (by (repeat (with_reducible first | exact Below.refl _ _ | assumption | refine ba ?_ _ | refine bd ?_ | refine bdN ?_ _ | refine bs ?_ (by first | exact Nat.le_refl _ | (dsimp only; omega) | (simp; done)) _ | refine bt ?_ (by assumption)))))) (by omega)).mono ?_; rintro _ w5 ⟨v5, rfl, hown5, hb5⟩; rw [← Hsp.out] at hown5 ⊢; have S5 := Lib.hid (IntsIn.of_owns hown5); obtain ⟨a5, c5, rfl⟩ := owns_shape hown5; clear hown5)
            | (go_at_call 6; refine (laws_equalSpec sp sp _ _ _ (S2.out.below (bt H23.out (by (repeat (with_reducible first | exact Below.refl _ _ | assumption | refine ba ?_ _ | refine bd ?_ | refine bdN ?_ _ | refine bs ?_ (by first | exact Nat.le_refl _ | (dsimp only; omega) | (simp; done)) _ | refine bt ?_ (by assumption)))))) (S5.out.below (by (repeat (with_reducible first | exact Below.refl _ _ | assumption | refine ba ?_ _ | refine bd ?_ | refine bdN ?_ _ | refine bs ?_ (by first | exact Nat.le_refl _ | (dsimp only; omega) | (simp; done)) _ | refine bt ?_ (by assumption)))))).mono ?_; rintro _ w6 ⟨rfl, hb6⟩; rw [decide_eq_true rfl])
            | (go_at_call 8; refine (impl_ValidTree _ fs (fun _ => True) _ (HF.out.below (bt H13.out (by (repeat (with_reducible first | exact Below.refl _ _ | assumption | refine ba ?_ _ | refine bd ?_ | refine bdN ?_ _ | refine bs ?_ (by first | exact Nat.le_refl _ | (dsimp only; omega) | (simp; done)) _ | refine bt ?_ (by assumption)))))) Hz8.out).mono ?_; rintro _ w7 ⟨rfl, hb7⟩; rw [Hok.out])
            | (go_at_call 9; refine (impl_ValidPath _ xs _ (HP.out.below (bt H13.out (by (repeat (with_reducible first | exact Below.refl _ _ | assumption | refine ba ?_ _ | refine bd ?_ | refine bdN ?_ _ | refine bs ?_ (by first | exact Nat.le_refl _ | (dsimp only; omega) | (simp; done)) _ | refine bt ?_ (by assumption))))))).mono ?_; rintro _ _ ⟨rfl, rfl⟩; rw [Hpo.out])
            | (go_at_call 10; refine (impl_ValidName s _ (by omega)).mono ?_; rintro _ w8 ⟨rfl, hb8⟩; rw [Hvo.out]))
        have hE8 : Below (w2.alloc (.cells #[.int .i64 sp.kind, .int .i64 sp.file, .slice a2 sp.roots.length c2] 30)).heap.size (w2.alloc (.cells #[.int .i64 sp.kind, .int .i64 sp.file, .slice a2 sp.roots.length c2] 30)) w8 := by (repeat (with_reducible first | exact Below.refl _ _ | assumption | refine ba ?_ _ | refine bd ?_ | refine bdN ?_ _ | refine bs ?_ (by first | exact Nat.le_refl _ | (dsimp only; omega) | (simp; done)) _ | refine bt ?_ (by assumption)))
        clear x3 y0 y1 y2 hb5 hb6 hb7 hb8 S5
        obtain ⟨x3, y0, y1, y2, _⟩ := Hk.out _ hE8
        go_wp2_with fail
        go_region_held3 (fun w' => w'.cell? ⟨w1.heap.size, 0, none⟩ = some (.slice va fs.length vc) ∧ w'.cell? ⟨w2.heap.size, 0, none⟩ = some (.int .i64 sp.kind) ∧ w'.cell? ⟨w2.heap.size, 1, none⟩ = some (.int .i64 sp.file) ∧ w'.cell? ⟨w2.heap.size, 2, none⟩ = some (.slice a2 sp.roots.length c2) ∧ Below (w2.alloc (.cells #[.int .i64 sp.kind, .int .i64 sp.file, .slice a2 sp.roots.length c2] 30)).heap.size (w2.alloc (.cells #[.int .i64 sp.kind, .int .i64 sp.file, .slice a2 sp.roots.length c2] 30)) w')
          (exact Hk.out _ (by (repeat (with_reducible first | exact Below.refl _ _ | assumption | refine ba ?_ _ | refine bd ?_ | refine bdN ?_ _ | refine bs ?_ (by first | exact Nat.le_refl _ | (dsimp only; omega) | (simp; done)) _ | refine bt ?_ (by assumption)))))
          (first
            | (go_at_call 7; refine (spec_FindSpec _ fs (fun _ => True) _ xs s _ (HF.out.below (bt H13.out (by (repeat (with_reducible first | exact Below.refl _ _ | assumption | refine ba ?_ _ | refine bd ?_ | refine bdN ?_ _ | refine bs ?_ (by first | exact Nat.le_refl _ | (dsimp only; omega) | (simp; done)) _ | refine bt ?_ (by assumption)))))) Hz2.out (HP.out.below (bt H13.out (by (repeat (with_reducible first | exact Below.refl _ _ | assumption | refine ba ?_ _ | refine bd ?_ | refine bdN ?_ _ | refine bs ?_ (by first | exact Nat.le_refl _ | (dsimp only; omega) | (simp; done)) _ | refine bt ?_ (by assumption)))))) (by omega)).mono ?_; rintro _ w10 ⟨v10, rfl, hown10, hb10⟩; rw [← Hsp.out] at hown10 ⊢; have S10 := Lib.hid (IntsIn.of_owns hown10); obtain ⟨a10, c10, rfl⟩ := owns_shape hown10; clear hown10)
            | (go_at_call 6; refine (laws_equalSpec sp sp _ _ _ (S2.out.below (bt H23.out (by (repeat (with_reducible first | exact Below.refl _ _ | assumption | refine ba ?_ _ | refine bd ?_ | refine bdN ?_ _ | refine bs ?_ (by first | exact Nat.le_refl _ | (dsimp only; omega) | (simp; done)) _ | refine bt ?_ (by assumption)))))) (S10.out.below (by (repeat (with_reducible first | exact Below.refl _ _ | assumption | refine ba ?_ _ | refine bd ?_ | refine bdN ?_ _ | refine bs ?_ (by first | exact Nat.le_refl _ | (dsimp only; omega) | (simp; done)) _ | refine bt ?_ (by assumption)))))).mono ?_; rintro _ w11 ⟨rfl, hb11⟩; rw [decide_eq_true rfl]))
        go_wp2_with fail
        go_ret
        exact ⟨rfl, bt Hb1.out (bt H13.out (by (repeat (with_reducible first | exact Below.refl _ _ | assumption | refine ba ?_ _ | refine bd ?_ | refine bdN ?_ _ | refine bs ?_ (by first | exact Nat.le_refl _ | (dsimp only; omega) | (simp; done)) _ | refine bt ?_ (by assumption)))))⟩
    · have Hpo := Lib.hid hpo
      clear hok hpo
      go_wp2_with fail
      refine wp_region_held_drew (S := (fun w' => w'.cell? ⟨w1.heap.size, 0, none⟩ = some (.slice va fs.length vc) ∧ w'.cell? ⟨w2.heap.size, 0, none⟩ = some (.int .i64 sp.kind) ∧ w'.cell? ⟨w2.heap.size, 1, none⟩ = some (.int .i64 sp.file) ∧ w'.cell? ⟨w2.heap.size, 2, none⟩ = some (.slice a2 sp.roots.length c2) ∧ Below (w2.alloc (.cells #[.int .i64 sp.kind, .int .i64 sp.file, .slice a2 sp.roots.length c2] 30)).heap.size (w2.alloc (.cells #[.int .i64 sp.kind, .int .i64 sp.file, .slice a2 sp.roots.length c2] 30)) w')) (by kernel_rfl) ?_ (fun hHeld => ?_)
      · (exact Hk.out _ (by (repeat (with_reducible first | exact Below.refl _ _ | assumption | refine ba ?_ _ | refine bd ?_ | refine bdN ?_ _ | refine bs ?_ (by first | exact Nat.le_refl _ | (dsimp only; omega) | (simp; done)) _ | refine bt ?_ (by assumption)))))
      refine take_at (i := 0) (v := ?_) (some 22) rfl rfl (by kernel_rfl) (by kernel_rfl) (by kernel_rfl) (fun _ _ _ h => h) (Or.inl ⟨by rfl, ?_⟩) (by assumption) ?_
      rotate_left
      · (intro w hSw; (try dsimp only at hSw); go_simp; try with_reducible rfl)
      try simp only [Act.put, List.setIfInBounds_toArray, List.set_cons_zero, List.set_cons_succ]
      refine take_at (i := 1) (v := ?_) (some 23) rfl rfl (by kernel_rfl) (by kernel_rfl) (by kernel_rfl) (fun _ _ _ h => h) (Or.inl ⟨by rfl, ?_⟩) (by assumption) ?_
      rotate_left
      · (intro w hSw; (try dsimp only at hSw); go_simp; try with_reducible rfl)
      try simp only [Act.put, List.setIfInBounds_toArray, List.set_cons_zero, List.set_cons_succ]
      refine take_at (i := 2) (v := ?_) (some 24) rfl rfl (by kernel_rfl) (by kernel_rfl) (by kernel_rfl) (fun _ _ _ h => h) (Or.inl ⟨by rfl, ?_⟩) (by assumption) ?_
      rotate_left
      · (intro w hSw; (try dsimp only at hSw); go_simp; try with_reducible rfl)
      try simp only [Act.put, List.setIfInBounds_toArray, List.set_cons_zero, List.set_cons_succ]
      refine take_at (i := 3) (v := ?_) (some 25) rfl rfl (by kernel_rfl) (by kernel_rfl) (by kernel_rfl) (fun _ _ _ h => h) (Or.inl ⟨by rfl, ?_⟩) (by assumption) ?_
      rotate_left
      · (intro w hSw; (try dsimp only at hSw); go_simp; try with_reducible rfl)
      try simp only [Act.put, List.setIfInBounds_toArray, List.set_cons_zero, List.set_cons_succ]
      refine wpAnyH_ready (rs := [4]) (by kernel_rfl) (by simp) ?_
      refine AllReadyH.cons rfl (fun K hK => ?_) AllReadyH.nil
      go_simp
      refine (spec_FindSpec _ fs (fun _ => True) _ xs s _ (HF.out.below (bt H13.out (by (repeat (with_reducible first | exact Below.refl _ _ | assumption | refine ba ?_ _ | refine bd ?_ | refine bdN ?_ _ | refine bs ?_ (by first | exact Nat.le_refl _ | (dsimp only; omega) | (simp; done)) _ | refine bt ?_ (by assumption)))))) Hz2.out (HP.out.below (bt H13.out (by (repeat (with_reducible first | exact Below.refl _ _ | assumption | refine ba ?_ _ | refine bd ?_ | refine bdN ?_ _ | refine bs ?_ (by first | exact Nat.le_refl _ | (dsimp only; omega) | (simp; done)) _ | refine bt ?_ (by assumption)))))) (by omega)).mono ?_
      rintro _ w5 ⟨v5, rfl, hown5, hb5⟩
      rw [← Hsp.out] at hown5 ⊢
      have S5 := Lib.hid (IntsIn.of_owns hown5)
      obtain ⟨a5, c5, rfl⟩ := owns_shape hown5
      clear hown5
      go_wp2_with fail
      clear hHeld
      refine hK.out _ _ ?_ (fun hHeld => ?_)
      · (exact Hk.out _ (by (repeat (with_reducible first | exact Below.refl _ _ | assumption | refine ba ?_ _ | refine bd ?_ | refine bdN ?_ _ | refine bs ?_ (by first | exact Nat.le_refl _ | (dsimp only; omega) | (simp; done)) _ | refine bt ?_ (by assumption)))))
      clear hK K
      try simp only [Act.put, List.setIfInBounds_toArray, List.set_cons_zero, List.set_cons_succ]
      refine wpAnyH_ready (rs := [5]) (by kernel_rfl) (by simp) ?_
      refine AllReadyH.cons rfl (fun K hK => ?_) AllReadyH.nil
      go_simp
      refine (laws_equalSpec sp sp _ _ _ (S2.out.below (bt H23.out (by (repeat (with_reducible first | exact Below.refl _ _ | assumption | refine ba ?_ _ | refine bd ?_ | refine bdN ?_ _ | refine bs ?_ (by first | exact Nat.le_refl _ | (dsimp only; omega) | (simp; done)) _ | refine bt ?_ (by assumption)))))) (S5.out.below (by (repeat (with_reducible first | exact Below.refl _ _ | assumption | refine ba ?_ _ | refine bd ?_ | refine bdN ?_ _ | refine bs ?_ (by first | exact Nat.le_refl _ | (dsimp only; omega) | (simp; done)) _ | refine bt ?_ (by assumption)))))).mono ?_
      rintro _ w6 ⟨rfl, hb6⟩
      rw [decide_eq_true rfl]
      go_wp2_with fail
      clear hHeld
      refine hK.out _ _ ?_ (fun hHeld => ?_)
      · (exact Hk.out _ (by (repeat (with_reducible first | exact Below.refl _ _ | assumption | refine ba ?_ _ | refine bd ?_ | refine bdN ?_ _ | refine bs ?_ (by first | exact Nat.le_refl _ | (dsimp only; omega) | (simp; done)) _ | refine bt ?_ (by assumption)))))
      clear hK K
      try simp only [Act.put, List.setIfInBounds_toArray, List.set_cons_zero, List.set_cons_succ]
      refine take_at (i := 6) (v := ?_) (some 28) rfl rfl (by kernel_rfl) (by kernel_rfl) (by kernel_rfl) (fun _ _ _ h => h) (Or.inl ⟨by rfl, ?_⟩) (by assumption) ?_
      rotate_left
      · (intro w hSw; (try dsimp only at hSw); go_simp; try with_reducible rfl)
      try simp only [Act.put, List.setIfInBounds_toArray, List.set_cons_zero, List.set_cons_succ]
      refine take_at (i := 7) (v := ?_) (some 29) rfl rfl (by kernel_rfl) (by kernel_rfl) (by kernel_rfl) (fun _ _ _ h => h) (Or.inl ⟨by rfl, ?_⟩) (by assumption) ?_
      rotate_left
      · (intro w hSw; (try dsimp only at hSw); go_simp; try with_reducible rfl)
      try simp only [Act.put, List.setIfInBounds_toArray, List.set_cons_zero, List.set_cons_succ]
      refine take_at (i := 8) (v := ?_) (some 30) rfl rfl (by kernel_rfl) (by kernel_rfl) (by kernel_rfl) (fun _ _ _ h => h) (Or.inl ⟨by rfl, ?_⟩) (by assumption) ?_
      rotate_left
      · (intro w hSw; (try dsimp only at hSw); go_simp; try with_reducible rfl)
      try simp only [Act.put, List.setIfInBounds_toArray, List.set_cons_zero, List.set_cons_succ]
      refine wpAnyH_ready (rs := [9]) (by kernel_rfl) (by simp) ?_
      refine AllReadyH.cons rfl (fun K hK => ?_) AllReadyH.nil
      go_simp
      refine (impl_ValidTree _ fs (fun _ => True) _ (HF.out.below (bt H13.out (by (repeat (with_reducible first | exact Below.refl _ _ | assumption | refine ba ?_ _ | refine bd ?_ | refine bdN ?_ _ | refine bs ?_ (by first | exact Nat.le_refl _ | (dsimp only; omega) | (simp; done)) _ | refine bt ?_ (by assumption)))))) Hz8.out).mono ?_
      rintro _ w7 ⟨rfl, hb7⟩
      rw [Hok.out]
      go_wp2_with fail
      clear hHeld
      refine hK.out _ _ ?_ (fun hHeld => ?_)
      · (exact Hk.out _ (by (repeat (with_reducible first | exact Below.refl _ _ | assumption | refine ba ?_ _ | refine bd ?_ | refine bdN ?_ _ | refine bs ?_ (by first | exact Nat.le_refl _ | (dsimp only; omega) | (simp; done)) _ | refine bt ?_ (by assumption)))))
      clear hK K
      try simp only [Act.put, List.setIfInBounds_toArray, List.set_cons_zero, List.set_cons_succ]
      refine take_at (i := 10) (v := ?_) (some 32) rfl rfl (by kernel_rfl) (by kernel_rfl) (by kernel_rfl) (fun _ _ _ h => h) (Or.inl ⟨by rfl, ?_⟩) (by assumption) ?_
      rotate_left
      · (intro w hSw; (try dsimp only at hSw); go_simp; try with_reducible rfl)
      try simp only [Act.put, List.setIfInBounds_toArray, List.set_cons_zero, List.set_cons_succ]
      refine take_at (i := 11) (v := ?_) (some 33) rfl rfl (by kernel_rfl) (by kernel_rfl) (by kernel_rfl) (fun _ _ _ h => h) (Or.inl ⟨by rfl, ?_⟩) (by assumption) ?_
      rotate_left
      · (intro w hSw; (try dsimp only at hSw); go_simp; try with_reducible rfl)
      try simp only [Act.put, List.setIfInBounds_toArray, List.set_cons_zero, List.set_cons_succ]
      refine take_at (i := 12) (v := ?_) (some 34) rfl rfl (by kernel_rfl) (by kernel_rfl) (by kernel_rfl) (fun _ _ _ h => h) (Or.inl ⟨by rfl, ?_⟩) (by assumption) ?_
      rotate_left
      · (intro w hSw; (try dsimp only at hSw); go_simp; try with_reducible rfl)
      try simp only [Act.put, List.setIfInBounds_toArray, List.set_cons_zero, List.set_cons_succ]
      refine take_at (i := 13) (v := ?_) (some 35) rfl rfl (by kernel_rfl) (by kernel_rfl) (by kernel_rfl) (fun _ _ _ h => h) (Or.inl ⟨by rfl, ?_⟩) (by assumption) ?_
      rotate_left
      · (intro w hSw; (try dsimp only at hSw); go_simp; try with_reducible rfl)
      try simp only [Act.put, List.setIfInBounds_toArray, List.set_cons_zero, List.set_cons_succ]
      refine wpAnyH_ready (rs := [14]) (by kernel_rfl) (by simp) ?_
      refine AllReadyH.cons rfl (fun K hK => ?_) AllReadyH.nil
      go_simp
      refine (impl_ValidPath _ xs _ (HP.out.below (bt H13.out (by (repeat (with_reducible first | exact Below.refl _ _ | assumption | refine ba ?_ _ | refine bd ?_ | refine bdN ?_ _ | refine bs ?_ (by first | exact Nat.le_refl _ | (dsimp only; omega) | (simp; done)) _ | refine bt ?_ (by assumption))))))).mono ?_
      rintro _ _ ⟨rfl, rfl⟩
      rw [Hpo.out]
      go_wp2_with fail
      clear hHeld
      refine hK.out _ _ ?_ (fun hHeld => ?_)
      · (exact Hk.out _ (by (repeat (with_reducible first | exact Below.refl _ _ | assumption | refine ba ?_ _ | refine bd ?_ | refine bdN ?_ _ | refine bs ?_ (by first | exact Nat.le_refl _ | (dsimp only; omega) | (simp; done)) _ | refine bt ?_ (by assumption)))))
      clear hK K
      try simp only [Act.put, List.setIfInBounds_toArray, List.set_cons_zero, List.set_cons_succ]
      refine take_at (i := 15) (v := ?_) (some 37) rfl rfl (by kernel_rfl) (by kernel_rfl) (by kernel_rfl) (fun _ _ _ h => h) (Or.inl ⟨by rfl, ?_⟩) (by assumption) ?_
      rotate_left
      · (intro w hSw; (try dsimp only at hSw); go_simp; try with_reducible rfl)
      try simp only [Act.put, List.setIfInBounds_toArray, List.set_cons_zero, List.set_cons_succ]
      refine take_at (i := 16) (v := ?_) (some 38) rfl rfl (by kernel_rfl) (by kernel_rfl) (by kernel_rfl) (fun _ _ _ h => h) (Or.inl ⟨by rfl, ?_⟩) (by assumption) ?_
      rotate_left
      · (intro w hSw; (try dsimp only at hSw); go_simp; try with_reducible rfl)
      try simp only [Act.put, List.setIfInBounds_toArray, List.set_cons_zero, List.set_cons_succ]
      refine take_at (i := 17) (v := ?_) (some 39) rfl rfl (by kernel_rfl) (by kernel_rfl) (by kernel_rfl) (fun _ _ _ h => h) (Or.inl ⟨by rfl, ?_⟩) (by assumption) ?_
      rotate_left
      · (intro w hSw; (try dsimp only at hSw); go_simp; try with_reducible rfl)
      try simp only [Act.put, List.setIfInBounds_toArray, List.set_cons_zero, List.set_cons_succ]
      refine take_at (i := 18) (v := undef) (some 40) rfl rfl (by kernel_rfl) (by kernel_rfl) (by kernel_rfl) (fun _ _ _ h => h) (Or.inr ⟨by rfl, rfl⟩) (by assumption) ?_
      try simp only [Act.put, List.setIfInBounds_toArray, List.set_cons_zero, List.set_cons_succ]
      refine take_at (i := 19) (v := undef) (some 41) rfl rfl (by kernel_rfl) (by kernel_rfl) (by kernel_rfl) (fun _ _ _ h => h) (Or.inr ⟨by rfl, rfl⟩) (by assumption) ?_
      try simp only [Act.put, List.setIfInBounds_toArray, List.set_cons_zero, List.set_cons_succ]
      refine take_at (i := 20) (v := undef) (some 42) rfl rfl (by kernel_rfl) (by kernel_rfl) (by kernel_rfl) (fun _ _ _ h => h) (Or.inr ⟨by rfl, rfl⟩) (by assumption) ?_
      try simp only [Act.put, List.setIfInBounds_toArray, List.set_cons_zero, List.set_cons_succ]
      refine take_at (i := 21) (v := ?_) (some 43) rfl rfl (by kernel_rfl) (by kernel_rfl) (by kernel_rfl) (fun _ _ _ h => h) (Or.inl ⟨by rfl, ?_⟩) (by assumption) ?_
      rotate_left
      · (intro w hSw; (try dsimp only at hSw); go_simp; try with_reducible rfl)
      try simp only [Act.put, List.setIfInBounds_toArray, List.set_cons_zero, List.set_cons_succ]
      refine wpAnyH_done (by kernel_rfl) ?_ _
      all_goals
        have hE7 : Below (w2.alloc (.cells #[.int .i64 sp.kind, .int .i64 sp.file, .slice a2 sp.roots.length c2] 30)).heap.size (w2.alloc (.cells #[.int .i64 sp.kind, .int .i64 sp.file, .slice a2 sp.roots.length c2] 30)) w7 := by (repeat (with_reducible first | exact Below.refl _ _ | assumption | refine ba ?_ _ | refine bd ?_ | refine bdN ?_ _ | refine bs ?_ (by first | exact Nat.le_refl _ | (dsimp only; omega) | (simp; done)) _ | refine bt ?_ (by assumption)))
        clear x3 y0 y1 y2 hb5 hb6 hb7 S5
        obtain ⟨x3, y0, y1, y2, _⟩ := Hk.out _ hE7
        go_wp2_with fail
        go_region_held3 (fun w' => w'.cell? ⟨w1.heap.size, 0, none⟩ = some (.slice va fs.length vc) ∧ w'.cell? ⟨w2.heap.size, 0, none⟩ = some (.int .i64 sp.kind) ∧ w'.cell? ⟨w2.heap.size, 1, none⟩ = some (.int .i64 sp.file) ∧ w'.cell? ⟨w2.heap.size, 2, none⟩ = some (.slice a2 sp.roots.length c2) ∧ Below (w2.alloc (.cells #[.int .i64 sp.kind, .int .i64 sp.file, .slice a2 sp.roots.length c2] 30)).heap.size (w2.alloc (.cells #[.int .i64 sp.kind, .int .i64 sp.file, .slice a2 sp.roots.length c2] 30)) w')
          (exact Hk.out _ (by (repeat (with_reducible first | exact Below.refl _ _ | assumption | refine ba ?_ _ | refine bd ?_ | refine bdN ?_ _ | refine bs ?_ (by first | exact Nat.le_refl _ | (dsimp only; omega) | (simp; done)) _ | refine bt ?_ (by assumption)))))
          (first
            | (go_at_call 7; refine (spec_FindSpec _ fs (fun _ => True) _ xs s _ (HF.out.below (bt H13.out (by (repeat (with_reducible first | exact Below.refl _ _ | assumption | refine ba ?_ _ | refine bd ?_ | refine bdN ?_ _ | refine bs ?_ (by first | exact Nat.le_refl _ | (dsimp only; omega) | (simp; done)) _ | refine bt ?_ (by assumption)))))) Hz2.out (HP.out.below (bt H13.out (by (repeat (with_reducible first | exact Below.refl _ _ | assumption | refine ba ?_ _ | refine bd ?_ | refine bdN ?_ _ | refine bs ?_ (by first | exact Nat.le_refl _ | (dsimp only; omega) | (simp; done)) _ | refine bt ?_ (by assumption)))))) (by omega)).mono ?_; rintro _ w10 ⟨v10, rfl, hown10, hb10⟩; rw [← Hsp.out] at hown10 ⊢; have S10 := Lib.hid (IntsIn.of_owns hown10); obtain ⟨a10, c10, rfl⟩ := owns_shape hown10; clear hown10)
            | (go_at_call 6; refine (laws_equalSpec sp sp _ _ _ (S2.out.below (bt H23.out (by (repeat (with_reducible first | exact Below.refl _ _ | assumption | refine ba ?_ _ | refine bd ?_ | refine bdN ?_ _ | refine bs ?_ (by first | exact Nat.le_refl _ | (dsimp only; omega) | (simp; done)) _ | refine bt ?_ (by assumption)))))) (S10.out.below (by (repeat (with_reducible first | exact Below.refl _ _ | assumption | refine ba ?_ _ | refine bd ?_ | refine bdN ?_ _ | refine bs ?_ (by first | exact Nat.le_refl _ | (dsimp only; omega) | (simp; done)) _ | refine bt ?_ (by assumption)))))).mono ?_; rintro _ w11 ⟨rfl, hb11⟩; rw [decide_eq_true rfl]))
        go_wp2_with fail
        go_ret
        exact ⟨rfl, bt Hb1.out (bt H13.out (by (repeat (with_reducible first | exact Below.refl _ _ | assumption | refine ba ?_ _ | refine bd ?_ | refine bdN ?_ _ | refine bs ?_ (by first | exact Nat.le_refl _ | (dsimp only; omega) | (simp; done)) _ | refine bt ?_ (by assumption)))))⟩
  · have Hok := Lib.hid hok
    clear hok
    go_wp2_with fail
    refine wp_region_held_drew (S := (fun w' => w'.cell? ⟨w1.heap.size, 0, none⟩ = some (.slice va fs.length vc) ∧ w'.cell? ⟨w2.heap.size, 0, none⟩ = some (.int .i64 sp.kind) ∧ w'.cell? ⟨w2.heap.size, 1, none⟩ = some (.int .i64 sp.file) ∧ w'.cell? ⟨w2.heap.size, 2, none⟩ = some (.slice a2 sp.roots.length c2) ∧ Below (w2.alloc (.cells #[.int .i64 sp.kind, .int .i64 sp.file, .slice a2 sp.roots.length c2] 30)).heap.size (w2.alloc (.cells #[.int .i64 sp.kind, .int .i64 sp.file, .slice a2 sp.roots.length c2] 30)) w')) (by kernel_rfl) ?_ (fun hHeld => ?_)
    · (exact Hk.out _ (by (repeat (with_reducible first | exact Below.refl _ _ | assumption | refine ba ?_ _ | refine bd ?_ | refine bdN ?_ _ | refine bs ?_ (by first | exact Nat.le_refl _ | (dsimp only; omega) | (simp; done)) _ | refine bt ?_ (by assumption)))))
    refine take_at (i := 0) (v := ?_) (some 22) rfl rfl (by kernel_rfl) (by kernel_rfl) (by kernel_rfl) (fun _ _ _ h => h) (Or.inl ⟨by rfl, ?_⟩) (by assumption) ?_
    rotate_left
    · (intro w hSw; (try dsimp only at hSw); go_simp; try with_reducible rfl)
    try simp only [Act.put, List.setIfInBounds_toArray, List.set_cons_zero, List.set_cons_succ]
    refine take_at (i := 1) (v := ?_) (some 23) rfl rfl (by kernel_rfl) (by kernel_rfl) (by kernel_rfl) (fun _ _ _ h => h) (Or.inl ⟨by rfl, ?_⟩) (by assumption) ?_
    rotate_left
    · (intro w hSw; (try dsimp only at hSw); go_simp; try with_reducible rfl)
    try simp only [Act.put, List.setIfInBounds_toArray, List.set_cons_zero, List.set_cons_succ]
    refine take_at (i := 2) (v := ?_) (some 24) rfl rfl (by kernel_rfl) (by kernel_rfl) (by kernel_rfl) (fun _ _ _ h => h) (Or.inl ⟨by rfl, ?_⟩) (by assumption) ?_
    rotate_left
    · (intro w hSw; (try dsimp only at hSw); go_simp; try with_reducible rfl)
    try simp only [Act.put, List.setIfInBounds_toArray, List.set_cons_zero, List.set_cons_succ]
    refine take_at (i := 3) (v := ?_) (some 25) rfl rfl (by kernel_rfl) (by kernel_rfl) (by kernel_rfl) (fun _ _ _ h => h) (Or.inl ⟨by rfl, ?_⟩) (by assumption) ?_
    rotate_left
    · (intro w hSw; (try dsimp only at hSw); go_simp; try with_reducible rfl)
    try simp only [Act.put, List.setIfInBounds_toArray, List.set_cons_zero, List.set_cons_succ]
    refine wpAnyH_ready (rs := [4]) (by kernel_rfl) (by simp) ?_
    refine AllReadyH.cons rfl (fun K hK => ?_) AllReadyH.nil
    go_simp
    refine (spec_FindSpec _ fs (fun _ => True) _ xs s _ (HF.out.below (bt H13.out (by (repeat (with_reducible first | exact Below.refl _ _ | assumption | refine ba ?_ _ | refine bd ?_ | refine bdN ?_ _ | refine bs ?_ (by first | exact Nat.le_refl _ | (dsimp only; omega) | (simp; done)) _ | refine bt ?_ (by assumption)))))) Hz2.out (HP.out.below (bt H13.out (by (repeat (with_reducible first | exact Below.refl _ _ | assumption | refine ba ?_ _ | refine bd ?_ | refine bdN ?_ _ | refine bs ?_ (by first | exact Nat.le_refl _ | (dsimp only; omega) | (simp; done)) _ | refine bt ?_ (by assumption)))))) (by omega)).mono ?_
    rintro _ w5 ⟨v5, rfl, hown5, hb5⟩
    rw [← Hsp.out] at hown5 ⊢
    have S5 := Lib.hid (IntsIn.of_owns hown5)
    obtain ⟨a5, c5, rfl⟩ := owns_shape hown5
    clear hown5
    go_wp2_with fail
    clear hHeld
    refine hK.out _ _ ?_ (fun hHeld => ?_)
    · (exact Hk.out _ (by (repeat (with_reducible first | exact Below.refl _ _ | assumption | refine ba ?_ _ | refine bd ?_ | refine bdN ?_ _ | refine bs ?_ (by first | exact Nat.le_refl _ | (dsimp only; omega) | (simp; done)) _ | refine bt ?_ (by assumption)))))
    clear hK K
    try simp only [Act.put, List.setIfInBounds_toArray, List.set_cons_zero, List.set_cons_succ]
    refine wpAnyH_ready (rs := [5]) (by kernel_rfl) (by simp) ?_
    refine AllReadyH.cons rfl (fun K hK => ?_) AllReadyH.nil
    go_simp
    refine (laws_equalSpec sp sp _ _ _ (S2.out.below (bt H23.out (by (repeat (with_reducible first | exact Below.refl _ _ | assumption | refine ba ?_ _ | refine bd ?_ | refine bdN ?_ _ | refine bs ?_ (by first | exact Nat.le_refl _ | (dsimp only; omega) | (simp; done)) _ | refine bt ?_ (by assumption)))))) (S5.out.below (by (repeat (with_reducible first | exact Below.refl _ _ | assumption | refine ba ?_ _ | refine bd ?_ | refine bdN ?_ _ | refine bs ?_ (by first | exact Nat.le_refl _ | (dsimp only; omega) | (simp; done)) _ | refine bt ?_ (by assumption)))))).mono ?_
    rintro _ w6 ⟨rfl, hb6⟩
    rw [decide_eq_true rfl]
    go_wp2_with fail
    clear hHeld
    refine hK.out _ _ ?_ (fun hHeld => ?_)
    · (exact Hk.out _ (by (repeat (with_reducible first | exact Below.refl _ _ | assumption | refine ba ?_ _ | refine bd ?_ | refine bdN ?_ _ | refine bs ?_ (by first | exact Nat.le_refl _ | (dsimp only; omega) | (simp; done)) _ | refine bt ?_ (by assumption)))))
    clear hK K
    try simp only [Act.put, List.setIfInBounds_toArray, List.set_cons_zero, List.set_cons_succ]
    refine take_at (i := 6) (v := ?_) (some 28) rfl rfl (by kernel_rfl) (by kernel_rfl) (by kernel_rfl) (fun _ _ _ h => h) (Or.inl ⟨by rfl, ?_⟩) (by assumption) ?_
    rotate_left
    · (intro w hSw; (try dsimp only at hSw); go_simp; try with_reducible rfl)
    try simp only [Act.put, List.setIfInBounds_toArray, List.set_cons_zero, List.set_cons_succ]
    refine take_at (i := 7) (v := ?_) (some 29) rfl rfl (by kernel_rfl) (by kernel_rfl) (by kernel_rfl) (fun _ _ _ h => h) (Or.inl ⟨by rfl, ?_⟩) (by assumption) ?_
    rotate_left
    · (intro w hSw; (try dsimp only at hSw); go_simp; try with_reducible rfl)
    try simp only [Act.put, List.setIfInBounds_toArray, List.set_cons_zero, List.set_cons_succ]
    refine take_at (i := 8) (v := ?_) (some 30) rfl rfl (by kernel_rfl) (by kernel_rfl) (by kernel_rfl) (fun _ _ _ h => h) (Or.inl ⟨by rfl, ?_⟩) (by assumption) ?_
    rotate_left
    · (intro w hSw; (try dsimp only at hSw); go_simp; try with_reducible rfl)
    try simp only [Act.put, List.setIfInBounds_toArray, List.set_cons_zero, List.set_cons_succ]
    refine wpAnyH_ready (rs := [9]) (by kernel_rfl) (by simp) ?_
    refine AllReadyH.cons rfl (fun K hK => ?_) AllReadyH.nil
    go_simp
    refine (impl_ValidTree _ fs (fun _ => True) _ (HF.out.below (bt H13.out (by (repeat (with_reducible first | exact Below.refl _ _ | assumption | refine ba ?_ _ | refine bd ?_ | refine bdN ?_ _ | refine bs ?_ (by first | exact Nat.le_refl _ | (dsimp only; omega) | (simp; done)) _ | refine bt ?_ (by assumption)))))) Hz8.out).mono ?_
    rintro _ w7 ⟨rfl, hb7⟩
    rw [Hok.out]
    go_wp2_with fail
    clear hHeld
    refine hK.out _ _ ?_ (fun hHeld => ?_)
    · (exact Hk.out _ (by (repeat (with_reducible first | exact Below.refl _ _ | assumption | refine ba ?_ _ | refine bd ?_ | refine bdN ?_ _ | refine bs ?_ (by first | exact Nat.le_refl _ | (dsimp only; omega) | (simp; done)) _ | refine bt ?_ (by assumption)))))
    clear hK K
    try simp only [Act.put, List.setIfInBounds_toArray, List.set_cons_zero, List.set_cons_succ]
    refine take_at (i := 10) (v := ?_) (some 32) rfl rfl (by kernel_rfl) (by kernel_rfl) (by kernel_rfl) (fun _ _ _ h => h) (Or.inl ⟨by rfl, ?_⟩) (by assumption) ?_
    rotate_left
    · (intro w hSw; (try dsimp only at hSw); go_simp; try with_reducible rfl)
    try simp only [Act.put, List.setIfInBounds_toArray, List.set_cons_zero, List.set_cons_succ]
    refine take_at (i := 11) (v := ?_) (some 33) rfl rfl (by kernel_rfl) (by kernel_rfl) (by kernel_rfl) (fun _ _ _ h => h) (Or.inl ⟨by rfl, ?_⟩) (by assumption) ?_
    rotate_left
    · (intro w hSw; (try dsimp only at hSw); go_simp; try with_reducible rfl)
    try simp only [Act.put, List.setIfInBounds_toArray, List.set_cons_zero, List.set_cons_succ]
    refine take_at (i := 12) (v := ?_) (some 34) rfl rfl (by kernel_rfl) (by kernel_rfl) (by kernel_rfl) (fun _ _ _ h => h) (Or.inl ⟨by rfl, ?_⟩) (by assumption) ?_
    rotate_left
    · (intro w hSw; (try dsimp only at hSw); go_simp; try with_reducible rfl)
    try simp only [Act.put, List.setIfInBounds_toArray, List.set_cons_zero, List.set_cons_succ]
    refine take_at (i := 13) (v := undef) (some 35) rfl rfl (by kernel_rfl) (by kernel_rfl) (by kernel_rfl) (fun _ _ _ h => h) (Or.inr ⟨by rfl, rfl⟩) (by assumption) ?_
    try simp only [Act.put, List.setIfInBounds_toArray, List.set_cons_zero, List.set_cons_succ]
    refine take_at (i := 14) (v := undef) (some 36) rfl rfl (by kernel_rfl) (by kernel_rfl) (by kernel_rfl) (fun _ _ _ h => h) (Or.inr ⟨by rfl, rfl⟩) (by assumption) ?_
    try simp only [Act.put, List.setIfInBounds_toArray, List.set_cons_zero, List.set_cons_succ]
    refine take_at (i := 15) (v := undef) (some 37) rfl rfl (by kernel_rfl) (by kernel_rfl) (by kernel_rfl) (fun _ _ _ h => h) (Or.inr ⟨by rfl, rfl⟩) (by assumption) ?_
    try simp only [Act.put, List.setIfInBounds_toArray, List.set_cons_zero, List.set_cons_succ]
    refine take_at (i := 16) (v := ?_) (some 38) rfl rfl (by kernel_rfl) (by kernel_rfl) (by kernel_rfl) (fun _ _ _ h => h) (Or.inl ⟨by rfl, ?_⟩) (by assumption) ?_
    rotate_left
    · (intro w hSw; (try dsimp only at hSw); go_simp; try with_reducible rfl)
    try simp only [Act.put, List.setIfInBounds_toArray, List.set_cons_zero, List.set_cons_succ]
    refine take_at (i := 17) (v := ?_) (some 39) rfl rfl (by kernel_rfl) (by kernel_rfl) (by kernel_rfl) (fun _ _ _ h => h) (Or.inl ⟨by rfl, ?_⟩) (by assumption) ?_
    rotate_left
    · (intro w hSw; (try dsimp only at hSw); go_simp; try with_reducible rfl)
    try simp only [Act.put, List.setIfInBounds_toArray, List.set_cons_zero, List.set_cons_succ]
    refine take_at (i := 18) (v := undef) (some 40) rfl rfl (by kernel_rfl) (by kernel_rfl) (by kernel_rfl) (fun _ _ _ h => h) (Or.inr ⟨by rfl, rfl⟩) (by assumption) ?_
    try simp only [Act.put, List.setIfInBounds_toArray, List.set_cons_zero, List.set_cons_succ]
    refine take_at (i := 19) (v := undef) (some 41) rfl rfl (by kernel_rfl) (by kernel_rfl) (by kernel_rfl) (fun _ _ _ h => h) (Or.inr ⟨by rfl, rfl⟩) (by assumption) ?_
    try simp only [Act.put, List.setIfInBounds_toArray, List.set_cons_zero, List.set_cons_succ]
    refine take_at (i := 20) (v := undef) (some 42) rfl rfl (by kernel_rfl) (by kernel_rfl) (by kernel_rfl) (fun _ _ _ h => h) (Or.inr ⟨by rfl, rfl⟩) (by assumption) ?_
    try simp only [Act.put, List.setIfInBounds_toArray, List.set_cons_zero, List.set_cons_succ]
    refine take_at (i := 21) (v := ?_) (some 43) rfl rfl (by kernel_rfl) (by kernel_rfl) (by kernel_rfl) (fun _ _ _ h => h) (Or.inl ⟨by rfl, ?_⟩) (by assumption) ?_
    rotate_left
    · (intro w hSw; (try dsimp only at hSw); go_simp; try with_reducible rfl)
    try simp only [Act.put, List.setIfInBounds_toArray, List.set_cons_zero, List.set_cons_succ]
    refine wpAnyH_done (by kernel_rfl) ?_ _
    all_goals
      have hE7 : Below (w2.alloc (.cells #[.int .i64 sp.kind, .int .i64 sp.file, .slice a2 sp.roots.length c2] 30)).heap.size (w2.alloc (.cells #[.int .i64 sp.kind, .int .i64 sp.file, .slice a2 sp.roots.length c2] 30)) w7 := by (repeat (with_reducible first | exact Below.refl _ _ | assumption | refine ba ?_ _ | refine bd ?_ | refine bdN ?_ _ | refine bs ?_ (by first | exact Nat.le_refl _ | (dsimp only; omega) | (simp; done)) _ | refine bt ?_ (by assumption)))
      clear x3 y0 y1 y2 hb5 hb6 hb7 S5
      obtain ⟨x3, y0, y1, y2, _⟩ := Hk.out _ hE7
      go_wp2_with fail
      go_region_held3 (fun w' => w'.cell? ⟨w1.heap.size, 0, none⟩ = some (.slice va fs.length vc) ∧ w'.cell? ⟨w2.heap.size, 0, none⟩ = some (.int .i64 sp.kind) ∧ w'.cell? ⟨w2.heap.size, 1, none⟩ = some (.int .i64 sp.file) ∧ w'.cell? ⟨w2.heap.size, 2, none⟩ = some (.slice a2 sp.roots.length c2) ∧ Below (w2.alloc (.cells #[.int .i64 sp.kind, .int .i64 sp.file, .slice a2 sp.roots.length c2] 30)).heap.size (w2.alloc (.cells #[.int .i64 sp.kind, .int .i64 sp.file, .slice a2 sp.roots.length c2] 30)) w')
        (exact Hk.out _ (by (repeat (with_reducible first | exact Below.refl _ _ | assumption | refine ba ?_ _ | refine bd ?_ | refine bdN ?_ _ | refine bs ?_ (by first | exact Nat.le_refl _ | (dsimp only; omega) | (simp; done)) _ | refine bt ?_ (by assumption)))))
        (first
          | (go_at_call 7; refine (spec_FindSpec _ fs (fun _ => True) _ xs s _ (HF.out.below (bt H13.out (by (repeat (with_reducible first | exact Below.refl _ _ | assumption | refine ba ?_ _ | refine bd ?_ | refine bdN ?_ _ | refine bs ?_ (by first | exact Nat.le_refl _ | (dsimp only; omega) | (simp; done)) _ | refine bt ?_ (by assumption)))))) Hz2.out (HP.out.below (bt H13.out (by (repeat (with_reducible first | exact Below.refl _ _ | assumption | refine ba ?_ _ | refine bd ?_ | refine bdN ?_ _ | refine bs ?_ (by first | exact Nat.le_refl _ | (dsimp only; omega) | (simp; done)) _ | refine bt ?_ (by assumption)))))) (by omega)).mono ?_; rintro _ w10 ⟨v10, rfl, hown10, hb10⟩; rw [← Hsp.out] at hown10 ⊢; have S10 := Lib.hid (IntsIn.of_owns hown10); obtain ⟨a10, c10, rfl⟩ := owns_shape hown10; clear hown10)
          | (go_at_call 6; refine (laws_equalSpec sp sp _ _ _ (S2.out.below (bt H23.out (by (repeat (with_reducible first | exact Below.refl _ _ | assumption | refine ba ?_ _ | refine bd ?_ | refine bdN ?_ _ | refine bs ?_ (by first | exact Nat.le_refl _ | (dsimp only; omega) | (simp; done)) _ | refine bt ?_ (by assumption)))))) (S10.out.below (by (repeat (with_reducible first | exact Below.refl _ _ | assumption | refine ba ?_ _ | refine bd ?_ | refine bdN ?_ _ | refine bs ?_ (by first | exact Nat.le_refl _ | (dsimp only; omega) | (simp; done)) _ | refine bt ?_ (by assumption)))))).mono ?_; rintro _ w11 ⟨rfl, hb11⟩; rw [decide_eq_true rfl]))
      go_wp2_with fail
      go_ret
      exact ⟨rfl, bt Hb1.out (bt H13.out (by (repeat (with_reducible first | exact Below.refl _ _ | assumption | refine ba ?_ _ | refine bd ?_ | refine bdN ?_ _ | refine bs ?_ (by first | exact Nat.le_refl _ | (dsimp only; omega) | (simp; done)) _ | refine bt ?_ (by assumption)))))⟩

/-! ### THE STEP TO THE ROW -/
set_option maxRecDepth 100000 in
theorem lifted (os : Os) (started : os.Started) (H : Type) (enc : TypeId × Value → H) :
    ReturnsInHanded {} Try.checked os 3 .any (Rows.fnFindSpecSpec.pre6 enc Try.prog Try.f3 Rows.fnFindSpecRow.domain false) (Rows.fnFindSpecSpec.post enc Try.prog Try.f3 false true false false) := by
  refine returnsInHanded_of_change (C := Try.checked) own started (by kernel_rfl) Try.func3
    (ChangeSpec.witness6 (enc := enc) (C := Try.checked) false ⟨#[], #[.slice none 0 0], []⟩ 8 (by kernel_rfl) (by kernel_rfl) (by kernel_rfl) (by kernel_rfl)) ?_
  intro W base args ds gs before hval0 hW hcnd _
  have hval : ∀ (j : Nat) t v, Try.f3.params[j]? = some t → args[j]? = some v → Value.okWide Try.prog W .any base t v := hval0
  have hW' := hW
  obtain ⟨p, q, hA0, hV, rfl, hfz, hnd⟩ := hW
  have hA : DataW.TrodAll enc Try.prog W 0 (fun _ => true) true Try.f3.params.toList args.toList ds p := hA0
  rw [Try.params3] at hA hval
  obtain ⟨v0, vs0, d0, ds0, p0, q0, hargs, rfl, rfl, h0, r0⟩ := trodAll_cons hA
  obtain ⟨rfl, rfl, rfl⟩ := trodAll_nil r0
  obtain rfl : args = #[v0] := by cases args; simp_all
  obtain ⟨rfl, rfl⟩ := trodVars_none hV
  obtain ⟨a0, len0, cap0, rfl⟩ := okWide_slice Try.underlying22 (hval 0 22 v0 rfl rfl)
  have k0 := h0
  have lt0 : ∀ x ∈ p0, x.block < W.heap.size := by obtain ⟨m, hm⟩ := k0; exact DataW.trod_lt m _ _ _ hm
  have w0 : Code W W.heap.size a0 len0 cap0 := by
    obtain ⟨fuel, hf⟩ := h0
    rcases open_ints Try.underlying22 Try.underlying5 (by kernel_rfl) hf with ⟨hcs, _⟩ | ⟨x, l, c, zs, hcs, _, hl, hm, hz, _, hcell, hwz⟩
    · simp [Value.cells] at hcs
      obtain ⟨rfl, rfl, rfl⟩ := hcs
      exact .inl ⟨rfl, by unfold maxLen; omega⟩
    · simp [Value.cells] at hcs
      obtain ⟨rfl, rfl, rfl⟩ := hcs
      exact code_row W _ _ _ zs hl hm (by simpa using hz) hcell hwz
  clear hA0 hval0
  refine (walk a0 len0 cap0 W w0).mono fun e W' ⟨he, bel⟩ => ?_
  subst he
  exact ⟨_, rfl, _, _, _, [], _, [], hW', trodAll_mk1 (shut_bool Try.underlying4 _), (trodAll_cons_mk (Below.trod laidOut (by kernel_rfl) (of_decide_eq_true (by kernel_rfl)) k0 bel lt0) trodAll_mk0), rfl, bel.frame _, fun h => by cases h⟩

theorem over : Rows.fnFindSpecRow.holds Try.pinned (OpenSpec.ofChange Rows.fnFindSpecSpec) :=
  OpenClaim.holds_of_wide 3 Try.f3 rfl rfl rfl rfl rfl rfl rfl ⟨rfl, rfl, rfl, rfl, rfl⟩ rfl rfl rfl rfl rfl (by kernel_rfl) Try.func3 (by kernel_rfl)
    (of_decide_eq_true (by kernel_rfl)) (by unfold Func.isWrapper; first | (rw [if_pos (by decide +kernel)]; kernel_rfl) | (rw [if_neg (by decide +kernel)]; exact ⟨rfl, rfl⟩))
    (fun os started H enc _ => lifted os started H enc)

/-- THE STATEMENT -/
theorem proved : Rows.FnFindSpecSaid := over
end Go.Proofs.Yteifoepfobojbaa.FnFindSpec
