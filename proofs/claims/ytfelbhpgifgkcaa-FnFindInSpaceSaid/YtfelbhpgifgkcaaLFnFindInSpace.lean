/- FnFindInSpace returns true for every code. Written by mklaws.py. -/
import Derived.Test.YtfelbhpgifgkcaaDrawO
import Derived.Test.YtfelbhpgifgkcaaTrees
import Derived.Test.YtfelbhpgifgkcaaLooks
import Derived.Test.YtfelbhpgifgkcaaSLooks
import Derived.Test.YtfelbhpgifgkcaaKin
import Derived.Test.YtfelbhpgifgkcaaEqFind
import Derived.Test.YtfelbhpgifgkcaaPlainG
import Derived.Test.YtfelbhpgifgkcaaFrame
import Derived.Deep.RegionHeld3
import Derived.Test.YtfelbhpgifgkcaaEqFind
import Derived.Test.YtfelbhpgifgkcaaBoxS
import Derived.Test.YtfelbhpgifgkcaaDirs2
import Derived.Lib.QuietBelow
import Derived.BigQuiet
import Derived.RegionCalls
import Derived.Deep.CutRange
set_option linter.unusedVariables false
set_option linter.unusedSimpArgs false
namespace Go.Proofs.Ytfelbhpgifgkcaa.FnFindInSpace
open Go.Sort Go.ChangeShapes Go.WideShapes Go.ChangeAt Go.RowKit Go.Proofs.Ytfelbhpgifgkcaa.Nm

theorem childOf_len {p s : Bs} (hp : p.length ≤ 7) (hs : s.length ≤ 4) : (childOf p s).length ≤ 1000 := by
  rcases childOf_cases p s with ⟨_, _, _, hv, e⟩ | ⟨e, _⟩
  · rw [e]; exact Nat.le_trans (vn_len hv) (by omega)
  · rw [e]; simp
theorem filter_int (q : Int → Bool) (L : List Int) (k : Nat) (h : k < L.length) : (L.take (k + 1)).filter q = (L.take k).filter q ++ (if q L[k] = true then [L[k]] else []) := by
  rw [List.take_succ_eq_append_getElem h, List.filter_append]
  cases hp : q L[k] <;> simp [hp]
theorem _root_.Go.Proofs.Ytfelbhpgifgkcaa.IntsIn.sub {w : World} {b : Nat} {o : Nat} {n cap : Nat} {xs : List Int} (h : IntsIn w (.slice (some ⟨b, o, none⟩) n cap) xs) {k : Nat} (hk : k < xs.length) : IntsIn w (.slice (some ⟨b, o + k, none⟩) 1 (cap - k)) [xs[k]] := by
  obtain ⟨a', cap', h1, h2, h3, h4⟩ := h
  simp only [Value.slice.injEq] at h1
  obtain ⟨rfl, rfl, rfl⟩ := h1
  obtain ⟨b', off, e1, e2, e3⟩ := h4 (by omega)
  simp only [Option.some.injEq, Addr.mk.injEq] at e1
  obtain ⟨rfl, rfl, _⟩ := e1
  refine ⟨_, _, rfl, by simp; omega, by omega, fun _ => ⟨_, _, rfl, e2, fun j hj => ?_⟩⟩
  have : j = 0 := by simpa using hj
  subst this
  simpa using e3 k hk
set_option maxRecDepth 100000 in
set_option maxHeartbeats 4000000 in
theorem walk (a : Option Addr) (n cap : Nat) (w : World) (hc : Code w w.heap.size a n cap) :
    Calls Try.prog 6 #[.slice a n cap] w fun e w' => e = .returned (.bool true) ∧ Below w.heap.size w w' := by
  by_cases hn : (1048576 : Int) < (n : Int)
  · go_enter Try.func6, Try.ntmps6
    go_wp2_with fail
    go_ret
    exact ⟨rfl, Below.refl _ _⟩
  have Hc := Lib.hid hc
  clear hc
  go_enter Try.func6, Try.ntmps6
  go_wp2_with fail
  refine (spec_DrawFindIn a n cap w Hc.out).mono ?_
  rintro e w1 ⟨v, ps, pv, xs, p, s, rfl, ⟨hrows, hsh, hl, hb5, hb1⟩, hp, hx3, hp7, hs4'⟩
  obtain ⟨va, vc, rfl⟩ := hrows.len
  have HR := Lib.hid hrows
  obtain ⟨fs, hfs⟩ : ∃ fs, fs = ps.map (·.1) := ⟨_, rfl⟩
  have Hfs := Lib.hid hfs
  have hfl : fs.length = ps.length := by rw [hfs, List.length_map]
  have HF := Lib.hid (show FilsIn w1 (fun _ => True) (.slice va ps.length vc) fs by rw [hfs]; exact hrows.fils)
  have Hz8 := Lib.hid (show ShortT 8000000 fs by rw [hfs]; exact shortT_mono (by omega) hsh)
  have Hz3 := Lib.hid (show ShortT 3000000 fs by rw [hfs]; exact shortT_mono (by omega) hsh)
  have Hz2 := Lib.hid (show ShortT 2000000 fs by rw [hfs]; exact shortT_mono (by omega) hsh)
  have Hs8 := Lib.hid (show ShortT 8 fs by rw [hfs]; exact hsh)
  have Hb5 := Lib.hid (show ∀ f ∈ fs, f.body.length ≤ 5 by rw [hfs]; intro f hf; obtain ⟨p, hp, rfl⟩ := List.mem_map.1 hf; exact hb5 p hp)
  have Hb1 := Lib.hid hb1
  have B0 := Boxed.start w1 #[.slice va ps.length vc] 25
  have hl11 : fs.length ≤ 11 := by omega
  clear hrows hsh hb5 hb1 hfs
  generalize ps.length = pn at *
  subst hfl
  obtain ⟨i0, hi, hzz0, hzz1, hzz2⟩ := info_parts infoI
  have Hi := Lib.hid hi
  have Hz0 := Lib.hid hzz0
  have HzA := Lib.hid hzz1
  have HzB := Lib.hid hzz2
  clear hi hzz0 hzz1 hzz2
  have X1 := Lib.hid B0
  clear B0
  obtain ⟨pa, pc, rfl⟩ := hp.len
  have HP := Lib.hid hp.ints
  clear hp
  obtain ⟨sp, hsp⟩ : ∃ sp, sp = findIn fs xs p s := ⟨_, rfl⟩
  have Hsp := Lib.hid hsp
  clear hsp
  go_wp2_with fail
  refine (impl_FindIn _ fs (fun _ => True) _ xs p s _ (HF.out.below X1.out.below) Hz2.out (HP.out.below X1.out.below) (by omega) (by omega)).mono ?_
  rintro _ w2 ⟨v2, rfl, hown2, hb2⟩
  rw [← Hsp.out] at hown2 ⊢
  have S2 := Lib.hid (IntsIn.of_owns hown2)
  obtain ⟨a2, c2, rfl⟩ := owns_shape hown2
  have X2 := Lib.hid (X1.out.step hb2)
  have O2 := Lib.hid (Boxed.start w2 #[.int .i64 sp.kind, .int .i64 sp.file, .slice a2 sp.roots.length c2] 51)
  have H13 := Lib.hid (show Below w1.heap.size w1 (w2.alloc (.cells #[.int .i64 sp.kind, .int .i64 sp.file, .slice a2 sp.roots.length c2] 51)) from bt X2.out.below (by (repeat (with_reducible first | exact Below.refl _ _ | assumption | refine ba ?_ _ | refine bd ?_ | refine bdN ?_ _ | refine bs ?_ (by first | exact Nat.le_refl _ | (dsimp only; omega) | (simp; done)) _ | refine bt ?_ (by assumption)))))
  have H23 := Lib.hid (show Below w2.heap.size w2 (w2.alloc (.cells #[.int .i64 sp.kind, .int .i64 sp.file, .slice a2 sp.roots.length c2] 51)) by (repeat (with_reducible first | exact Below.refl _ _ | assumption | refine ba ?_ _ | refine bd ?_ | refine bdN ?_ _ | refine bs ?_ (by first | exact Nat.le_refl _ | (dsimp only; omega) | (simp; done)) _ | refine bt ?_ (by assumption))))
  have X3 := Lib.hid (show Boxed w1 #[.slice va fs.length vc] 25 (w2.alloc (.cells #[.int .i64 sp.kind, .int .i64 sp.file, .slice a2 sp.roots.length c2] 51)) from X2.out.step (by (repeat (with_reducible first | exact Below.refl _ _ | assumption | refine ba ?_ _ | refine bd ?_ | refine bdN ?_ _ | refine bs ?_ (by first | exact Nat.le_refl _ | (dsimp only; omega) | (simp; done)) _ | refine bt ?_ (by assumption)))))
  have Hk := Lib.hid (fun (w' : World) (hB : Below (w2.alloc (.cells #[.int .i64 sp.kind, .int .i64 sp.file, .slice a2 sp.roots.length c2] 51)).heap.size (w2.alloc (.cells #[.int .i64 sp.kind, .int .i64 sp.file, .slice a2 sp.roots.length c2] 51)) w') => (⟨(X3.out.step hB).cell 0, (O2.out.step hB).cell 0, (O2.out.step hB).cell 1, (O2.out.step hB).cell 2, hB⟩ : (fun w' => w'.cell? ⟨w1.heap.size, 0, none⟩ = some (.slice va fs.length vc) ∧ w'.cell? ⟨w2.heap.size, 0, none⟩ = some (.int .i64 sp.kind) ∧ w'.cell? ⟨w2.heap.size, 1, none⟩ = some (.int .i64 sp.file) ∧ w'.cell? ⟨w2.heap.size, 2, none⟩ = some (.slice a2 sp.roots.length c2) ∧ Below (w2.alloc (.cells #[.int .i64 sp.kind, .int .i64 sp.file, .slice a2 sp.roots.length c2] 51)).heap.size (w2.alloc (.cells #[.int .i64 sp.kind, .int .i64 sp.file, .slice a2 sp.roots.length c2] 51)) w') w'))
  obtain ⟨x3, y0, y1, y2, hB3⟩ := Hk.out _ (Below.refl _ _)
  have hlX := X2.out.lt
  have hz3 : w2.heap.size < (w2.alloc (.cells #[.int .i64 sp.kind, .int .i64 sp.file, .slice a2 sp.roots.length c2] 51)).heap.size := O2.out.lt
  clear hown2 hb2
  by_cases hk3 : sp.kind = 3
  · have Hff := Lib.hid (findIn_space (t := fs) (path := xs) (p := p) (s := s) (by rw [← Hsp.out]; exact hk3))
    have hkb : (sp.kind == 3) = true := by rw [hk3]; rfl
    have hkn : (sp.kind != 3) = false := by rw [bne, hkb]; rfl
    clear hk3
    go_wp2_with fail
    go_region_held3 (fun w' => w'.cell? ⟨w1.heap.size, 0, none⟩ = some (.slice va fs.length vc) ∧ w'.cell? ⟨w2.heap.size, 0, none⟩ = some (.int .i64 sp.kind) ∧ w'.cell? ⟨w2.heap.size, 1, none⟩ = some (.int .i64 sp.file) ∧ w'.cell? ⟨w2.heap.size, 2, none⟩ = some (.slice a2 sp.roots.length c2) ∧ Below (w2.alloc (.cells #[.int .i64 sp.kind, .int .i64 sp.file, .slice a2 sp.roots.length c2] 51)).heap.size (w2.alloc (.cells #[.int .i64 sp.kind, .int .i64 sp.file, .slice a2 sp.roots.length c2] 51)) w')
      (exact Hk.out _ (by (repeat (with_reducible first | exact Below.refl _ _ | assumption | refine ba ?_ _ | refine bd ?_ | refine bdN ?_ _ | refine bs ?_ (by first | exact Nat.le_refl _ | (dsimp only; omega) | (simp; done)) _ | refine bt ?_ (by assumption)))))
      (first
        | (go_at_call 27; refine (spec_FindIn _ fs (fun _ => True) _ xs p s _ (HF.out.below (bt H13.out (by (repeat (with_reducible first | exact Below.refl _ _ | assumption | refine ba ?_ _ | refine bd ?_ | refine bdN ?_ _ | refine bs ?_ (by first | exact Nat.le_refl _ | (dsimp only; omega) | (simp; done)) _ | refine bt ?_ (by assumption)))))) Hz2.out (HP.out.below (bt H13.out (by (repeat (with_reducible first | exact Below.refl _ _ | assumption | refine ba ?_ _ | refine bd ?_ | refine bdN ?_ _ | refine bs ?_ (by first | exact Nat.le_refl _ | (dsimp only; omega) | (simp; done)) _ | refine bt ?_ (by assumption)))))) (by omega) (by omega)).mono ?_; rintro _ w5 ⟨v5, rfl, hown5, hb5⟩; rw [← Hsp.out] at hown5 ⊢; have S5 := Lib.hid (IntsIn.of_owns hown5); obtain ⟨a5, c5, rfl⟩ := owns_shape hown5; clear hown5)
        | (go_at_call 26; refine (laws_equalSpec sp sp _ _ _ (S2.out.below (bt H23.out (by (repeat (with_reducible first | exact Below.refl _ _ | assumption | refine ba ?_ _ | refine bd ?_ | refine bdN ?_ _ | refine bs ?_ (by first | exact Nat.le_refl _ | (dsimp only; omega) | (simp; done)) _ | refine bt ?_ (by assumption)))))) (S5.out.below (by (repeat (with_reducible first | exact Below.refl _ _ | assumption | refine ba ?_ _ | refine bd ?_ | refine bdN ?_ _ | refine bs ?_ (by first | exact Nat.le_refl _ | (dsimp only; omega) | (simp; done)) _ | refine bt ?_ (by assumption)))))).mono ?_; rintro _ w6 ⟨rfl, hb6⟩; rw [decide_eq_true rfl]))
    have hE6 : Below (w2.alloc (.cells #[.int .i64 sp.kind, .int .i64 sp.file, .slice a2 sp.roots.length c2] 51)).heap.size (w2.alloc (.cells #[.int .i64 sp.kind, .int .i64 sp.file, .slice a2 sp.roots.length c2] 51)) w6 := by (repeat (with_reducible first | exact Below.refl _ _ | assumption | refine ba ?_ _ | refine bd ?_ | refine bdN ?_ _ | refine bs ?_ (by first | exact Nat.le_refl _ | (dsimp only; omega) | (simp; done)) _ | refine bt ?_ (by assumption)))
    clear x3 y0 y1 y2 hb5 hb6 S5
    obtain ⟨x3, y0, y1, y2, _⟩ := Hk.out _ hE6
    have HE6 := Lib.hid (show Below (w2.alloc (.cells #[.int .i64 sp.kind, .int .i64 sp.file, .slice a2 sp.roots.length c2] 51)).heap.size (w2.alloc (.cells #[.int .i64 sp.kind, .int .i64 sp.file, .slice a2 sp.roots.length c2] 51)) w6 by assumption)
    obtain ⟨g1, g2, g3⟩ := Hff.out
    rw [← Hsp.out] at g1 g2
    have G1 := Lib.hid g1
    have G2 := Lib.hid g2
    have G3 := Lib.hid g3
    have hcl := childOf_len hp7 hs4'
    obtain ⟨nm, hnm⟩ : ∃ nm, nm = childOf p s := ⟨_, rfl⟩
    rw [← hnm] at G2 hcl
    have Hnm := Lib.hid hnm
    obtain ⟨q, hq⟩ : ∃ q : Int → Bool, q = fun r => hasDir fs r nm := ⟨_, rfl⟩
    have Hq := Lib.hid (fun r => (congrFun hq r : q r = hasDir fs r nm))
    rw [← hq] at G2
    clear hq hnm g1 g2 g3 Hff
    go_wp2_with fail
    go_loopw [8, 9] (fun dv jv wr => ∃ k : Nat, k ≤ xs.length ∧ jv = .int .i64 k ∧ wr.ownsRow w6.heap.size 3 1 dv ((xs.take k).filter q).length (((xs.take k).filter q).map iv) ∧ Below w6.heap.size w6 wr) (fun _ jv _ => xs.length - (intOf jv).toNat)
    case atStart => exact ⟨0, by omega, rfl, by simpa using (lit_own (W := w6) (g := w6.heap.size) (base := w6.heap.size) (e := 3) #[] 0 rfl (Nat.le_refl _) (by unfold maxLen; omega) rfl), by (repeat (with_reducible first | exact Below.refl _ _ | assumption | refine ba ?_ _ | refine bd ?_ | refine bdN ?_ _ | refine bs ?_ (by first | exact Nat.le_refl _ | (dsimp only; omega) | (simp; done)) _ | refine bt ?_ (by assumption)))⟩
    case round =>
      obtain ⟨k, hk, rfl, hown, hbr⟩ := hrel
      have HEr := Lib.hid (bt HE6.out hbr)
      have Hbr := Lib.hid hbr
      have Hown := Lib.hid hown
      obtain ⟨da, dc, rfl⟩ := owns_shape hown
      have hsr := hbr.size
      clear x3 y0 y1 y2 hbr hown
      obtain ⟨x3, y0, y1, y2, _⟩ := Hk.out _ HEr.out
      have hll : ((xs.take k).filter q).length ≤ 3 := Nat.le_trans (List.length_filter_le _ _) (by rw [List.length_take]; omega)
      by_cases hlt : k < xs.length
      · obtain ⟨pb, po, pc', pe, hpb, hpc⟩ := (HP.out.below (bt H13.out HEr.out)).at_ hlt
        simp only [Value.slice.injEq] at pe
        obtain ⟨rfl, _, rfl⟩ := pe
        have Hone := Lib.hid (G3.out _ (List.getElem_mem hlt))
        have Hqv := Lib.hid (Hq.out xs[k])
        have Hsn := Lib.hid (filter_int q xs k hlt)
        have Hsub := Lib.hid (fun W' (hW : Below w1.heap.size w1 W') => (HP.out.below hW).sub hlt)
        have hi1 : (k : Int) < (xs.length : Int) := by omega
        have hi0 : (0 : Int) ≤ (k : Int) := by omega
        have hi2 : IntKind.i64.wrap ((k : Int) + 1) = (k : Int) + 1 := IntWalk.i64_in _ (by omega)
        have hpcm : xs.length ≤ pc := by obtain ⟨_, _, e, h, _⟩ := HP.out.len; simp only [Value.slice.injEq] at e; obtain ⟨_, _, rfl⟩ := e; exact h
        have hi3 : (k : Int) ≤ (k : Int) + 1 := by omega
        have hi4 : (k : Int) + 1 ≤ (pc : Int) := by omega
        have hi5 : (0 : Int) ≤ (k : Int) + 1 := by omega
        have hi6 : (k : Int) ≤ (pc : Int) := by omega
        have hpk : ¬ pc = k := by omega
        generalize xs[k] = xk at *
        obtain ⟨sq, hsq⟩ : ∃ sq, sq = findIn fs [xk] p s := ⟨_, rfl⟩
        have Hsq := Lib.hid hsq
        rw [← hsq] at Hone
        clear hsq
        have k0 := cell_regrown x3
        have k1 := cell_regrown hpc
        have cC : ∀ d os, Calls Try.prog 28 #[.string (mk p), .string (mk s)] (grow (redrawn wr d) os) fun e w'' => e = .returned (.string (mk nm)) ∧ ∃ p : Regrown, w'' = grow (redrawn wr p.d) p.os := fun d os =>
          Calls.regrown_of (by have h := impl_ChildOf p s (grow (redrawn wr d) os) (by omega) (by omega); rw [← Hnm.out] at h; exact h)
        have cH0 := Lib.hid (fun d os => Calls.regrown_of (impl_HasDir _ fs (fun _ => True) xk nm (grow (redrawn wr d) os) (HF.out.below (bt H13.out (bt HEr.out (below_regrown wr d os)))) Hz2.out (by omega)))
        rw [← Hqv.out] at cH0
        cases hqc : q xk
        · have Hst := Lib.hid (show (xs.take (k + 1)).filter q = (xs.take k).filter q by rw [Hsn.out, hqc]; simp)
          rw [hqc] at cH0
          have cH := cH0.out
          generalize (xs.take k).filter q = ds at *
          clear x3 y0 y1 y2 hpc hqc
          go_wp2_with fail
          refine wp_region_quiet_below (by kernel_rfl) (by kernel_rfl) ?_
          repeat (go_big_quiet_step (first | with_reducible exact cH _ _ | with_reducible exact cC _ _))
          refine wpQuiet_nil ?_
          intro _ hw'
          obtain ⟨⟨dq, osq⟩, hw2⟩ := hw'
          subst hw2
          clear cC cH k0 k1 cH0
          have HBq := Lib.hid (bt Hbr.out (below_regrown wr dq osq))
          have HEq := Lib.hid (bt HEr.out (below_regrown wr dq osq))
          have Hownq := Lib.hid (owns_below Hown.out (below_regrown wr dq osq))
          generalize grow (redrawn wr dq) osq = w7 at *
          obtain ⟨x3, y0, y1, y2, _⟩ := Hk.out _ HEq.out
          have hlt7 : w6.heap.size ≤ w7.heap.size := HBq.out.size
          go_upto_region 13 with fail
          go_cut [10] from 47 to 80 (fun s10 wx => ∃ (X : Nat) (a9 : Option Addr) (c9 : Nat), s10 = .pointer (some ⟨X, 0, none⟩) ∧ BoxC wx X #[.int .i64 sq.kind, .int .i64 (-1), .slice a9 sq.roots.length c9] ∧ Below w7.heap.size w7 wx)
          case first =>
            have Hk2 := Lib.hid (fun (w' : World) (hB : Below w7.heap.size w7 w') => (⟨(Hk.out _ (bt HEq.out hB)).1, hB⟩ : (fun w' => w'.cell? ⟨w1.heap.size, 0, none⟩ = some (.slice va fs.length vc) ∧ Below w7.heap.size w7 w') w'))
            obtain ⟨x0, hBB⟩ := Hk2.out _ (Below.refl _ _)
            go_region_held3 (fun w' => w'.cell? ⟨w1.heap.size, 0, none⟩ = some (.slice va fs.length vc) ∧ Below w7.heap.size w7 w')
              (exact Hk2.out _ (by (repeat (with_reducible first | exact Below.refl _ _ | assumption | refine ba ?_ _ | refine bd ?_ | refine bdN ?_ _ | refine bs ?_ (by first | exact Nat.le_refl _ | (dsimp only; omega) | (simp; done)) _ | refine bt ?_ (by assumption)))))
              (first
                | (go_at_call 25; refine (impl_FindIn _ fs (fun _ => True) _ [xk] p s _ (HF.out.below (bt H13.out (bt HEq.out (by (repeat (with_reducible first | exact Below.refl _ _ | assumption | refine ba ?_ _ | refine bd ?_ | refine bdN ?_ _ | refine bs ?_ (by first | exact Nat.le_refl _ | (dsimp only; omega) | (simp; done)) _ | refine bt ?_ (by assumption))))))) Hz2.out (Hsub.out _ (bt H13.out (bt HEq.out (by (repeat (with_reducible first | exact Below.refl _ _ | assumption | refine ba ?_ _ | refine bd ?_ | refine bdN ?_ _ | refine bs ?_ (by first | exact Nat.le_refl _ | (dsimp only; omega) | (simp; done)) _ | refine bt ?_ (by assumption))))))) (by omega) (by omega)).mono ?_; rintro _ w9 ⟨v9, rfl, hown9, hb9⟩; rw [← Hsq.out] at hown9 ⊢; rw [Hone.out]; obtain ⟨a9, c9, rfl⟩ := owns_shape hown9; clear hown9; (first | (have hxk := boxS_kept hb9; obtain ⟨xk0, xk1, xk2, xf0, xf1, xf2, xks⟩ := hxk) | (have hxk := boxS_kept (boxS_drew hb9); obtain ⟨xk0, xk1, xk2, xf0, xf1, xf2, xks⟩ := hxk) | skip)))
            all_goals (go_wp2_with fail; go_meet; refine ⟨_, a9, c9, rfl, ?_, ?_⟩)
            all_goals first
              | exact ((BoxC.start _ _ _).at (by first | rfl | simp))
              | exact boxS_set (((BoxC.start _ _ _).below hb9).at (by first | rfl | simp)) _ _ _
              | exact boxS_set (((BoxC.start _ _ _).below (boxS_drew hb9)).at (by first | rfl | simp)) _ _ _
              | ((repeat (with_reducible first | exact Below.refl _ _ | assumption | refine ba ?_ _ | refine bd ?_ | refine bdN ?_ _ | refine bs ?_ (by first | exact Nat.le_refl _ | (dsimp only; omega) | (simp; done)) _ | refine bt ?_ (by assumption))); done)
              | trace_state
          case rest =>
            obtain ⟨X, a9, c9, rfl, hX, hbX⟩ := hcut
            have z1 := hX.2 1
            have HBx := Lib.hid (HBq.out.trans (hbX.mono (by omega)))
            have Hownx := Lib.hid (owns_below Hownq.out hbX)
            go_wp2_with fail
            go_roundw
            case rel => exact ⟨k + 1, by omega, by go_num, by rw [Hst.out]; exact Hownx.out, HBx.out⟩
            case measure => simp [intOf]; omega
        · have Hst := Lib.hid (show (xs.take (k + 1)).filter q = (xs.take k).filter q ++ [xk] by rw [Hsn.out, hqc]; simp)
          rw [hqc] at cH0
          have cH := cH0.out
          generalize (xs.take k).filter q = ds at *
          clear x3 y0 y1 y2 hpc hqc
          go_wp2_with fail
          refine wp_region_quiet_below (by kernel_rfl) (by kernel_rfl) ?_
          repeat (go_big_quiet_step (first | with_reducible exact cH _ _ | with_reducible exact cC _ _))
          refine wpQuiet_nil ?_
          intro _ hw'
          obtain ⟨⟨dq, osq⟩, hw2⟩ := hw'
          subst hw2
          have k1' := k1 dq osq
          clear cC cH k0 k1 cH0
          have HBq := Lib.hid (bt Hbr.out (below_regrown wr dq osq))
          have HEq := Lib.hid (bt HEr.out (below_regrown wr dq osq))
          have Hownq := Lib.hid (owns_below Hown.out (below_regrown wr dq osq))
          generalize grow (redrawn wr dq) osq = w6b at *
          have hs6b := HBq.out.size
          go_upto_region 13 with (at_builtin; refine wpList_append_own _ rfl _ _ 26 rfl w6.heap.size 3 i0 (.int .i64 0) 1 8 Try.underlying26 Hi.out Hz0.out HzA.out HzB.out rfl (by decide) _ ds.length _ rfl (Hownq.out.alloc _) ⟨w6b.heap.size, 0, none⟩ 1 1 [.int .i64 xk] rfl rfl (cell_one_new _ _ _) (fun x hx => by simp at hx; subst hx; rfl) (by unfold maxLen; omega) (by omega) (by simp; omega) ?_; intro v8 w7 hown8 hg8 hnil8; obtain ⟨da8, dc8, hv8⟩ := owns_shape hown8; subst hv8; have H8 := Lib.hid hown8; have B8 := Lib.hid (show Below w6.heap.size w6b w7 from ((Below.refl _ _).alloc (by omega) _).grown hg8 (by simp; omega) (fun b hb => (Hownq.out.lt b hb).1)); clear hown8 hg8 hnil8)
          have HB8 := Lib.hid (HBq.out.trans B8.out)
          have HE8 := Lib.hid (bt HE6.out HB8.out)
          have Hown8 := Lib.hid (show w7.ownsRow w6.heap.size 3 1 (.slice da8 (ds.length + 1) dc8) (ds ++ [xk]).length ((ds ++ [xk]).map iv) by have := H8.out; simpa [iv] using this)
          obtain ⟨x3, y0, y1, y2, _⟩ := Hk.out _ HE8.out
          have hlt7 : w6.heap.size ≤ w7.heap.size := HB8.out.size
          go_upto_region 13 with fail
          go_cut [10] from 47 to 80 (fun s10 wx => ∃ (X : Nat) (a9 : Option Addr) (c9 : Nat), s10 = .pointer (some ⟨X, 0, none⟩) ∧ BoxC wx X #[.int .i64 sq.kind, .int .i64 (-1), .slice a9 sq.roots.length c9] ∧ Below w7.heap.size w7 wx)
          case first =>
            have Hk2 := Lib.hid (fun (w' : World) (hB : Below w7.heap.size w7 w') => (⟨(Hk.out _ (bt HE8.out hB)).1, hB⟩ : (fun w' => w'.cell? ⟨w1.heap.size, 0, none⟩ = some (.slice va fs.length vc) ∧ Below w7.heap.size w7 w') w'))
            obtain ⟨x0, hBB⟩ := Hk2.out _ (Below.refl _ _)
            go_region_held3 (fun w' => w'.cell? ⟨w1.heap.size, 0, none⟩ = some (.slice va fs.length vc) ∧ Below w7.heap.size w7 w')
              (exact Hk2.out _ (by (repeat (with_reducible first | exact Below.refl _ _ | assumption | refine ba ?_ _ | refine bd ?_ | refine bdN ?_ _ | refine bs ?_ (by first | exact Nat.le_refl _ | (dsimp only; omega) | (simp; done)) _ | refine bt ?_ (by assumption)))))
              (first
                | (go_at_call 25; refine (impl_FindIn _ fs (fun _ => True) _ [xk] p s _ (HF.out.below (bt H13.out (bt HE8.out (by (repeat (with_reducible first | exact Below.refl _ _ | assumption | refine ba ?_ _ | refine bd ?_ | refine bdN ?_ _ | refine bs ?_ (by first | exact Nat.le_refl _ | (dsimp only; omega) | (simp; done)) _ | refine bt ?_ (by assumption))))))) Hz2.out (Hsub.out _ (bt H13.out (bt HE8.out (by (repeat (with_reducible first | exact Below.refl _ _ | assumption | refine ba ?_ _ | refine bd ?_ | refine bdN ?_ _ | refine bs ?_ (by first | exact Nat.le_refl _ | (dsimp only; omega) | (simp; done)) _ | refine bt ?_ (by assumption))))))) (by omega) (by omega)).mono ?_; rintro _ w9 ⟨v9, rfl, hown9, hb9⟩; rw [← Hsq.out] at hown9 ⊢; rw [Hone.out]; obtain ⟨a9, c9, rfl⟩ := owns_shape hown9; clear hown9; (first | (have hxk := boxS_kept hb9; obtain ⟨xk0, xk1, xk2, xf0, xf1, xf2, xks⟩ := hxk) | (have hxk := boxS_kept (boxS_drew hb9); obtain ⟨xk0, xk1, xk2, xf0, xf1, xf2, xks⟩ := hxk) | skip)))
            all_goals (go_wp2_with fail; go_meet; refine ⟨_, a9, c9, rfl, ?_, ?_⟩)
            all_goals first
              | exact ((BoxC.start _ _ _).at (by first | rfl | simp))
              | exact boxS_set (((BoxC.start _ _ _).below hb9).at (by first | rfl | simp)) _ _ _
              | exact boxS_set (((BoxC.start _ _ _).below (boxS_drew hb9)).at (by first | rfl | simp)) _ _ _
              | ((repeat (with_reducible first | exact Below.refl _ _ | assumption | refine ba ?_ _ | refine bd ?_ | refine bdN ?_ _ | refine bs ?_ (by first | exact Nat.le_refl _ | (dsimp only; omega) | (simp; done)) _ | refine bt ?_ (by assumption))); done)
              | trace_state
          case rest =>
            obtain ⟨X, a9, c9, rfl, hX, hbX⟩ := hcut
            have z1 := hX.2 1
            have HBx := Lib.hid (HB8.out.trans (hbX.mono (by omega)))
            have Hownx := Lib.hid (owns_below Hown8.out hbX)
            go_wp2_with fail
            go_roundw
            case rel => exact ⟨k + 1, by omega, by go_num, by rw [Hst.out]; exact Hownx.out, HBx.out⟩
            case measure => simp [intOf]; omega
      · obtain rfl : k = xs.length := by omega
        have Hst := Lib.hid (show (xs.take xs.length).filter q = sp.roots by rw [List.take_length]; exact G2.out.symm)
        have R8 := Lib.hid (IntsIn.of_owns Hown.out)
        rw [Hst.out] at R8
        have hln : ((xs.take xs.length).filter q).length = sp.roots.length := by rw [Hst.out]
        rw [hln]
        go_wp2_with fail
        refine (laws_equalInts _ _ _ _ _ (S2.out.below (bt H23.out HEr.out)) R8.out).mono ?_
        rintro _ w9 ⟨rfl, hb9⟩
        rw [decide_eq_true rfl]
        have HE9 := Lib.hid (bt HEr.out hb9)
        clear x3 y0 y1 y2 hb9
        obtain ⟨x3, y0, y1, y2, _⟩ := Hk.out _ HE9.out
        rw [show sp.file = -1 from G1.out] at y1
        go_wp2_with fail
        go_ret
        exact ⟨ret_bool (by first | rfl | simp), bt Hb1.out (bt H13.out HE9.out)⟩
  · have hkb : (sp.kind == 3) = false := by rw [beq_eq_false_iff_ne]; exact hk3
    have hkn : (sp.kind != 3) = true := by rw [bne, hkb]; rfl
    clear hk3
    go_wp2_with fail
    go_region_held3 (fun w' => w'.cell? ⟨w1.heap.size, 0, none⟩ = some (.slice va fs.length vc) ∧ w'.cell? ⟨w2.heap.size, 0, none⟩ = some (.int .i64 sp.kind) ∧ w'.cell? ⟨w2.heap.size, 1, none⟩ = some (.int .i64 sp.file) ∧ w'.cell? ⟨w2.heap.size, 2, none⟩ = some (.slice a2 sp.roots.length c2) ∧ Below (w2.alloc (.cells #[.int .i64 sp.kind, .int .i64 sp.file, .slice a2 sp.roots.length c2] 51)).heap.size (w2.alloc (.cells #[.int .i64 sp.kind, .int .i64 sp.file, .slice a2 sp.roots.length c2] 51)) w')
      (exact Hk.out _ (by (repeat (with_reducible first | exact Below.refl _ _ | assumption | refine ba ?_ _ | refine bd ?_ | refine bdN ?_ _ | refine bs ?_ (by first | exact Nat.le_refl _ | (dsimp only; omega) | (simp; done)) _ | refine bt ?_ (by assumption)))))
      (first
        | (go_at_call 27; refine (spec_FindIn _ fs (fun _ => True) _ xs p s _ (HF.out.below (bt H13.out (by (repeat (with_reducible first | exact Below.refl _ _ | assumption | refine ba ?_ _ | refine bd ?_ | refine bdN ?_ _ | refine bs ?_ (by first | exact Nat.le_refl _ | (dsimp only; omega) | (simp; done)) _ | refine bt ?_ (by assumption)))))) Hz2.out (HP.out.below (bt H13.out (by (repeat (with_reducible first | exact Below.refl _ _ | assumption | refine ba ?_ _ | refine bd ?_ | refine bdN ?_ _ | refine bs ?_ (by first | exact Nat.le_refl _ | (dsimp only; omega) | (simp; done)) _ | refine bt ?_ (by assumption)))))) (by omega) (by omega)).mono ?_; rintro _ w5 ⟨v5, rfl, hown5, hb5⟩; rw [← Hsp.out] at hown5 ⊢; have S5 := Lib.hid (IntsIn.of_owns hown5); obtain ⟨a5, c5, rfl⟩ := owns_shape hown5; clear hown5)
        | (go_at_call 26; refine (laws_equalSpec sp sp _ _ _ (S2.out.below (bt H23.out (by (repeat (with_reducible first | exact Below.refl _ _ | assumption | refine ba ?_ _ | refine bd ?_ | refine bdN ?_ _ | refine bs ?_ (by first | exact Nat.le_refl _ | (dsimp only; omega) | (simp; done)) _ | refine bt ?_ (by assumption)))))) (S5.out.below (by (repeat (with_reducible first | exact Below.refl _ _ | assumption | refine ba ?_ _ | refine bd ?_ | refine bdN ?_ _ | refine bs ?_ (by first | exact Nat.le_refl _ | (dsimp only; omega) | (simp; done)) _ | refine bt ?_ (by assumption)))))).mono ?_; rintro _ w6 ⟨rfl, hb6⟩; rw [decide_eq_true rfl]))
    have hE6 : Below (w2.alloc (.cells #[.int .i64 sp.kind, .int .i64 sp.file, .slice a2 sp.roots.length c2] 51)).heap.size (w2.alloc (.cells #[.int .i64 sp.kind, .int .i64 sp.file, .slice a2 sp.roots.length c2] 51)) w6 := by (repeat (with_reducible first | exact Below.refl _ _ | assumption | refine ba ?_ _ | refine bd ?_ | refine bdN ?_ _ | refine bs ?_ (by first | exact Nat.le_refl _ | (dsimp only; omega) | (simp; done)) _ | refine bt ?_ (by assumption)))
    clear x3 y0 y1 y2 hb5 hb6 S5
    obtain ⟨x3, y0, y1, y2, _⟩ := Hk.out _ hE6
    go_wp2_with fail
    go_region_held3 (fun w' => w'.cell? ⟨w1.heap.size, 0, none⟩ = some (.slice va fs.length vc) ∧ w'.cell? ⟨w2.heap.size, 0, none⟩ = some (.int .i64 sp.kind) ∧ w'.cell? ⟨w2.heap.size, 1, none⟩ = some (.int .i64 sp.file) ∧ w'.cell? ⟨w2.heap.size, 2, none⟩ = some (.slice a2 sp.roots.length c2) ∧ Below (w2.alloc (.cells #[.int .i64 sp.kind, .int .i64 sp.file, .slice a2 sp.roots.length c2] 51)).heap.size (w2.alloc (.cells #[.int .i64 sp.kind, .int .i64 sp.file, .slice a2 sp.roots.length c2] 51)) w')
      (exact Hk.out _ (by (repeat (with_reducible first | exact Below.refl _ _ | assumption | refine ba ?_ _ | refine bd ?_ | refine bdN ?_ _ | refine bs ?_ (by first | exact Nat.le_refl _ | (dsimp only; omega) | (simp; done)) _ | refine bt ?_ (by assumption)))))
      (first
        | (go_at_call 27; refine (spec_FindIn _ fs (fun _ => True) _ xs p s _ (HF.out.below (bt H13.out (by (repeat (with_reducible first | exact Below.refl _ _ | assumption | refine ba ?_ _ | refine bd ?_ | refine bdN ?_ _ | refine bs ?_ (by first | exact Nat.le_refl _ | (dsimp only; omega) | (simp; done)) _ | refine bt ?_ (by assumption)))))) Hz2.out (HP.out.below (bt H13.out (by (repeat (with_reducible first | exact Below.refl _ _ | assumption | refine ba ?_ _ | refine bd ?_ | refine bdN ?_ _ | refine bs ?_ (by first | exact Nat.le_refl _ | (dsimp only; omega) | (simp; done)) _ | refine bt ?_ (by assumption)))))) (by omega) (by omega)).mono ?_; rintro _ w10 ⟨v10, rfl, hown10, hb10⟩; rw [← Hsp.out] at hown10 ⊢; have S10 := Lib.hid (IntsIn.of_owns hown10); obtain ⟨a10, c10, rfl⟩ := owns_shape hown10; clear hown10)
        | (go_at_call 26; refine (laws_equalSpec sp sp _ _ _ (S2.out.below (bt H23.out (by (repeat (with_reducible first | exact Below.refl _ _ | assumption | refine ba ?_ _ | refine bd ?_ | refine bdN ?_ _ | refine bs ?_ (by first | exact Nat.le_refl _ | (dsimp only; omega) | (simp; done)) _ | refine bt ?_ (by assumption)))))) (S10.out.below (by (repeat (with_reducible first | exact Below.refl _ _ | assumption | refine ba ?_ _ | refine bd ?_ | refine bdN ?_ _ | refine bs ?_ (by first | exact Nat.le_refl _ | (dsimp only; omega) | (simp; done)) _ | refine bt ?_ (by assumption)))))).mono ?_; rintro _ w11 ⟨rfl, hb11⟩; rw [decide_eq_true rfl]))
    go_wp2_with fail
    go_ret
    exact ⟨rfl, bt Hb1.out (bt H13.out (by (repeat (with_reducible first | exact Below.refl _ _ | assumption | refine ba ?_ _ | refine bd ?_ | refine bdN ?_ _ | refine bs ?_ (by first | exact Nat.le_refl _ | (dsimp only; omega) | (simp; done)) _ | refine bt ?_ (by assumption)))))⟩

/-! ### THE STEP TO THE ROW -/
set_option maxRecDepth 100000 in
theorem lifted (os : Os) (started : os.Started) (H : Type) (enc : TypeId × Value → H) :
    ReturnsInHanded {} Try.checked os 6 .any (Rows.fnFindInSpaceSpec.pre6 enc Try.prog Try.f6 Rows.fnFindInSpaceRow.domain false) (Rows.fnFindInSpaceSpec.post enc Try.prog Try.f6 false true false false) := by
  refine returnsInHanded_of_change (C := Try.checked) own started (by kernel_rfl) Try.func6
    (ChangeSpec.witness6 (enc := enc) (C := Try.checked) false ⟨#[], #[.slice none 0 0], []⟩ 8 (by kernel_rfl) (by kernel_rfl) (by kernel_rfl) (by kernel_rfl)) ?_
  intro W base args ds gs before hval0 hW hcnd _
  have hval : ∀ (j : Nat) t v, Try.f6.params[j]? = some t → args[j]? = some v → Value.okWide Try.prog W .any base t v := hval0
  have hW' := hW
  obtain ⟨p, q, hA0, hV, rfl, hfz, hnd⟩ := hW
  have hA : DataW.TrodAll enc Try.prog W 0 (fun _ => true) true Try.f6.params.toList args.toList ds p := hA0
  rw [Try.params6] at hA hval
  obtain ⟨v0, vs0, d0, ds0, p0, q0, hargs, rfl, rfl, h0, r0⟩ := trodAll_cons hA
  obtain ⟨rfl, rfl, rfl⟩ := trodAll_nil r0
  obtain rfl : args = #[v0] := by cases args; simp_all
  obtain ⟨rfl, rfl⟩ := trodVars_none hV
  obtain ⟨a0, len0, cap0, rfl⟩ := okWide_slice Try.underlying22 (hval 0 22 v0 rfl rfl)
  have k0 := h0
  have lt0 : ∀ x ∈ p0, x.block < W.heap.size := by obtain ⟨m, hm⟩ := k0; exact DataW.trod_lt m _ _ _ hm
  have w0 : Code W W.heap.size a0 len0 cap0 := by
    obtain ⟨fuel, hf⟩ := h0
    rcases open_ints Try.underlying22 Try.underlying5 (by kernel_rfl) hf with ⟨hcs, _⟩ | ⟨x, l, c, zs, hcs, _, hl, hm, hz, _, hcell, hwz⟩
    · simp [Value.cells] at hcs
      obtain ⟨rfl, rfl, rfl⟩ := hcs
      exact .inl ⟨rfl, by unfold maxLen; omega⟩
    · simp [Value.cells] at hcs
      obtain ⟨rfl, rfl, rfl⟩ := hcs
      exact code_row W _ _ _ zs hl hm (by simpa using hz) hcell hwz
  clear hA0 hval0
  refine (walk a0 len0 cap0 W w0).mono fun e W' ⟨he, bel⟩ => ?_
  subst he
  exact ⟨_, rfl, _, _, _, [], _, [], hW', trodAll_mk1 (shut_bool Try.underlying4 _), (trodAll_cons_mk (Below.trod laidOut (by kernel_rfl) (of_decide_eq_true (by kernel_rfl)) k0 bel lt0) trodAll_mk0), rfl, bel.frame _, fun h => by cases h⟩

theorem over : Rows.fnFindInSpaceRow.holds Try.pinned (OpenSpec.ofChange Rows.fnFindInSpaceSpec) :=
  OpenClaim.holds_of_wide 6 Try.f6 rfl rfl rfl rfl rfl rfl rfl ⟨rfl, rfl, rfl, rfl, rfl⟩ rfl rfl rfl rfl rfl (by kernel_rfl) Try.func6 (by kernel_rfl)
    (of_decide_eq_true (by kernel_rfl)) (by unfold Func.isWrapper; first | (rw [if_pos (by decide +kernel)]; kernel_rfl) | (rw [if_neg (by decide +kernel)]; exact ⟨rfl, rfl⟩))
    (fun os started H enc _ => lifted os started H enc)

/-- THE STATEMENT -/
theorem proved : Rows.FnFindInSpaceSaid := over
end Go.Proofs.Ytfelbhpgifgkcaa.FnFindInSpace
