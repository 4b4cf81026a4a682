/- Contract of the model's function that tells why a file is hidden. -/
import Derived.Test.YtfelbhpgifgkcaaSHidden
import Derived.RegionCalls
import Derived.Deep.DeepCutAuto
import Derived.BigQuiet
set_option linter.unusedVariables false
set_option linter.unusedSimpArgs false
namespace Go.Proofs.Ytfelbhpgifgkcaa
open Go.RowKit Go.Proofs.Ytfelbhpgifgkcaa.Nm

set_option maxRecDepth 100000 in
set_option maxHeartbeats 4000000 in
theorem spec_WhoHides (v : Value) (fs : List Fil) (D : Nat → Prop) (pv : Value) (path : List Int) (i : Int) (w : World) (hr : FilsIn w D v fs) (hz : ShortT 2000000 fs) (hp : IntsIn w pv path) (hn : fs.length ≤ 9000000000) :
    Calls Try.prog 12 #[.agg #[v], pv, .int .i64 i] w fun e w' => e = .returned (.tuple #[.int .i64 (whoHides fs path i).1, .int .i64 (whoHides fs path i).2]) ∧ Below w.heap.size w w' := by
  have Hr := Lib.hid hr
  have Hz := Lib.hid hz
  have Hz3 := Lib.hid (short2 (B := 3000000) (by omega) hz)
  have Hp := Lib.hid hp
  obtain ⟨aa, ca, rfl, hl, hm⟩ := hr.len
  obtain ⟨pa, pc, rfl, hl1, hm1⟩ := hp.len
  have Hb0 := Lib.hid (Boxed.start w #[.slice aa fs.length ca] 25)
  clear hr hz hp hl hm hl1 hm1
  cases h1 : okTree fs
  · have H1 := Lib.hid h1
    have Hs := Lib.hid (who_no (t := fs) (path := path) (i := i) (by unfold okLook; rw [h1]; simp))
    clear h1
    go_enter Try.func12, Try.ntmps12
    go_wp2_with (go_at_call 60; refine (spec_validTree _ fs D _ (Hr.out.below (by (repeat (with_reducible first | exact Below.refl _ _ | assumption | refine ba ?_ _ | refine bd ?_ | refine bdN ?_ _ | refine bs ?_ (by first | exact Nat.le_refl _ | (dsimp only; omega) | (simp; done)) _ | refine bt ?_ (by assumption))))) Hz3.out).mono ?_; rintro _ w5 ⟨rfl, hb5⟩; rw [H1.out]; have Hx5 := Lib.hid (Hb0.out.step hb5); have a0 : w5.cell? ⟨w.heap.size, 0, none⟩ = some (.slice aa fs.length ca) := Hx5.out.cell 0)
    go_ret2
    exact ⟨ret_pair (by rw [Hs.out]) (by rw [Hs.out]), Hx5.out.below⟩
  cases h2 : okPath path
  · have H1 := Lib.hid h1
    have H2 := Lib.hid h2
    have Hs := Lib.hid (who_no (t := fs) (path := path) (i := i) (by unfold okLook; rw [h2]; simp))
    clear h1 h2
    go_enter Try.func12, Try.ntmps12
    go_wp2_with (first
      | (go_at_call 60; refine (spec_validTree _ fs D _ (Hr.out.below (by (repeat (with_reducible first | exact Below.refl _ _ | assumption | refine ba ?_ _ | refine bd ?_ | refine bdN ?_ _ | refine bs ?_ (by first | exact Nat.le_refl _ | (dsimp only; omega) | (simp; done)) _ | refine bt ?_ (by assumption))))) Hz3.out).mono ?_; rintro _ w5 ⟨rfl, hb5⟩; rw [H1.out]; have Hx5 := Lib.hid (Hb0.out.step hb5); have a0 : w5.cell? ⟨w.heap.size, 0, none⟩ = some (.slice aa fs.length ca) := Hx5.out.cell 0)
      | (go_at_call 61; refine (spec_validPath _ path _ (Hp.out.below (by have := Hx5.out.below; (repeat (with_reducible first | exact Below.refl _ _ | assumption | refine ba ?_ _ | refine bd ?_ | refine bdN ?_ _ | refine bs ?_ (by first | exact Nat.le_refl _ | (dsimp only; omega) | (simp; done)) _ | refine bt ?_ (by assumption)))))).mono ?_; rintro _ w6 ⟨rfl, hb6⟩; rw [H2.out]; have Hx6 := Lib.hid (Hx5.out.step hb6); clear a0; have a0 : w6.cell? ⟨w.heap.size, 0, none⟩ = some (.slice aa fs.length ca) := Hx6.out.cell 0))
    go_ret2
    exact ⟨ret_pair (by rw [Hs.out]) (by rw [Hs.out]), Hx6.out.below⟩
  cases h3 : inr i 0 ((fs.length : Int) - 1)
  · have H1 := Lib.hid h1
    have H2 := Lib.hid h2
    have H3 := Lib.hid h3
    have Hs := Lib.hid (who_no (t := fs) (path := path) (i := i) (by rw [h3]; simp))
    clear h1 h2 h3
    go_enter Try.func12, Try.ntmps12
    go_wp2_with (first
      | (go_at_call 60; refine (spec_validTree _ fs D _ (Hr.out.below (by (repeat (with_reducible first | exact Below.refl _ _ | assumption | refine ba ?_ _ | refine bd ?_ | refine bdN ?_ _ | refine bs ?_ (by first | exact Nat.le_refl _ | (dsimp only; omega) | (simp; done)) _ | refine bt ?_ (by assumption))))) Hz3.out).mono ?_; rintro _ w5 ⟨rfl, hb5⟩; rw [H1.out]; have Hx5 := Lib.hid (Hb0.out.step hb5); have a0 : w5.cell? ⟨w.heap.size, 0, none⟩ = some (.slice aa fs.length ca) := Hx5.out.cell 0)
      | (go_at_call 61; refine (spec_validPath _ path _ (Hp.out.below (by have := Hx5.out.below; (repeat (with_reducible first | exact Below.refl _ _ | assumption | refine ba ?_ _ | refine bd ?_ | refine bdN ?_ _ | refine bs ?_ (by first | exact Nat.le_refl _ | (dsimp only; omega) | (simp; done)) _ | refine bt ?_ (by assumption)))))).mono ?_; rintro _ w6 ⟨rfl, hb6⟩; rw [H2.out]; have Hx6 := Lib.hid (Hx5.out.step hb6); clear a0; have a0 : w6.cell? ⟨w.heap.size, 0, none⟩ = some (.slice aa fs.length ca) := Hx6.out.cell 0)
      | (go_at_call 62; refine (spec_inRange' _ _ _ _).mono ?_; rintro _ _ ⟨rfl, rfl⟩; rw [H3.out]))
    go_ret2
    exact ⟨ret_pair (by rw [Hs.out]) (by rw [Hs.out]), Hx6.out.below⟩
  have hlook := okLook_of h1 h2
  obtain ⟨k, hk, rfl⟩ : ∃ k : Nat, k < fs.length ∧ i = (k : Int) := by
    simp only [Bool.and_eq_true, inr, decide_eq_true_eq] at h3
    exact ⟨i.toNat, by omega, by omega⟩
  have H1 := Lib.hid h1
  have H2 := Lib.hid h2
  have H3 := Lib.hid h3
  have Ht := Lib.hid h1
  have hpl := okPath_len h2
  have hw := who_at hlook hk
  have hmod := okFil_mod (okTree_file h1 (List.getElem_mem hk))
  have hfl := found_lt fs path fs[k]
  have Him := Lib.hid (fun n => intIdx_mem path n)
  clear h1 h2 h3 hlook
  go_enter Try.func12, Try.ntmps12
  go_wp2_with (first
    | (go_at_call 60; refine (spec_validTree _ fs D _ (Hr.out.below (by (repeat (with_reducible first | exact Below.refl _ _ | assumption | refine ba ?_ _ | refine bd ?_ | refine bdN ?_ _ | refine bs ?_ (by first | exact Nat.le_refl _ | (dsimp only; omega) | (simp; done)) _ | refine bt ?_ (by assumption))))) Hz3.out).mono ?_; rintro _ w5 ⟨rfl, hb5⟩; rw [H1.out]; have Hx5 := Lib.hid (Hb0.out.step hb5); have a0 : w5.cell? ⟨w.heap.size, 0, none⟩ = some (.slice aa fs.length ca) := Hx5.out.cell 0)
    | (go_at_call 61; refine (spec_validPath _ path _ (Hp.out.below (by have := Hx5.out.below; (repeat (with_reducible first | exact Below.refl _ _ | assumption | refine ba ?_ _ | refine bd ?_ | refine bdN ?_ _ | refine bs ?_ (by first | exact Nat.le_refl _ | (dsimp only; omega) | (simp; done)) _ | refine bt ?_ (by assumption)))))).mono ?_; rintro _ w6 ⟨rfl, hb6⟩; rw [H2.out]; have Hx6 := Lib.hid (Hx5.out.step hb6); clear a0; have a0 : w6.cell? ⟨w.heap.size, 0, none⟩ = some (.slice aa fs.length ca) := Hx6.out.cell 0)
    | (go_at_call 62; refine (spec_inRange' _ _ _ _).mono ?_; rintro _ _ ⟨rfl, rfl⟩; rw [H3.out]))
  obtain ⟨wr, hwr⟩ : ∃ wr, wr = w6 := ⟨_, rfl⟩
  subst hwr
  have hbel := Hx6.out.below
  have hsz := Hx6.out.lt
  obtain ⟨b, off, cap, bv, e, hD, hb, hbody, c0, c1, c2, c3, c4, c5⟩ := (Hr.out.below hbel).at_ hk
  simp only [Value.slice.injEq] at e
  obtain ⟨rfl, _, rfl⟩ := e
  obtain ⟨ba', bc', rfl, hbl, hbm⟩ := hbody.len
  obtain ⟨z1, z2, z3⟩ := Hz.out _ (List.getElem_mem hk)
  have hk1 : (k : Int) < (fs.length : Int) := by omega
  have hk0 : (0 : Int) ≤ (k : Int) := by omega
  have Hbel := Lib.hid hbel
  obtain ⟨f, hf⟩ : ∃ f, f = fs[k] := ⟨_, rfl⟩
  rw [← hf] at c0 c1 c2 c3 c4 c5 z1 z2 hmod hw hfl
  clear hf hbody hbl hbm z3 hbel
  obtain ⟨fr, fp, fn, fi, fst, fb⟩ := f
  dsimp only at c0 c1 c2 c3 c4 c5 z1 z2
  have hvl := vn_len hmod.2
  have Hvn := Lib.hid hmod.2
  obtain ⟨nm, hnm⟩ : ∃ nm, nm = modName ⟨fr, fp, fn, fi, fst, fb⟩ := ⟨_, rfl⟩
  rw [← hnm] at hvl Hvn
  have Hnm := Lib.hid hnm
  have hff : foundFor fs path ⟨fr, fp, fn, fi, fst, fb⟩ = (byParts fs path nm).file := by rw [hnm]; rfl
  rw [hff] at hw hfl
  obtain ⟨sp, hsp⟩ : ∃ sp, sp = byParts fs path nm := ⟨_, rfl⟩
  rw [← hsp] at hw hfl
  have Hsp := Lib.hid hsp
  have Hk := Lib.hid (fun (w' : World) (hC : Below wr.heap.size wr w') => (by
    have hc := fun o => hC.cell (p := ⟨b, o, none⟩) hb
    exact ⟨(hC.cell (p := ⟨w.heap.size, 0, none⟩) hsz).trans a0, (hc _).trans c0, (hc _).trans c1, (hc _).trans c2, (hc _).trans c3, (hc _).trans c4, (hc _).trans c5, hC⟩ :
    w'.cell? ⟨w.heap.size, 0, none⟩ = some (.slice (some ⟨b, off, none⟩) fs.length ca) ∧ w'.cell? ⟨b, off + k * 6, none⟩ = some (.int .i64 fr) ∧ w'.cell? ⟨b, off + k * 6 + 1, none⟩ = some (.string (mk fp)) ∧ w'.cell? ⟨b, off + k * 6 + 2, none⟩ = some (.string (mk fn)) ∧ w'.cell? ⟨b, off + k * 6 + 3, none⟩ = some (.bool fi) ∧ w'.cell? ⟨b, off + k * 6 + 4, none⟩ = some (.int .i64 fst) ∧ w'.cell? ⟨b, off + k * 6 + 5, none⟩ = some (.slice ba' fb.length bc') ∧ Below wr.heap.size wr w'))
  clear hmod hnm hff hsp c0 c1 c2 c3 c4 c5
  obtain ⟨sk, sf, sr⟩ := sp
  dsimp only at hw hfl
  have Hw := Lib.hid hw
  clear hw a0
  go_upto_region 3 with fail
  go_cut [8] (fun s8 wx => ∃ B, s8 = .pointer (some ⟨B, 0, none⟩) ∧ wx.cell? ⟨B, 1, none⟩ = some (.int .i64 sf) ∧ Below wr.heap.size wr wx)
  case first =>
    obtain ⟨a0, c0, c1, c2, c3, c4, c5, _⟩ := Hk.out wr (Below.refl _ _)
    go_region_with (first
        | (go_at_call 64; refine (spec_moduleName _ _ _ _ _ _ fb _ (by omega) (by omega)).mono ?_; rintro _ w7 ⟨rfl, hb7⟩; rw [← Hnm.out]; have Hb7 := Lib.hid (show Below wr.heap.size wr w7 by (repeat (with_reducible first | exact Below.refl _ _ | assumption | refine ba ?_ _ | refine bd ?_ | refine bdN ?_ _ | refine bs ?_ (by first | exact Nat.le_refl _ | (dsimp only; omega) | (simp; done)) _ | refine bt ?_ (by assumption)))); have HbR := Lib.hid hb7; have s7 : w.heap.size < w7.heap.size := Nat.lt_of_lt_of_le hsz Hb7.out.size; clear hb7 a0 c0 c1 c2 c3 c4 c5; obtain ⟨a0, c0, c1, c2, c3, c4, c5, _⟩ := Hk.out w7 Hb7.out)
        | (go_at_call 63; refine (spec_find _ fs D _ path nm _ (Hr.out.below (bt Hbel.out (by have := Hb7.out; (repeat (with_reducible first | exact Below.refl _ _ | assumption | refine ba ?_ _ | refine bd ?_ | refine bdN ?_ _ | refine bs ?_ (by first | exact Nat.le_refl _ | (dsimp only; omega) | (simp; done)) _ | refine bt ?_ (by assumption)))))) Hz.out Ht.out Hvn.out (Hp.out.below (bt Hbel.out (by have := Hb7.out; (repeat (with_reducible first | exact Below.refl _ _ | assumption | refine ba ?_ _ | refine bd ?_ | refine bdN ?_ _ | refine bs ?_ (by first | exact Nat.le_refl _ | (dsimp only; omega) | (simp; done)) _ | refine bt ?_ (by assumption)))))) (by omega)).mono ?_; rintro _ w8 ⟨v8, rfl, hown8, hb8⟩; rw [← Hsp.out]; rw [← Hsp.out] at hown8; dsimp only at hown8 ⊢; obtain ⟨a8, c8, hv8⟩ := owns_shape hown8; subst hv8; clear hown8; have Hb8 := Lib.hid (show Below wr.heap.size wr w8 by have := Hb7.out; (repeat (with_reducible first | exact Below.refl _ _ | assumption | refine ba ?_ _ | refine bd ?_ | refine bdN ?_ _ | refine bs ?_ (by first | exact Nat.le_refl _ | (dsimp only; omega) | (simp; done)) _ | refine bt ?_ (by assumption)))); have h78 := HbR.out.size; first | (have hX := bt HbR.out hb8; obtain ⟨hc8, hf8, hs8⟩ := bcell hX) | (obtain ⟨hc8, hf8, hs8⟩ := bcell hb8)))
    all_goals (go_wp2_with fail; go_meet; refine ⟨_, rfl, ?_, ?_⟩)
    all_goals first
      | exact bs (bs (bs Hb8.out (Nat.le_refl _) _) (Nat.le_refl _) _) (Nat.le_refl _) _
      | exact bs (bs (bs Hb8.out Hb7.out.size _) Hb7.out.size _) Hb7.out.size _
      | exact ba Hb8.out _
      | (go_simp; done)
      | skip
  case rest =>
    obtain ⟨B, rfl, hB, hcb⟩ := hcut
    have hw := Hw.out
    have Hcb := Lib.hid hcb
    obtain ⟨a0, c0, c1, c2, c3, c4, c5, _⟩ := Hk.out wc hcb
    clear hcb
    cases hh : decide (sf = (k : Int))
    · have hne : ¬ sf = (k : Int) := of_decide_eq_false hh
      clear hh
      rw [if_neg hne] at hw
      have hk' : (sf == (k : Int)) = false := by simp [hne]
      clear hne
      have hroot := Him.out fr
      by_cases hm : fr ∈ path
      · have hi0 : ¬ intIdx path fr < 0 := by have := hroot.2 hm; omega
        rw [if_pos hm] at hw
        clear hm hroot
        by_cases hs0 : 0 ≤ sf
        · rw [if_pos hs0] at hw
          have hw2 := Lib.hid hw
          clear hw
          go_wp2_with (go_at_call 65; refine (spec_intAt _ path _ _ (Hp.out.below (bt Hbel.out (by have := Hcb.out; (repeat (with_reducible first | exact Below.refl _ _ | assumption | refine ba ?_ _ | refine bd ?_ | refine bdN ?_ _ | refine bs ?_ (by first | exact Nat.le_refl _ | (dsimp only; omega) | (simp; done)) _ | refine bt ?_ (by assumption))))))).mono ?_; rintro _ _ ⟨rfl, rfl⟩)
          go_quiet (fail)
          go_wp2_with fail
          go_ret2
          exact ⟨ret_pair (by rw [hw2.out]) (by rw [hw2.out]), bt Hbel.out (by have := Hcb.out; (repeat (with_reducible first | exact Below.refl _ _ | assumption | refine ba ?_ _ | refine bd ?_ | refine bdN ?_ _ | refine bs ?_ (by first | exact Nat.le_refl _ | (dsimp only; omega) | (simp; done)) _ | refine bt ?_ (by assumption))))⟩
        · rw [if_neg hs0] at hw
          have hw2 := Lib.hid hw
          clear hw
          go_wp2_with (go_at_call 65; refine (spec_intAt _ path _ _ (Hp.out.below (bt Hbel.out (by have := Hcb.out; (repeat (with_reducible first | exact Below.refl _ _ | assumption | refine ba ?_ _ | refine bd ?_ | refine bdN ?_ _ | refine bs ?_ (by first | exact Nat.le_refl _ | (dsimp only; omega) | (simp; done)) _ | refine bt ?_ (by assumption))))))).mono ?_; rintro _ _ ⟨rfl, rfl⟩)
          go_ret2
          exact ⟨ret_pair (by rw [hw2.out]) (by rw [hw2.out]), bt Hbel.out (by have := Hcb.out; (repeat (with_reducible first | exact Below.refl _ _ | assumption | refine ba ?_ _ | refine bd ?_ | refine bdN ?_ _ | refine bs ?_ (by first | exact Nat.le_refl _ | (dsimp only; omega) | (simp; done)) _ | refine bt ?_ (by assumption))))⟩
      · have hi0 : intIdx path fr < 0 := by
          have h : ¬ 0 ≤ intIdx path fr := fun h => hm (hroot.1 h)
          omega
        rw [if_neg hm] at hw
        have hw2 := Lib.hid hw
        clear hw hm hroot
        go_wp2_with (go_at_call 65; refine (spec_intAt _ path _ _ (Hp.out.below (bt Hbel.out (by have := Hcb.out; (repeat (with_reducible first | exact Below.refl _ _ | assumption | refine ba ?_ _ | refine bd ?_ | refine bdN ?_ _ | refine bs ?_ (by first | exact Nat.le_refl _ | (dsimp only; omega) | (simp; done)) _ | refine bt ?_ (by assumption))))))).mono ?_; rintro _ _ ⟨rfl, rfl⟩)
        go_ret2
        exact ⟨ret_pair (by rw [hw2.out]) (by rw [hw2.out]), bt Hbel.out (by have := Hcb.out; (repeat (with_reducible first | exact Below.refl _ _ | assumption | refine ba ?_ _ | refine bd ?_ | refine bdN ?_ _ | refine bs ?_ (by first | exact Nat.le_refl _ | (dsimp only; omega) | (simp; done)) _ | refine bt ?_ (by assumption))))⟩
    · have he : sf = (k : Int) := of_decide_eq_true hh
      rw [if_pos he] at hw
      have hw2 := Lib.hid hw
      clear hw hh
      subst he
      go_wp2_with fail
      go_ret2
      exact ⟨ret_pair (by rw [hw2.out]) (by rw [hw2.out]), bt Hbel.out (by have := Hcb.out; (repeat (with_reducible first | exact Below.refl _ _ | assumption | refine ba ?_ _ | refine bd ?_ | refine bdN ?_ _ | refine bs ?_ (by first | exact Nat.le_refl _ | (dsimp only; omega) | (simp; done)) _ | refine bt ?_ (by assumption))))⟩
end Go.Proofs.Ytfelbhpgifgkcaa
