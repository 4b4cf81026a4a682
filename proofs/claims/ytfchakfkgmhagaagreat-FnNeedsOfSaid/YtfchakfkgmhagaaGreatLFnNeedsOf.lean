/- FnNeedsOf returns true for every code. Written by mkp7.py. -/
import Derived.Test.YtfchakfkgmhagaaGreatDrawQ
import Derived.Test.YtfchakfkgmhagaaGreatLooks
import Derived.Test.YtfchakfkgmhagaaGreatSGraph
import Derived.Test.YtfchakfkgmhagaaGreatTexts2
import Derived.Test.YtfchakfkgmhagaaGreatFrame
import Derived.Test.YtfchakfkgmhagaaGreatFacts
import Derived.Deep.RegionHeld3
set_option linter.unusedVariables false
set_option linter.unusedSimpArgs false
namespace Go.Proofs.YtfchakfkgmhagaaGreat.FnNeedsOf
open Go.Sort Go.ChangeShapes Go.WideShapes Go.ChangeAt Go.RowKit Go.Proofs.YtfchakfkgmhagaaGreat.Nm

theorem mem_foldNeed (p : Bs) (x : Bs) : ∀ (b : List Stm) (xs : List Bs), x ∈ b.foldl (addNeed p) xs ↔ x ∈ xs ∨ ∃ s ∈ b, needBy p s = x ∧ x ≠ []
  | [], xs => by simp
  | t :: b, xs => by
    rw [List.foldl_cons, mem_foldNeed p x b]
    unfold addNeed
    by_cases h : needBy p t = []
    · rw [if_pos h]
      constructor
      · rintro (h1 | ⟨s, h1, h2⟩)
        · exact .inl h1
        · exact .inr ⟨s, List.mem_cons_of_mem _ h1, h2⟩
      · rintro (h1 | ⟨s, h1, h2, h3⟩)
        · exact .inl h1
        · rcases List.mem_cons.1 h1 with rfl | h1
          · exact absurd (h2.symm.trans h) h3
          · exact .inr ⟨s, h1, h2, h3⟩
    · rw [if_neg h, mem_addOne]
      constructor
      · rintro ((h1 | rfl) | ⟨s, h1, h2⟩)
        · exact .inl h1
        · exact .inr ⟨t, List.mem_cons_self, rfl, h⟩
        · exact .inr ⟨s, List.mem_cons_of_mem _ h1, h2⟩
      · rintro (h1 | ⟨s, h1, h2, h3⟩)
        · exact .inl (.inl h1)
        · rcases List.mem_cons.1 h1 with rfl | h1
          · exact .inl (.inr h2.symm)
          · exact .inr ⟨s, h1, h2, h3⟩
theorem named_in {p : Bs} {b : List Stm} (hb : okBody b = true) {i : Nat} (hi : i < b.length) (hk : b[i].kind = 0 ∨ b[i].kind = 2) : b[i].module ∈ bodyNeeds p b := by
  have hos := okBody_at hb (List.getElem_mem hi)
  have hn : needBy p b[i] = b[i].module := by unfold needBy; rw [if_pos hk]
  have hv : vn b[i].module = true := by
    unfold okStm at hos
    rcases hk with h | h <;> simp [h] at hos <;> exact hos.1.1.1
  exact (mem_foldNeed p _ b []).2 (.inr ⟨b[i], List.getElem_mem hi, hn, by intro e; rw [e] at hv; exact absurd hv (by decide)⟩)
set_option maxRecDepth 100000 in
set_option maxHeartbeats 8000000 in
theorem walk (a : Option Addr) (n cap : Nat) (w : World) (hc : Code w w.heap.size a n cap) :
    Calls Tryz.prog 12 #[.slice a n cap] w fun e w' => e = .returned (.bool true) ∧ Below w.heap.size w w' := by
  by_cases hn : (1048576 : Int) < (n : Int)
  · go_enter Tryz.func12, Tryz.ntmps12
    go_wp2_with fail
    go_ret
    exact ⟨rfl, Below.refl _ _⟩
  have Hc := Lib.hid hc
  clear hc
  have hf0 := fld0
  have hf1 := fld1
  go_enter Tryz.func12, Tryz.ntmps12
  go_wp2_with fail
  refine (spec_DrawNeedsOf a n cap w Hc.out).mono ?_
  rintro e w1 ⟨v, ps, pv, xs, s, rfl, ⟨hrows, hsh, hl, hb5, hb1⟩, hp, hx3, hs17⟩
  obtain ⟨va, vc, rfl⟩ := hrows.len
  have HR := Lib.hid hrows
  obtain ⟨fs, hfs⟩ : ∃ fs, fs = ps.map (·.1) := ⟨_, rfl⟩
  have Hfs := Lib.hid hfs
  have hfl : fs.length = ps.length := by rw [hfs, List.length_map]
  have HF := Lib.hid (show FilsIn w1 (fun _ => True) (.slice va ps.length vc) fs by rw [hfs]; exact hrows.fils)
  have Hz8 := Lib.hid (show ShortT 8000000 fs by rw [hfs]; exact shortT_mono (by omega) hsh)
  have Hz2 := Lib.hid (show ShortT 2000000 fs by rw [hfs]; exact shortT_mono (by omega) hsh)
  have Hb1 := Lib.hid hb1
  have B0 := Boxed.start w1 #[.slice va ps.length vc] 31
  have hl11 : fs.length ≤ 11 := by omega
  clear hrows hsh hb5 hb1 hfs
  generalize ps.length = pn at *
  subst hfl
  have X1 := Lib.hid B0
  clear B0
  obtain ⟨pa, pc, rfl⟩ := hp.len
  have HP := Lib.hid hp.ints
  clear hp
  obtain ⟨ns, hns⟩ : ∃ x, x = needsOf fs xs s := ⟨_, rfl⟩
  have hnl : ns.length ≤ 8 := by rw [hns]; exact (needsOf_ok _ _ _).2.2
  have Hns := Lib.hid hns
  clear hns
  go_wp2_with fail
  refine (impl_NeedsOf _ fs (fun _ => True) _ xs s _ (HF.out.below X1.out.below) Hz2.out (HP.out.below X1.out.below) (by omega)).mono ?_
  rintro _ w2 ⟨v2, rfl, hown2, hb2⟩
  rw [← Hns.out] at hown2
  have R2 := Lib.hid (Reads.of_owns hown2)
  obtain ⟨a2, c2, rfl⟩ := owns_shape hown2
  have X2 := Lib.hid (X1.out.step hb2)
  have x2 : w2.cell? ⟨w1.heap.size, 0, none⟩ = some (.slice va fs.length vc) := X2.out.cell 0
  clear hb2 hown2
  go_wp2_with fail
  refine (spec_NeedsOf _ fs (fun _ => True) _ xs s _ (HF.out.below X2.out.below) Hz2.out (HP.out.below X2.out.below) (by omega)).mono ?_
  rintro _ w3 ⟨v3, rfl, hown3, hb3⟩
  rw [← Hns.out] at hown3
  have R3 := Lib.hid (Reads.of_owns hown3)
  obtain ⟨a3, c3, rfl⟩ := owns_shape hown3
  have X3 := Lib.hid (X2.out.step hb3)
  have x3 : w3.cell? ⟨w1.heap.size, 0, none⟩ = some (.slice va fs.length vc) := X3.out.cell 0
  have R2 := Lib.hid (Reads.below R2.out hb3)
  clear hb3 hown3 x2
  go_wp2_with fail
  refine (laws_equalTexts _ _ ns ns _ R2.out R3.out (by omega) (by omega)).mono ?_
  rintro _ w4 ⟨rfl, hb4⟩
  rw [decide_eq_true rfl]
  have X4 := Lib.hid (X3.out.step hb4)
  have x4 : w4.cell? ⟨w1.heap.size, 0, none⟩ = some (.slice va fs.length vc) := X4.out.cell 0
  have R2 := Lib.hid (Reads.below R2.out hb4)
  clear hb4 x3
  rcases (show canFind fs xs s = true ∨ canFind fs xs s = false by cases canFind fs xs s <;> simp) with hcf | hcf
  · have Hcf := Lib.hid hcf
    clear hcf
    go_wp2_with fail
    refine (impl_CanFind _ fs (fun _ => True) _ xs s _ (HF.out.below X4.out.below) Hz2.out (HP.out.below X4.out.below) (by omega)).mono ?_
    rintro _ w5 ⟨rfl, hb5⟩
    rw [Hcf.out]
    have X5 := Lib.hid (X4.out.step hb5)
    have x5 : w5.cell? ⟨w1.heap.size, 0, none⟩ = some (.slice va fs.length vc) := X5.out.cell 0
    have R2 := Lib.hid (Reads.below R2.out hb5)
    clear hb5 x4
    obtain ⟨sp, hsp⟩ : ∃ sp, sp = findSpec fs xs s := ⟨_, rfl⟩
    have Hsp := Lib.hid hsp
    have hcs := fileFor_cases fs xs s
    rw [← hsp, ← Hns.out] at hcs
    have Hcs := Lib.hid hcs
    have hok := needsOf_ok fs xs s
    rw [← Hns.out] at hok
    have Hok := Lib.hid hok
    clear hsp hcs hok
    go_wp2_with fail
    refine (impl_FindSpec _ fs (fun _ => True) _ xs s _ (HF.out.below X5.out.below) Hz2.out (HP.out.below X5.out.below) (by omega)).mono ?_
    rintro _ w6 ⟨v6, rfl, hown6, hb6⟩
    rw [← Hsp.out] at hown6 ⊢
    obtain ⟨a6, c6, rfl⟩ := owns_shape hown6
    have X6 := Lib.hid (X5.out.step hb6)
    have x6 : w6.cell? ⟨w1.heap.size, 0, none⟩ = some (.slice va fs.length vc) := X6.out.cell 0
    have R2 := Lib.hid (Reads.below R2.out hb6)
    clear hb6 hown6 x5
    obtain ⟨skd, sf, sr⟩ := sp
    dsimp only at Hcs ⊢
    rcases Hcs.out with ⟨hneg, hno⟩ | ⟨k0, hk0, hsf, hneed, hbody, hvk, hvs⟩
    · have hlt : (decide (sf < 0)) = true := decide_eq_true hneg
      obtain rfl : ns = [] := hno
      go_wp2_with fail
      go_ret
      exact ⟨rfl, bt Hb1.out X6.out.below⟩
    · subst hsf
      have Hneed := Lib.hid hneed
      have Hbody := Lib.hid hbody
      have hb8 := okBody_len hbody
      have h0k : (0 : Int) ≤ (k0 : Int) := by omega
      have hkk : (k0 : Int) < (fs.length : Int) := by omega
      obtain ⟨b, off, cap', bv, e, _, hb, hst, _, _, _, _, _, c5⟩ := (HF.out.below X6.out.below).at_ hk0
      simp only [Value.slice.injEq] at e
      obtain ⟨rfl, hnn, rfl⟩ := e
      have Hst := Lib.hid hst
      obtain ⟨sa, sc, rfl, _, _⟩ := hst.len
      have Hin := Lib.hid (fun (i : Nat) (hi : i < fs[k0].body.length) (hk : fs[k0].body[i].kind = 0 ∨ fs[k0].body[i].kind = 2) => (show fs[k0].body[i].module ∈ ns by rw [hneed]; exact named_in hbody hi hk))
      have hml := Lib.hid (fun (i : Nat) (hi : i < fs[k0].body.length) => okStm_len (okBody_at hbody (List.getElem_mem hi)))
      clear Hcs hneed hbody hvk hst hnn Hneed
      generalize fs[k0].body = fb at *
      go_wp2_with fail
      go_loopw [8] (fun iv wr => ∃ k : Nat, k ≤ fb.length ∧ iv = .int .i64 k ∧ Boxed w1 #[.slice (some ⟨b, off, none⟩) fs.length vc] 31 wr ∧ Reads wr (.slice a2 ns.length c2) ns ∧ Below w6.heap.size w6 wr) (fun iv _ => fb.length - (intOf iv).toNat)
      case atStart => exact ⟨0, by omega, rfl, X6.out, R2.out, Below.refl _ _⟩
      case round =>
        obtain ⟨k, hk, rfl, hbx, hrd, hbel⟩ := hrel
        have XR := Lib.hid hbx
        have RR := Lib.hid hrd
        have Hbel := Lib.hid hbel
        have xr : wr.cell? ⟨w1.heap.size, 0, none⟩ = some (.slice (some ⟨b, off, none⟩) fs.length vc) := XR.out.cell 0
        have e5 := (Hbel.out.cell (p := ⟨b, off + k0 * 6 + 5, none⟩) hb).trans c5
        clear hbx hrd hbel x6 R2
        by_cases hlt : k < fb.length
        · obtain ⟨b1, off1, cap1, e1, _, hbb, g0, g1, g2, g3, g4⟩ := (Hst.out.below Hbel.out).at_ hlt
          simp only [Value.slice.injEq] at e1
          obtain ⟨rfl, hnn, rfl⟩ := e1
          have Hin1 := Lib.hid (Hin.out k hlt)
          have hml1 := hml.out k hlt
          have hk1 : (k : Int) < (fb.length : Int) := by omega
          have hk0' : (0 : Int) ≤ (k : Int) := by omega
          obtain ⟨st, hst⟩ : ∃ st, st = fb[k] := ⟨_, rfl⟩
          rw [← hst] at g0 g1 g2 g3 g4 Hin1 hml1
          clear hst hnn
          obtain ⟨sk, sm, sl, sn, sx⟩ := st
          dsimp only at g0 g1 g2 g3 g4 Hin1 hml1
          have hbx1 := XR.out.lt
          by_cases h0 : sk = 0 ∨ sk = 2
          · have Hm := Lib.hid (show decide (sm ∈ ns) = true from decide_eq_true (Hin1.out h0))
            rcases h0 with rfl | rfl
            all_goals
              go_wp2_with (go_at_call 50; refine (laws_hasText _ ns sm _ (Reads.below RR.out (by (repeat (with_reducible first | exact Below.refl _ _ | assumption | refine ba ?_ _ | refine bd ?_ | refine bdN ?_ _ | refine bs ?_ (by first | exact Nat.le_refl _ | (dsimp only; omega) | (simp; done)) _ | refine bt ?_ (by assumption))))) (by omega)).mono ?_; rintro _ _ ⟨rfl, rfl⟩; rw [Hm.out])
              go_roundw
              case rel => exact ⟨k + 1, by omega, by go_num, XR.out.step (by (repeat (with_reducible first | exact Below.refl _ _ | assumption | refine ba ?_ _ | refine bd ?_ | refine bdN ?_ _ | refine bs ?_ (by first | exact Nat.le_refl _ | (dsimp only; omega) | (simp; done)) _ | refine bt ?_ (by assumption)))), Reads.below RR.out (by (repeat (with_reducible first | exact Below.refl _ _ | assumption | refine ba ?_ _ | refine bd ?_ | refine bdN ?_ _ | refine bs ?_ (by first | exact Nat.le_refl _ | (dsimp only; omega) | (simp; done)) _ | refine bt ?_ (by assumption)))), bt Hbel.out (by (repeat (with_reducible first | exact Below.refl _ _ | assumption | refine ba ?_ _ | refine bd ?_ | refine bdN ?_ _ | refine bs ?_ (by first | exact Nat.le_refl _ | (dsimp only; omega) | (simp; done)) _ | refine bt ?_ (by assumption))))⟩
              case measure => simp [intOf]; omega
          · have hb0 : (sk == (0 : Int)) = false := by rw [beq_eq_false_iff_ne]; exact fun h => h0 (.inl h)
            have hb2 : (sk == (2 : Int)) = false := by rw [beq_eq_false_iff_ne]; exact fun h => h0 (.inr h)
            clear h0
            go_wp2_with fail
            go_roundw
            case rel => exact ⟨k + 1, by omega, by go_num, XR.out.step (by (repeat (with_reducible first | exact Below.refl _ _ | assumption | refine ba ?_ _ | refine bd ?_ | refine bdN ?_ _ | refine bs ?_ (by first | exact Nat.le_refl _ | (dsimp only; omega) | (simp; done)) _ | refine bt ?_ (by assumption)))), Reads.below RR.out (by (repeat (with_reducible first | exact Below.refl _ _ | assumption | refine ba ?_ _ | refine bd ?_ | refine bdN ?_ _ | refine bs ?_ (by first | exact Nat.le_refl _ | (dsimp only; omega) | (simp; done)) _ | refine bt ?_ (by assumption)))), bt Hbel.out (by (repeat (with_reducible first | exact Below.refl _ _ | assumption | refine ba ?_ _ | refine bd ?_ | refine bdN ?_ _ | refine bs ?_ (by first | exact Nat.le_refl _ | (dsimp only; omega) | (simp; done)) _ | refine bt ?_ (by assumption))))⟩
            case measure => simp [intOf]; omega
        · obtain rfl : k = fb.length := by omega
          have XW := Lib.hid XR.out
          have RW := Lib.hid RR.out
          go_wp2_with fail
          go_loopw [10] (fun iv wr => ∃ k : Nat, k ≤ ns.length ∧ iv = .int .i64 k ∧ Boxed w1 #[.slice (some ⟨b, off, none⟩) fs.length vc] 31 wr ∧ Reads wr (.slice a2 ns.length c2) ns) (fun iv _ => ns.length - (intOf iv).toNat)
          case atStart => exact ⟨0, by omega, rfl, XW.out, RW.out⟩
          case round =>
            obtain ⟨k, hk, rfl, hbx, hrd⟩ := hrel
            have XR := Lib.hid hbx
            have RR := Lib.hid hrd
            clear hbx hrd xr e5
            by_cases hlt : k < ns.length
            · obtain ⟨b1, o1, c1, e1, _, _, hb1, hc1⟩ := Reads.some RR.out (by omega)
              simp only [Value.slice.injEq] at e1
              obtain ⟨rfl, _, rfl⟩ := e1
              have hcell := hc1 k hlt
              have hv := Hok.out.1 _ (List.getElem_mem hlt)
              have Hv := Lib.hid hv
              have hvl := vn_len hv
              have hk1 : (k : Int) < (ns.length : Int) := by omega
              have hk0' : (0 : Int) ≤ (k : Int) := by omega
              have Ht := Lib.hid (fun (W : World) (e : Ending) (W' : World) (h : TextAtX ns ns[k] W e W') => h.nodup hlt Hok.out.2.1)
              clear hc1 hv
              generalize ns[k] = nm at *
              go_wp2_with (first
                | (go_at_call 51; refine (laws_textAtX _ ns nm _ (Reads.below RR.out (by (repeat (with_reducible first | exact Below.refl _ _ | assumption | refine ba ?_ _ | refine bd ?_ | refine bdN ?_ _ | refine bs ?_ (by first | exact Nat.le_refl _ | (dsimp only; omega) | (simp; done)) _ | refine bt ?_ (by assumption))))) (by omega)).mono ?_; intro e7 w7 h7; obtain ⟨rfl, rfl⟩ := Ht.out _ _ _ h7)
                | (go_at_call 52; refine (impl_ValidName nm _ (by omega)).mono ?_; rintro _ w8 ⟨rfl, hb8⟩; rw [Hv.out]; have Hb8 := Lib.hid (show Below wr.heap.size wr w8 by (repeat (with_reducible first | exact Below.refl _ _ | assumption | refine ba ?_ _ | refine bd ?_ | refine bdN ?_ _ | refine bs ?_ (by first | exact Nat.le_refl _ | (dsimp only; omega) | (simp; done)) _ | refine bt ?_ (by assumption)))); clear hb8))
              go_roundw
              case rel => exact ⟨k + 1, by omega, by go_num, XR.out.step Hb8.out, Reads.below RR.out Hb8.out⟩
              case measure => simp [intOf]; omega
            · go_wp2_with fail
              go_ret
              exact ⟨rfl, bt Hb1.out XR.out.below⟩
  · have Hcf := Lib.hid hcf
    clear hcf
    go_wp2_with fail
    refine (impl_CanFind _ fs (fun _ => True) _ xs s _ (HF.out.below X4.out.below) Hz2.out (HP.out.below X4.out.below) (by omega)).mono ?_
    rintro _ w5 ⟨rfl, hb5⟩
    rw [Hcf.out]
    have X5 := Lib.hid (X4.out.step hb5)
    have x5 : w5.cell? ⟨w1.heap.size, 0, none⟩ = some (.slice va fs.length vc) := X5.out.cell 0
    have R2 := Lib.hid (Reads.below R2.out hb5)
    clear hb5 x4
    go_wp2_with fail
    refine (spec_NeedsOf _ fs (fun _ => True) _ xs s _ (HF.out.below X5.out.below) Hz2.out (HP.out.below X5.out.below) (by omega)).mono ?_
    rintro _ w6 ⟨v6, rfl, hown6, hb6⟩
    rw [← Hns.out] at hown6
    have R6 := Lib.hid (Reads.of_owns hown6)
    obtain ⟨a6, c6, rfl⟩ := owns_shape hown6
    have X6 := Lib.hid (X5.out.step hb6)
    have R2 := Lib.hid (Reads.below R2.out hb6)
    clear hb6 hown6 x5
    go_wp2_with fail
    refine (laws_equalTexts _ _ ns ns _ R2.out R6.out (by omega) (by omega)).mono ?_
    rintro _ w7 ⟨rfl, hb7⟩
    rw [decide_eq_true rfl]
    have X7 := Lib.hid (X6.out.step hb7)
    clear hb7
    go_wp2_with fail
    go_ret
    exact ⟨rfl, bt Hb1.out X7.out.below⟩

/-! ### THE STEP TO THE ROW -/
set_option maxRecDepth 100000 in
theorem lifted (os : Os) (started : os.Started) (H : Type) (enc : TypeId × Value → H) :
    ReturnsInHanded {} Tryz.checked os 12 .any (Rows.fnNeedsOfSpec.pre6 enc Tryz.prog Tryz.f12 Rows.fnNeedsOfRow.domain false) (Rows.fnNeedsOfSpec.post enc Tryz.prog Tryz.f12 false true false false) := by
  refine returnsInHanded_of_change (C := Tryz.checked) own started (by kernel_rfl) Tryz.func12
    (ChangeSpec.witness6 (enc := enc) (C := Tryz.checked) false ⟨#[], #[.slice none 0 0], []⟩ 8 (by kernel_rfl) (by kernel_rfl) (by kernel_rfl) (by kernel_rfl)) ?_
  intro W base args ds gs before hval0 hW hcnd _
  have hval : ∀ (j : Nat) t v, Tryz.f12.params[j]? = some t → args[j]? = some v → Value.okWide Tryz.prog W .any base t v := hval0
  have hW' := hW
  obtain ⟨p, q, hA0, hV, rfl, hfz, hnd⟩ := hW
  have hA : DataW.TrodAll enc Tryz.prog W 0 (fun _ => true) true Tryz.f12.params.toList args.toList ds p := hA0
  rw [Tryz.params12] at hA hval
  obtain ⟨v0, vs0, d0, ds0, p0, q0, hargs, rfl, rfl, h0, r0⟩ := trodAll_cons hA
  obtain ⟨rfl, rfl, rfl⟩ := trodAll_nil r0
  obtain rfl : args = #[v0] := by cases args; simp_all
  obtain ⟨rfl, rfl⟩ := trodVars_none hV
  obtain ⟨a0, len0, cap0, rfl⟩ := okWide_slice Tryz.underlying48 (hval 0 48 v0 rfl rfl)
  have k0 := h0
  have lt0 : ∀ x ∈ p0, x.block < W.heap.size := by obtain ⟨m, hm⟩ := k0; exact DataW.trod_lt m _ _ _ hm
  have w0 : Code W W.heap.size a0 len0 cap0 := by
    obtain ⟨fuel, hf⟩ := h0
    rcases open_ints Tryz.underlying48 Tryz.underlying5 (by kernel_rfl) hf with ⟨hcs, _⟩ | ⟨x, l, c, zs, hcs, _, hl, hm, hz, _, hcell, hwz⟩
    · simp [Value.cells] at hcs
      obtain ⟨rfl, rfl, rfl⟩ := hcs
      exact .inl ⟨rfl, by unfold maxLen; omega⟩
    · simp [Value.cells] at hcs
      obtain ⟨rfl, rfl, rfl⟩ := hcs
      exact code_row W _ _ _ zs hl hm (by simpa using hz) hcell hwz
  clear hA0 hval0
  refine (walk a0 len0 cap0 W w0).mono fun e W' ⟨he, bel⟩ => ?_
  subst he
  exact ⟨_, rfl, _, _, _, [], _, [], hW', trodAll_mk1 (shut_bool Tryz.underlying4 _), (trodAll_cons_mk (Below.trod laidOut (by kernel_rfl) (of_decide_eq_true (by kernel_rfl)) k0 bel lt0) trodAll_mk0), rfl, bel.frame _, fun h => by cases h⟩

set_option maxRecDepth 100000 in
set_option maxHeartbeats 16000000 in
theorem closed : joinedFacts Tryz.pinned.checked.prog 12 Tryz.f12 Rows.fnNeedsOfSpec Rows.fnNeedsOfRow = true := by
  unfold joinedFacts
  simp only [Bool.and_eq_true]
  with_reducible repeat' apply And.intro
  rotate_left 25
  exact Facts.enter
  exact Facts.lifts
  exact Facts.make
  all_goals as_aux_lemma => exact of_decide_eq_true (by kernel_rfl)

theorem over : Rows.fnNeedsOfRow.holds Tryz.pinned (OpenSpec.ofChange Rows.fnNeedsOfSpec) :=
  OpenClaim.holds_of_wide 12 Tryz.f12 rfl rfl rfl rfl rfl rfl rfl ⟨rfl, rfl, rfl, rfl, rfl⟩ rfl rfl rfl rfl rfl (by kernel_rfl) Tryz.func12 closed
    (of_decide_eq_true (by kernel_rfl)) (by unfold Func.isWrapper; first | (rw [if_pos (by decide +kernel)]; kernel_rfl) | (rw [if_neg (by decide +kernel)]; exact ⟨rfl, rfl⟩))
    (fun os started H enc _ => lifted os started H enc)

/-- THE STATEMENT -/
theorem proved : Rows.FnNeedsOfSaid := over
end Go.Proofs.YtfchakfkgmhagaaGreat.FnNeedsOf
