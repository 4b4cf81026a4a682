/- Contract of the model's finder part by part. -/
import Derived.Test.YtolhgklbkjdpiaaSFind
import Derived.Test.YtolhgklbkjdpiaaByParts
set_option linter.unusedVariables false
set_option linter.unusedSimpArgs false
namespace Go.Proofs.Ytolhgklbkjdpiaa
open Go.RowKit Go.Proofs.Ytolhgklbkjdpiaa.Nm

theorem flip {P : Program} {f : FuncId} {args : Array Value} {w : World} {v : Value} (h : Calls P f args w fun e w' => e = .returned v ∧ w = w') :
    Calls P f args w fun e w' => e = .returned v ∧ w' = w := h.mono fun _ _ hh => ⟨hh.1, hh.2.symm⟩
theorem byParts_vn {t : List Fil} {path : List Int} {s : Bs} (h : vn s = true) : byParts t path s = partsGo t (above s) ⟨3, -1, path⟩ := by unfold byParts; rw [if_pos h]
set_option maxRecDepth 100000 in
set_option maxHeartbeats 4000000 in
theorem spec_find (v : Value) (fs : List Fil) (D : Nat → Prop) (pv : Value) (path : List Int) (s : Bs) (w : World) (hr : FilsIn w D v fs) (hz : ShortT 2000000 fs) (ht : okTree fs = true) (hvs : vn s = true) (hp : IntsIn w pv path) (hpl : path.length ≤ 100) :
    Calls Try.prog 87 #[.agg #[v], pv, .string (mk s)] w (NewSpc 3 (byParts fs path s) w) := by
  have Hr := Lib.hid hr
  have Hz := Lib.hid hz
  have Ht := Lib.hid ht
  have Hp := Lib.hid hp
  have hsl := vn_len hvs
  have Hv := Lib.hid (byParts_vn (t := fs) (path := path) hvs)
  have Hac := Lib.hid (fun i hi hi' => above_child hvs i hi hi')
  have Hvp := Lib.hid (fun i hi => vn_parts hvs i hi)
  have Hend := Lib.hid (fun k h h0 => partsGo_end fs (above s) k h h0 ⟨3, -1, path⟩)
  have hal := above_len s
  have hsp := split_pos s
  have hs3 := (vps_iff.1 (show vps (split s) = true from hvs)).1.2
  obtain ⟨aa, ca, rfl, hl, hm⟩ := hr.len
  obtain ⟨pa, pc, rfl, hpl1, hpm⟩ := hp.len
  obtain ⟨ns, hns⟩ : ∃ ns, ns = split s := ⟨_, rfl⟩
  obtain ⟨as_, has⟩ : ∃ as_, as_ = above s := ⟨_, rfl⟩
  rw [← hns] at hal hsp hs3
  rw [← has] at hal
  have Hns := Lib.hid hns
  have Has := Lib.hid has
  clear hr hl hm hz ht hp hns has hvs hpl1 hpm
  have hb0 := Boxed2.start w #[.slice aa fs.length ca] 32 #[.int .i64 0, .int .i64 0, .slice none 0 0] 58
  have Hb0 := Lib.hid hb0
  clear hb0
  go_enter Try.func87, Try.ntmps87
  go_wp2_with (go_at_call 98; refine (spec_splitAt s _ (by omega)).mono ?_; rintro _ w5 ⟨nv, rfl, hown5, hb5⟩; rw [← Hns.out] at hown5; have Hown5 := Lib.hid hown5; have Hx5 := Lib.hid (Hb0.out.step hb5); have hs5 := Hx5.out.lt; obtain ⟨na, nc, hnv⟩ := owns_shape hown5; subst hnv; clear hown5 hb5)
  have Hy5 := Lib.hid (Boxed.start w5 #[.int .i64 3, .int .i64 (-1), .slice pa path.length pc] 58)
  have Hsp0 := Lib.hid (show SpcAt (w5.alloc (.cells #[.int .i64 3, .int .i64 (-1), .slice pa path.length pc] 58)) w5.heap.size ⟨3, -1, path⟩ (.slice pa path.length pc) from ⟨Hy5.out.cell 0, Hy5.out.cell 1, Hy5.out.cell 2, Hy5.out.free 0, Hy5.out.free 1, Hy5.out.free 2, Hy5.out.lt⟩)
  have Hp5 := Lib.hid (Hp.out.below Hx5.out.below)
  go_loopw [9] (fun kv wr => ∃ (k : Nat) (sp : Spc) (vk : Value), k ≤ ns.length ∧ kv = .int .i64 k ∧ sp = partsGo fs (as_.take k) ⟨3, -1, path⟩ ∧ SpcAt wr w5.heap.size sp vk ∧ IntsIn wr vk sp.roots ∧ (0 < k → wr.ownsRow (w5.heap.size + 1) 3 1 vk sp.roots.length (sp.roots.map iv)) ∧ Below w5.heap.size w5 wr) (fun kv _ => ns.length - (intOf kv).toNat)
  case atStart => exact ⟨0, _, _, by omega, rfl, rfl, Hsp0.out, Hp5.out.below Hy5.out.below, fun h => absurd h (by omega), Hy5.out.below⟩
  case round =>
    obtain ⟨k, sp, vk, hk, rfl, hspe, hsa, hvk, hvo, hbel⟩ := hrel
    have HspE := Lib.hid hspe
    have Hsa := Lib.hid hsa
    have Hvk := Lib.hid hvk
    have Hvo := Lib.hid hvo
    have Hx := Lib.hid (show Boxed2 w _ _ _ _ wr from Hx5.out.trans (hbel.mono Hx5.out.size))
    have Hbel := Lib.hid hbel
    have hsW := hsa.2.2.2.2.2.2
    have hA : wr.cell? ⟨w.heap.size, 0, none⟩ = some (.slice aa fs.length ca) := Hx.out.one.cell 0
    have hwx := Hx.out.lt
    have Hre := Lib.hid (Reads.below (Reads.of_owns Hown5.out) hbel)
    obtain ⟨va, vc, rfl, hvl, hvm⟩ := hvk.len
    have hok : SpcOk fs sp ∨ k = 0 := by
      by_cases h0 : k = 0
      · exact .inr h0
      · left; rw [hspe]; exact partsGo_ok fs _ _ (.inr (by intro e; have h5 := congrArg List.length e; rw [List.length_take, Nat.min_eq_left (by omega)] at h5; simp only [List.length_nil] at h5; exact absurd h5 h0))
    have hrl : sp.roots.length ≤ 100 := by rw [hspe]; exact Nat.le_trans partsGo_len hpl
    obtain ⟨sk, sf, sr⟩ := sp
    obtain ⟨q0, q1, q2, g0, g1, g2, _⟩ := hsa
    dsimp only at q0 q1 q2 hvl hrl
    clear hvk hvo hbel hspe Hsp0 Hp5 hvm
    by_cases hlt : k < ns.length
    · by_cases hkk : sk = 2 ∨ sk = 3
      · have hfd : ∃ c2 : Bool, c2 = (sk == 2) := ⟨_, rfl⟩
        obtain ⟨b1, o1, c1, e1, hl1, hm1, hb1, hc1⟩ := Reads.some Hre.out (by omega)
        simp only [Value.slice.injEq] at e1
        obtain ⟨rfl, _, rfl⟩ := e1
        have hcell := hc1 k hlt
        have Hfr := Lib.hid (front_reads k (by omega) hl1 hm1 hb1 hc1)
        have hlt' : k < as_.length := by omega
        obtain ⟨h1, h2, h3⟩ := Hvp.out k (by rw [← Hns.out]; exact hlt)
        have h4 := Hac.out k (by rw [← Hns.out]; exact hlt) (by rw [← Has.out]; exact hlt')
        simp only [← Hns.out, ← Has.out] at h1 h2 h3 h4
        have Hcs := Lib.hid (partsGo_snoc fs as_ k hlt' ⟨3, -1, path⟩)
        have hjz : (join (ns.take k)).length ≤ 11 := vpk_len h1
        obtain ⟨nm, hnm⟩ : ∃ nm, nm = ns[k] := ⟨_, rfl⟩
        obtain ⟨pp, hpp⟩ : ∃ pp, pp = join (ns.take k) := ⟨_, rfl⟩
        rw [← hnm] at hcell h2 h3 h4
        rw [← hpp] at h1 h3 h4 hjz
        rw [← HspE.out, h4] at Hcs
        have H1 := Lib.hid h1
        have H2 := Lib.hid h2
        have H3 := Lib.hid h3
        have Hpp := Lib.hid hpp
        have hkc : k ≤ nc := by omega
        have hk1 : (k : Int) < (ns.length : Int) := by omega
        have hk0 : (0 : Int) ≤ (k : Int) := by omega
        obtain ⟨sp2, hsp2⟩ : ∃ sp2, sp2 = overSpc fs sr (child pp nm) := ⟨_, rfl⟩
        dsimp only at Hcs
        rw [← hsp2] at Hcs
        have Hsp2 := Lib.hid hsp2
        have cJ : Calls Try.prog 104 #[.slice (some ⟨b1, o1, none⟩) k nc] wr.drew fun e w'' => e = .returned (.string (mk pp)) ∧ w'' = wr.drew := by
          have h := flip (spec_join _ (ns.take k) wr.drew (Hfr.out.below (bd (Below.refl _ _))) (by simp; omega) (by rw [← Hpp.out]; omega)); rw [← Hpp.out] at h; exact h
        obtain ⟨sk2, sf2, sr2⟩ := sp2
        clear hnm hpp h1 h2 h3 h4 hsp2 hc1 hfd
        rcases hkk with rfl | rfl
        all_goals
          go_wp2_with fail
          refine wp_region_still_tail 11 (by kernel_rfl) (by kernel_rfl) ?_
          simp only [List.take_succ_cons, List.take_zero, List.drop_succ_cons, List.drop_zero]
          repeat (first | still_step | still_call cJ)
          try refine wpStill_nil ?_
          clear cJ
          go_wp2_with (go_at_call 82; refine (spec_findIn _ fs D _ sr pp nm _ (Hr.out.below (by have := Hx.out.below; (repeat (with_reducible first | exact Below.refl _ _ | assumption | refine ba ?_ _ | refine bd ?_ | refine bdN ?_ _ | refine bs ?_ (by first | exact Nat.le_refl _ | (dsimp only; omega) | (simp; done)) _ | refine bt ?_ (by assumption))))) Hz.out Ht.out H1.out H2.out H3.out (Hvk.out.below (by (repeat (with_reducible first | exact Below.refl _ _ | assumption | refine ba ?_ _ | refine bd ?_ | refine bdN ?_ _ | refine bs ?_ (by first | exact Nat.le_refl _ | (dsimp only; omega) | (simp; done)) _ | refine bt ?_ (by assumption))))) hrl).mono ?_; rintro _ w7 ⟨v7, rfl, hown7, hb7⟩; rw [← Hsp2.out]; rw [← Hsp2.out] at hown7; dsimp only at hown7 ⊢; obtain ⟨a7, c7, hv7⟩ := owns_shape hown7; subst hv7; have Hown7 := Lib.hid hown7; have Hb7 := Lib.hid (show Below wr.heap.size wr w7 by (repeat (with_reducible first | exact Below.refl _ _ | assumption | refine ba ?_ _ | refine bd ?_ | refine bdN ?_ _ | refine bs ?_ (by first | exact Nat.le_refl _ | (dsimp only; omega) | (simp; done)) _ | refine bt ?_ (by assumption)))); have Hsp7 := Lib.hid (Hsa.out.below Hb7.out); clear q0 q1 q2 g0 g1 g2 hown7 hb7; obtain ⟨q0, q1, q2, g0, g1, g2, _⟩ := Hsp7.out)
          have Hput := Lib.hid (Hsp7.out.put sk2 sf2 sr2 (.slice a7 sr2.length c7))
          have HownF := Lib.hid (owns_mono (B' := w5.heap.size + 1) Hown7.out (by first | omega | (simp; omega)))
          have HbF := Lib.hid (bt Hbel.out Hb7.out)
          clear q0 q1 q2 g0 g1 g2 hcell hA
          go_roundw
          case rel =>
            have ho := owns_set_low (owns_set_low (owns_set_low HownF.out (p := ⟨w5.heap.size, 0, none⟩) (by dsimp only; omega) (.int .i64 sk2)) (p := ⟨w5.heap.size, 1, none⟩) (by dsimp only; omega) (.int .i64 sf2)) (p := ⟨w5.heap.size, 2, none⟩) (by dsimp only; omega) (.slice a7 sr2.length c7)
            exact ⟨k + 1, ⟨sk2, sf2, sr2⟩, _, by omega, by go_num, Hcs.out.symm, Hput.out, IntsIn.of_owns ho, fun _ => ho, bs (bs (bs HbF.out (Nat.le_refl _) _) (Nat.le_refl _) _) (Nat.le_refl _) _⟩
          case measure => simp [intOf]; omega
      · have hk2 : (sk == 2) = false := by rw [beq_eq_false_iff_ne]; exact fun e => hkk (.inl e)
        have hk3 : (sk == 3) = false := by rw [beq_eq_false_iff_ne]; exact fun e => hkk (.inr e)
        have hn2 : (sk != 2) = true := by rw [bne, hk2]; rfl
        have hn3 : (sk != 3) = true := by rw [bne, hk3]; rfl
        have h0k : 0 < k := Nat.pos_of_ne_zero (fun e => by
          subst e
          have := HspE.out
          simp only [List.take_zero, partsGo_nil, Spc.mk.injEq] at this
          exact hkk (.inr this.1))
        have Hno := Lib.hid (show byParts fs path s = noSpc by
          rw [Hv.out]
          exact Hend.out k (by rw [← Has.out]; omega) h0k (by rw [← Has.out, ← HspE.out]; exact fun e => hkk (.inl e)) (by rw [← Has.out, ← HspE.out]; exact fun e => hkk (.inr e)))
        have c0 : wr.cell? ⟨w.heap.size + 1, 0, none⟩ = some (.int .i64 0) := Hx.out.cell 0
        have c1 : wr.cell? ⟨w.heap.size + 1, 1, none⟩ = some (.int .i64 0) := Hx.out.cell 1
        have c2 : wr.cell? ⟨w.heap.size + 1, 2, none⟩ = some (.slice none 0 0) := Hx.out.cell 2
        have f0 := Hx.out.two.free2 0
        have f1 := Hx.out.two.free2 1
        have f2 := Hx.out.two.free2 2
        clear hkk hA
        go_wp2_with (go_at_call 81; refine (spec_noSpec _).mono ?_; rintro _ w7 ⟨v7, rfl, hown7, hb7⟩; dsimp only [noSpc] at hown7 ⊢; obtain ⟨a7, c7, hv7⟩ := owns_shape (n := 0) hown7; subst hv7; have Hown7 := Lib.hid hown7; have Hx7 := Lib.hid (Hx.out.step hb7); clear c0 c1 c2 f0 f1 f2 hb7 hown7 q0 q1 q2 g0 g1 g2; have c0 : w7.cell? ⟨w.heap.size + 1, 0, none⟩ = some (.int .i64 0) := Hx7.out.cell 0; have c1 : w7.cell? ⟨w.heap.size + 1, 1, none⟩ = some (.int .i64 0) := Hx7.out.cell 1; have c2 : w7.cell? ⟨w.heap.size + 1, 2, none⟩ = some (.slice none 0 0) := Hx7.out.cell 2; have f0 := Hx7.out.two.free2 0; have f1 := Hx7.out.two.free2 1; have f2 := Hx7.out.two.free2 2; have s7 := Hx7.out.lt)
        refine bodyPost_ret (v := .agg #[.int .i64 0, .int .i64 (-1), .slice a7 0 c7]) (by simp [results, Try.results87, go_sem, *]) rfl ?_
        rw [Hno.out]
        have hbw := Hx7.out.below
        refine ⟨_, rfl, ?_, by (repeat (with_reducible first | exact Below.refl _ _ | assumption | refine ba ?_ _ | refine bd ?_ | refine bdN ?_ _ | refine bs ?_ (by first | exact Nat.le_refl _ | (dsimp only; omega) | (simp; done)) _ | refine bt ?_ (by assumption)))⟩
        refine owns_mono (B := w.heap.size + 2) ?_ (by omega)
        (repeat (with_reducible first | refine World.ownsRow.alloc ?_ _ | refine owns_set_low ?_ (by first | (dsimp only; omega) | (simp; done) | (simp; omega)) _))
        exact owns_mono Hown7.out (by omega)
    · obtain rfl : k = ns.length := by omega
      have He := Lib.hid (show (⟨sk, sf, sr⟩ : Spc) = byParts fs path s by rw [Hv.out, ← Has.out, HspE.out, ← hal, List.take_length])
      have Hown := Lib.hid (Hvo.out (by omega))
      have c0 : wr.cell? ⟨w.heap.size + 1, 0, none⟩ = some (.int .i64 0) := Hx.out.cell 0
      have c1 : wr.cell? ⟨w.heap.size + 1, 1, none⟩ = some (.int .i64 0) := Hx.out.cell 1
      have c2 : wr.cell? ⟨w.heap.size + 1, 2, none⟩ = some (.slice none 0 0) := Hx.out.cell 2
      have f0 := Hx.out.two.free2 0
      have f1 := Hx.out.two.free2 1
      have f2 := Hx.out.two.free2 2
      clear hA
      go_wp2_with fail
      refine bodyPost_ret (v := .agg #[.int .i64 sk, .int .i64 sf, .slice va sr.length vc]) (by simp [results, Try.results87, go_sem, *]) rfl ?_
      rw [← He.out]
      have hbw := Hx.out.below
      refine ⟨_, rfl, ?_, by (repeat (with_reducible first | exact Below.refl _ _ | assumption | refine ba ?_ _ | refine bd ?_ | refine bdN ?_ _ | refine bs ?_ (by first | exact Nat.le_refl _ | (dsimp only; omega) | (simp; done)) _ | refine bt ?_ (by assumption)))⟩
      refine owns_mono (B := w.heap.size + 2) ?_ (by omega)
      (repeat (with_reducible first | refine World.ownsRow.alloc ?_ _ | refine owns_set_low ?_ (by first | (dsimp only; omega) | (simp; done) | (simp; omega)) _))
      exact owns_mono Hown.out (by omega)
end Go.Proofs.Ytolhgklbkjdpiaa
