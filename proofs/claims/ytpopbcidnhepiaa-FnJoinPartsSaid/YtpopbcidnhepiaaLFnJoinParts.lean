/- FnJoinParts returns true for every code. -/
import Derived.Test.YtpopbcidnhepiaaUnder
import Derived.Test.YtpopbcidnhepiaaPlain2
import Derived.Test.YtpopbcidnhepiaaDraws
import Derived.Test.YtpopbcidnhepiaaFrame
import Derived.Test.YtpopbcidnhepiaaDrawJoin
import Derived.Deep.RegionHeld3
set_option linter.unusedVariables false
set_option linter.unusedSimpArgs false
namespace Go.Proofs.Ytpopbcidnhepiaa.FnJoinParts
open Go.ChangeShapes Go.WideShapes Go.ChangeAt Go.RowKit Go.Proofs.Ytpopbcidnhepiaa.Nm

theorem keep0 {w : World} {a : Addr} {v : Value} (h : w.cell? a = some v) : w.drew.cell? a = some v ∧ Below w.heap.size w w.drew := ⟨h, (Below.refl _ _).drew⟩
theorem keep1 {w0 W W' : World} {a : Addr} {v : Value} (hl : a.block < w0.heap.size) (hS : W.cell? a = some v ∧ Below w0.heap.size w0 W) (hb : Below W.heap.size W W') : W'.cell? a = some v ∧ Below w0.heap.size w0 W' :=
  ⟨(hb.cell (Nat.lt_of_lt_of_le hl hS.2.size)).trans hS.1, bt hS.2 hb⟩

set_option maxRecDepth 100000 in
set_option maxHeartbeats 1000000 in
theorem walk (a : Option Addr) (n cap : Nat) (w : World) (hc : Code w w.heap.size a n cap) :
    Calls Try.prog 6 #[.slice a n cap] w fun e w' => e = .returned (.bool true) ∧ Below w.heap.size w w' := by
  by_cases hn : (1048576 : Int) < (n : Int)
  · go_enter Try.func6, Try.ntmps6
    go_wp2_with fail
    go_ret
    exact ⟨rfl, Below.refl _ _⟩
  · have Hc := Lib.hid hc
    clear hc
    go_enter Try.func6, Try.ntmps6
    go_wp2_with fail
    refine (spec_DrawJoinParts a n cap w Hc.out).mono ?_
    rintro e w1 ⟨v, xs, rfl, hown, hx4, hp4, hb⟩
    go_wp2_with fail
    have hz : ∀ p ∈ xs, p.length ≤ 9000000 := fun p hp => by have := hp4 p hp; omega
    have hjl := join_len_le xs 4 hp4
    have hjl2 : xs.length * (4 + 1) ≤ 20 := by omega
    have Hz := Lib.hid hz
    have Hjl := Lib.hid (Nat.le_trans hjl hjl2)
    have Hr1 := Lib.hid (Reads.of_owns hown)
    clear hz hjl hjl2 hp4
    cases hv : vps xs
    · have Hj := Lib.hid (show joinParts xs = [] by simp [joinParts, hv])
      obtain ⟨a', cap', rfl⟩ := owns_shape hown
      clear hv hown
      refine (impl_JoinParts _ xs w1 Hr1.out Hz.out).mono ?_
      rintro e w2 ⟨rfl, hb2⟩
      rw [Hj.out]
      go_wp2_with fail
      refine (spec_JoinParts _ xs w2 (Reads.below Hr1.out hb2) (by omega) (by have := Hjl.out; omega)).mono ?_
      rintro e w3 ⟨rfl, hb3⟩
      rw [Hj.out]
      go_wp2_with fail
      refine (spec_JoinParts _ xs w3 (Reads.below (Reads.below Hr1.out hb2) hb3) (by omega) (by have := Hjl.out; omega)).mono ?_
      rintro e w4 ⟨rfl, hb4⟩
      rw [Hj.out]
      go_wp2_with fail
      go_ret
      exact ⟨rfl, bt (bt (bt hb hb2) hb3) hb4⟩
    · have hpos := (vps_iff.1 hv).1
      have hvn := vn_join hv
      have hsp := split_of_vps hv
      have Hj := Lib.hid (show joinParts xs = join xs by simp [joinParts, hv])
      have hne : (join xs).isEmpty = false := by simpa using vn_ne hvn
      have Hpa := Lib.hid (show parts (join xs) = xs by rw [parts_of hvn, hsp])
      have hla : ∀ (h : xs.length - 1 < xs.length), xs[xs.length - 1] = lastOf (join xs) := fun h => by
        have hx : xs ≠ [] := by rintro rfl; simp at hpos
        have e1 : lastOf (join xs) = last (join xs) := by simp [lastOf, hvn]
        have e2 : last (join xs) = xs.getLast hx := by unfold last; simp only [hsp]
        rw [e1, e2, List.getLast_eq_getElem hx]
      have Hla := Lib.hid hla
      have hl11 := join_len hv
      obtain ⟨b, off, cap', rfl, hl1, hm1, hbl, hc1⟩ := Reads.some (Reads.of_owns hown) hpos.1
      have Hc1 := Lib.hid hc1
      have Hjl2 := Lib.hid (show (join xs).length ≤ 8000000 by have := Hjl.out; omega)
      clear hv hvn hsp hown hla hc1 hm1
      refine (impl_JoinParts _ xs w1 Hr1.out Hz.out).mono ?_
      rintro e w2 ⟨rfl, hb2⟩
      rw [Hj.out]
      have hcell2 : w2.cell? ⟨b, off + (xs.length - 1), none⟩ = some (.string (mk (lastOf (join xs)))) := by
        rw [hb2.cell (p := ⟨b, off + (xs.length - 1), none⟩) hbl, Hc1.out _ (by omega), Hla.out (by omega)]
      have Hcell2 := Lib.hid hcell2
      obtain ⟨j, hj⟩ : ∃ j, j = join xs := ⟨_, rfl⟩
      rw [← hj] at Hj hne Hpa Hla hl11 Hcell2
      rw [← hj]
      clear hj hcell2 Hla
      have hbl2 : b < w2.heap.size := Nat.lt_of_lt_of_le hbl hb2.size
      go_wp2_with fail
      refine (spec_JoinParts _ xs w2 (Reads.below Hr1.out hb2) (by omega) Hjl2.out).mono ?_
      rintro e w3 ⟨rfl, hb3⟩
      rw [Hj.out]
      go_wp2_with fail
      have hcell3 : w3.cell? ⟨b, off + (xs.length - 1), none⟩ = some (.string (mk (lastOf j))) := by
        rw [hb3.cell (p := ⟨b, off + (xs.length - 1), none⟩) hbl2]; exact Hcell2.out
      have hbel3 := bt hb2 hb3
      have hr3 := Lib.hid (Reads.below Hr1.out hbel3)
      have hb03 := Lib.hid (bt hb hbel3)
      have hbl3 : b < w3.heap.size := Nat.lt_of_lt_of_le hbl hbel3.size
      have hi2 : (1 : Int) ≤ (xs.length : Int) := by omega
      have hi3 : (0 : Int) < (xs.length : Int) := by omega
      have hi4 : 0 < xs.length := by omega
      have hi0 : (0 : Int) ≤ (xs.length : Int) - 1 := by omega
      have hi1 : (xs.length : Int) - 1 < (xs.length : Int) := by omega
      have hwr : IntKind.i64.wrap ((xs.length : Int) - 1) = (xs.length : Int) - 1 := IntWalk.i64_in _ (by omega)
      have hto : ((xs.length : Int) - 1).toNat = xs.length - 1 := by omega
      have hj11 : j.length ≤ 8000000 := by omega
      obtain ⟨hpos1, hpos3⟩ := hpos
      clear hb hb2 hb3 hbel3 hbl hbl2 Hc1 Hcell2 Hjl Hjl2 Hr1 Hz
      have hxl : xs.length ≤ 9500000 := by omega
      obtain ⟨q, hq⟩ : ∃ q, q = lastOf j := ⟨_, rfl⟩
      have Hq := Lib.hid hq.symm
      rw [← hq] at hcell3
      clear hq
      go_region_held3 (fun w' => w'.cell? ⟨b, off + (xs.length - 1), none⟩ = some (.string (mk q)) ∧ Below w3.heap.size w3 w')
        (first | exact keep0 hcell3 | exact keep1 hbl3 (by assumption) (by assumption) | exact keep1 hbl3 ⟨by assumption, by assumption⟩ (by assumption))
        (first
          | (go_at_call 13; refine (impl_PartsOf j _ hj11).mono ?_; rintro e w4 ⟨v4, rfl, hown4, hb4⟩; rw [Hpa.out] at hown4; have hr4 := Reads.of_owns hown4; clear hown4)
          | (go_at_call 20; refine (laws_equalTexts _ _ xs xs _ (by exact hr4) (by first | exact Reads.below hr3.out (by assumption) | exact Reads.below hr3.out (And.right (by assumption))) hxl hxl).mono ?_; rintro e w5 ⟨rfl, hb5⟩; rw [decide_eq_true rfl])
          | (go_at_call 18; refine (impl_LastOf j _ hj11).mono ?_; rintro e w6 ⟨rfl, hb6⟩; rw [Hq.out]))
      go_wp2_with fail
      go_ret
      exact ⟨rfl, bt hb03.out (bt (bt (bt ((Below.refl _ w3).drew) hb4) hb5) hb6)⟩

/-! ### THE STEP TO THE ROW -/
set_option maxRecDepth 100000 in
theorem lifted (os : Os) (started : os.Started) (H : Type) (enc : TypeId × Value → H) :
    ReturnsInHanded {} Try.checked os 6 .any (Rows.fnJoinPartsSpec.pre6 enc Try.prog Try.f6 Rows.fnJoinPartsRow.domain false) (Rows.fnJoinPartsSpec.post enc Try.prog Try.f6 false true false false) := by
  refine returnsInHanded_of_change (C := Try.checked) own started (by kernel_rfl) Try.func6
    (ChangeSpec.witness6 (enc := enc) (C := Try.checked) false ⟨#[], #[.slice none 0 0], []⟩ 8 (by kernel_rfl) (by kernel_rfl) (by kernel_rfl) (by kernel_rfl)) ?_
  intro W base args ds gs before hval0 hW hcnd _
  have hval : ∀ (j : Nat) t v, Try.f6.params[j]? = some t → args[j]? = some v → Value.okWide Try.prog W .any base t v := hval0
  have hW' := hW
  obtain ⟨p, q, hA0, hV, rfl, hfz, hnd⟩ := hW
  have hA : DataW.TrodAll enc Try.prog W 0 (fun _ => true) true Try.f6.params.toList args.toList ds p := hA0
  rw [Try.params6] at hA hval
  obtain ⟨v0, vs0, d0, ds0, p0, q0, hargs, rfl, rfl, h0, r0⟩ := trodAll_cons hA
  obtain ⟨rfl, rfl, rfl⟩ := trodAll_nil r0
  obtain rfl : args = #[v0] := by cases args; simp_all
  obtain ⟨rfl, rfl⟩ := trodVars_none hV
  obtain ⟨a0, len0, cap0, rfl⟩ := okWide_slice Try.underlying22 (hval 0 22 v0 rfl rfl)
  have k0 := h0
  have lt0 : ∀ x ∈ p0, x.block < W.heap.size := by obtain ⟨m, hm⟩ := k0; exact DataW.trod_lt m _ _ _ hm
  have w0 : Code W W.heap.size a0 len0 cap0 := by
    obtain ⟨fuel, hf⟩ := h0
    rcases open_ints Try.underlying22 Try.underlying5 (by kernel_rfl) hf with ⟨hcs, _⟩ | ⟨x, l, c, zs, hcs, _, hl, hm, hz, _, hcell, hwz⟩
    · simp [Value.cells] at hcs
      obtain ⟨rfl, rfl, rfl⟩ := hcs
      exact .inl ⟨rfl, by unfold maxLen; omega⟩
    · simp [Value.cells] at hcs
      obtain ⟨rfl, rfl, rfl⟩ := hcs
      exact code_row W _ _ _ zs hl hm (by simpa using hz) hcell hwz
  clear hA0 hval0
  refine (walk a0 len0 cap0 W w0).mono fun e W' ⟨he, bel⟩ => ?_
  subst he
  exact ⟨_, rfl, _, _, _, [], _, [], hW', trodAll_mk1 (shut_bool Try.underlying4 _), (trodAll_cons_mk (Below.trod laidOut (by kernel_rfl) (of_decide_eq_true (by kernel_rfl)) k0 bel lt0) trodAll_mk0), rfl, bel.frame _, fun h => by cases h⟩

theorem over : Rows.fnJoinPartsRow.holds Try.pinned (OpenSpec.ofChange Rows.fnJoinPartsSpec) :=
  OpenClaim.holds_of_wide 6 Try.f6 rfl rfl rfl rfl rfl rfl rfl ⟨rfl, rfl, rfl, rfl, rfl⟩ rfl rfl rfl rfl rfl (by kernel_rfl) Try.func6 (by kernel_rfl)
    (of_decide_eq_true (by kernel_rfl)) (by unfold Func.isWrapper; first | (rw [if_pos (by decide +kernel)]; kernel_rfl) | (rw [if_neg (by decide +kernel)]; exact ⟨rfl, rfl⟩))
    (fun os started H enc _ => lifted os started H enc)

/-- THE STATEMENT -/
theorem proved : Rows.FnJoinPartsSaid := over
end Go.Proofs.Ytpopbcidnhepiaa.FnJoinParts
