/- The reference's graph of modules: contracts. -/
import Derived.Test.YtcmnldomcpjlcaaGreatGraph
import Derived.Test.YtcmnldomcpjlcaaGreatSFind
import Derived.Test.YtcmnldomcpjlcaaGreatSorts
import Derived.Deep.RegionHeld3
import Derived.Deep.DeepCutAuto
import Derived.Deep.CutBlock
import Derived.Test.YtcmnldomcpjlcaaGreatPlainN
import Derived.Test.YtcmnldomcpjlcaaGreatSNames
set_option linter.unusedVariables false
set_option linter.unusedSimpArgs false
namespace Go.Proofs.YtcmnldomcpjlcaaGreat
open Go.RowKit Go.Proofs.YtcmnldomcpjlcaaGreat.Nm

/-- The name that a statement of a body speaks of, unchecked. -/
def rawBy (p : Bs) (s : Stm) : Bs := if s.kind = 0 ∨ s.kind = 2 then s.module else if s.kind = 1 then resolve0 p s.level s.module else []
theorem okStm_raw {p : Bs} {s : Stm} (hv : vpk p = true) (h : okStm s = true) : needBy p s = nameOr (rawBy p s) ∧ (rawBy p s).length ≤ 30 ∧ (s.kind = 1 → vpk s.module = true ∧ 0 ≤ s.level ∧ s.level ≤ 4) := by
  unfold okStm at h
  unfold needBy rawBy
  split at h
  · rename_i e
    simp only [Bool.and_eq_true] at h
    have hm := h.1.1.1
    have := vn_len hm
    rw [if_pos (.inl e), if_pos (.inl e), nameOr_yes hm]
    exact ⟨rfl, by omega, fun h => by omega⟩
  split at h
  · rename_i e0 e
    simp only [Bool.and_eq_true] at h
    have h1 := h.1.1
    unfold okSrc at h1
    simp only [Bool.and_eq_true, decide_eq_true_eq] at h1
    have h2 : 0 ≤ s.level ∧ s.level ≤ 3 := by have := h1.1.1; simpa [inr] using this
    have e1 : ¬ (s.kind = 0 ∨ s.kind = 2) := by omega
    rw [if_neg e1, if_neg e1, if_pos e, if_pos e]
    exact ⟨resolved_eq hv h1.1.2 (by omega) (by omega), resolve0_len hv h1.1.2 _, fun _ => ⟨h1.1.2, by omega, by omega⟩⟩
  split at h
  · rename_i _ _ e
    simp only [Bool.and_eq_true] at h
    have hm := h.1.1.1
    have := vn_len hm
    rw [if_pos (.inr e), if_pos (.inr e), nameOr_yes hm]
    exact ⟨rfl, by omega, fun h => by omega⟩
  all_goals
    have e1 : ¬ (s.kind = 0 ∨ s.kind = 2) := by omega
    have e2 : ¬ s.kind = 1 := by omega
    rw [if_neg e1, if_neg e1, if_neg e2, if_neg e2]
    exact ⟨by decide, by simp, fun h => absurd h e2⟩
theorem addNeed_raw {p : Bs} {s : Stm} {xs : List Bs} (hr : needBy p s = nameOr (rawBy p s)) : addNeed p xs s = if vn (rawBy p s) = true ∧ rawBy p s ∉ xs then xs ++ [rawBy p s] else xs := by
  unfold addNeed
  rw [hr]
  by_cases h : vn (rawBy p s) = true
  · rw [nameOr_yes h, if_neg (vn_ne h)]
    unfold addOne
    by_cases hm : rawBy p s ∈ xs
    · rw [if_pos hm, if_neg (fun h => h.2 hm)]
    · rw [if_neg hm, if_pos ⟨h, hm⟩]
  · rw [show nameOr (rawBy p s) = [] by unfold nameOr; rw [if_neg h], if_pos rfl, if_neg (fun h' => h h'.1)]
theorem fileFor_cases (fs : List Fil) (path : List Int) (s : Bs) : ((findSpec fs path s).file < 0 ∧ needsOf fs path s = []) ∨ (∃ (k : Nat) (hk : k < fs.length), (findSpec fs path s).file = (k : Int) ∧ needsOf fs path s = bodyNeeds (if (findSpec fs path s).kind = 1 then parent s else s) fs[k].body ∧ okBody fs[k].body = true ∧ vpk (if (findSpec fs path s).kind = 1 then parent s else s) = true ∧ vn s = true) := by
  cases e : fileFor fs path s with
  | none =>
    left
    have hko := (findSpec_ok fs path s).file
    by_cases h : (findSpec fs path s).file < 0
    · exact ⟨h, needsOf_no h⟩
    · exfalso
      unfold fileFor at e
      rw [if_neg h, List.getElem?_eq_none_iff] at e
      omega
  | some f =>
    right
    obtain ⟨h1, h2, h3, h4, h5, h6, k, hk, h7, h8⟩ := fileFor_facts e
    refine ⟨k, hk, h7, ?_, ?_, ?_, h4⟩
    · unfold needsOf; rw [e]; dsimp only; rw [h6, h8]
    · rw [h8]; exact okFil_body h2
    · rw [← h6]; exact okFil_pack h2
theorem has_snoc {ns xs : List Bs} {r : Bs} {c : Prop} [Decidable c] (h : xs = if c then ns ++ [r] else ns) (hc : c) : xs = ns ++ [r] := by rw [h, if_pos hc]
set_option maxRecDepth 100000 in
set_option maxHeartbeats 8000000 in
theorem spec_needs (v : Value) (fs : List Fil) (D : Nat → Prop) (pv : Value) (path : List Int) (s : Bs) (rv : Value) (w : World) (hr : FilsIn w D v fs) (hs : s.length ≤ 8000000) :
    Calls Tryz.prog 160 #[.agg #[v], pv, .string (mk s), .agg #[.int .i64 (findSpec fs path s).kind, .int .i64 (findSpec fs path s).file, rv]] w (NewStrs 9 (needsOf fs path s) w) := by
  obtain ⟨i0, hi, hz0, hz1, hz2⟩ := info_parts infoS
  have Hi := Lib.hid hi
  have Hz0 := Lib.hid hz0
  have Hz1 := Lib.hid hz1
  have Hz2 := Lib.hid hz2
  have Hr := Lib.hid hr
  obtain ⟨aa, ca, rfl, hl, hm⟩ := hr.len
  clear hr hi hz0 hz1 hz2
  have Hc := Lib.hid (fileFor_cases fs path s)
  obtain ⟨kd, hkd⟩ : ∃ x, x = (findSpec fs path s).kind := ⟨_, rfl⟩
  obtain ⟨fl, hfl⟩ : ∃ x, x = (findSpec fs path s).file := ⟨_, rfl⟩
  rw [← hkd, ← hfl] at Hc ⊢
  clear hkd hfl
  rcases Hc.out with ⟨hneg, hno⟩ | ⟨k0, hk0, rfl, hneed, hbody, hvk, hvs⟩
  · have Hno := Lib.hid hno
    have hlt : (decide (fl < 0)) = true := decide_eq_true hneg
    clear Hc hno
    go_enter Tryz.func160, Tryz.ntmps160
    go_wp2_with fail
    go_ret
    rw [Hno.out]
    refine ⟨_, rfl, ?_, by (repeat (with_reducible first | exact Below.refl _ _ | assumption | refine ba ?_ _ | refine bd ?_ | refine bdN ?_ _ | refine bs ?_ (by first | exact Nat.le_refl _ | (dsimp only; omega) | (simp; done)) _ | refine bt ?_ (by assumption)))⟩
    have h := World.ownsRow_lit (size := 1) (base := w.heap.size) (e := 9) ((w.alloc (.cells #[.slice aa fs.length ca] 31)).alloc (.cells #[.int .i64 kd, .int .i64 fl, rv] 63)) #[] 0 (by simp; omega) (by unfold maxLen; omega) rfl
    simpa using h
  · have Hneed := Lib.hid hneed
    have Hbody := Lib.hid hbody
    have Hvk := Lib.hid hvk
    have hpl := vpk_len hvk
    have h0k : (0 : Int) ≤ (k0 : Int) := by omega
    have hkk : (k0 : Int) < (fs.length : Int) := by omega
    obtain ⟨b, off, cap, bv, e, _, hb, hst, _, _, _, _, _, c5⟩ := Hr.out.at_ hk0
    simp only [Value.slice.injEq] at e
    obtain ⟨rfl, hnn, rfl⟩ := e
    have Hst := Lib.hid hst
    obtain ⟨sa, sc, rfl, _, _⟩ := hst.len
    have hb8 := okBody_len hbody
    obtain ⟨pk, hpk⟩ : ∃ x, x = (if kd = 1 then parent s else s) := ⟨_, rfl⟩
    rw [← hpk] at Hneed Hvk hpl
    clear Hc hneed hbody hvk hst hnn hl hm
    generalize fs[k0].body = fb at *
    have Hpk := Lib.hid hpk
    clear hpk
    go_enter Tryz.func160, Tryz.ntmps160
    go_upto_if 22 with fail
    obtain ⟨W3, hW3⟩ : ∃ x, x = ((w.alloc (.cells #[.slice (some ⟨b, off, none⟩) fs.length ca] 31)).alloc (.cells #[.int .i64 kd, .int .i64 k0, rv] 63)).alloc (.cells #[] 9) := ⟨_, rfl⟩
    rw [← hW3]
    have HT3 := Lib.hid (show HB W3 w.heap.size 31 #[.slice (some ⟨b, off, none⟩) fs.length ca] by rw [hW3]; exact ((HB.new _ _ _).alloc _).alloc _)
    have HP3 := Lib.hid (show HB W3 (w.heap.size + 1) 63 #[.int .i64 kd, .int .i64 k0, rv] by rw [hW3]; have h := (HB.new (w.alloc (.cells #[.slice (some ⟨b, off, none⟩) fs.length ca] 31)) #[.int .i64 kd, .int .i64 k0, rv] 63).alloc (.cells #[] 9); simpa using h)
    have Hb3 := Lib.hid (show Below w.heap.size w W3 by rw [hW3]; exact ba (ba (ba (Below.refl _ _) _) _) _)
    have HE3 := Lib.hid (show W3.ownsRow w.heap.size 9 1 (.slice (some ⟨w.heap.size + 1 + 1, 0, none⟩) 0 0) 0 [] by
      rw [hW3]
      have h := World.ownsRow_lit (size := 1) (base := w.heap.size) (e := 9) ((w.alloc (.cells #[.slice (some ⟨b, off, none⟩) fs.length ca] 31)).alloc (.cells #[.int .i64 kd, .int .i64 k0, rv] 63)) #[] 0 (by simp; omega) (by unfold maxLen; omega) rfl
      simpa using h)
    clear hW3
    go_cut [10] (fun s10 wx => s10 = .string (mk pk) ∧ Below W3.heap.size W3 wx)
    case first =>
      by_cases hk1 : kd = 1
      · have Hpar := Lib.hid (show pk = parent s by rw [Hpk.out, if_pos hk1])
        have hkb : (kd == (1 : Int)) = true := by simp [hk1]
        clear hk1
        go_wp2_with (go_at_call 121; refine (spec_parent s _ hs).mono ?_; rintro _ w4 ⟨rfl, hb4⟩; rw [← Hpar.out]; have Hb4 := Lib.hid hb4; clear hb4)
        go_meet
        case rel => exact ⟨rfl, Hb4.out⟩
      · have Hpar := Lib.hid (show pk = s by rw [Hpk.out, if_neg hk1])
        have hkb : (kd == (1 : Int)) = false := by simp [hk1]
        clear hk1
        go_wp2_with fail
        go_meet
        case rel => exact ⟨by rw [Hpar.out], Below.refl _ _⟩
    case rest =>
      obtain ⟨rfl, hb4⟩ := hcut
      have Hb4 := Lib.hid hb4
      have x0 := (HT3.out.step hb4).cell 0
      have x1 := (HP3.out.step hb4).cell 1
      have l0 := (HT3.out.step hb4).lt
      have l1 := (HP3.out.step hb4).lt
      have Hbc := Lib.hid (Hb3.out.trans (hb4.mono Hb3.out.size))
      have d5 := (Hbc.out.cell (p := ⟨b, off + k0 * 6 + 5, none⟩) hb).trans c5
      clear hb4 c5
      have HEc := Lib.hid (owns_below HE3.out Hb4.out)
      go_wp2_with fail
      go_loopw [9, 12] (fun nv kv wr => ∃ (k : Nat), k ≤ fb.length ∧ kv = .int .i64 k ∧ wr.ownsRow w.heap.size 9 1 nv (bodyNeeds pk (fb.take k)).length ((bodyNeeds pk (fb.take k)).map sv) ∧ Below w.heap.size w wr) (fun _ kv _ => fb.length - (intOf kv).toNat)
      case atStart => exact ⟨0, by omega, rfl, HEc.out, Hbc.out⟩
      case round =>
        obtain ⟨k, hk, rfl, hown, hbel⟩ := hrel
        obtain ⟨na, nc, rfl⟩ := owns_shape hown
        have Hown := Lib.hid hown
        have Hbel := Lib.hid hbel
        clear hown hbel x0 x1 l0 l1 d5
        by_cases hlt : k < fb.length
        · have hn8 := (bodyNeeds_part (p := pk) Hbody.out k).2
          obtain ⟨b1, off1, cap1, e1, hD1, hb1, g0, g1, g2, g3, g4⟩ := Hst.out.at_ hlt
          simp only [Value.slice.injEq] at e1
          obtain ⟨rfl, hnn, rfl⟩ := e1
          clear hnn
          have hos := okBody_at Hbody.out (List.getElem_mem hlt)
          have hml := okStm_len hos
          obtain ⟨hraw, hrl, hk1⟩ := okStm_raw Hvk.out hos
          have Hm := Lib.hid ((addNeed_snoc pk fb k hlt).trans (addNeed_raw hraw))
          have Hk1 := Lib.hid hk1
          have d0 := (Hbel.out.cell (p := ⟨b1, off1 + k * 5, none⟩) hb1).trans g0
          have d1 := (Hbel.out.cell (p := ⟨b1, off1 + k * 5 + 1, none⟩) hb1).trans g1
          have d2 := (Hbel.out.cell (p := ⟨b1, off1 + k * 5 + 2, none⟩) hb1).trans g2
          have hbz := Nat.lt_of_lt_of_le hb1 Hbel.out.size
          clear g0 g1 g2 g3 g4 hos hraw hk1
          obtain ⟨st, hst⟩ : ∃ st, st = fb[k] := ⟨_, rfl⟩
          rw [← hst] at d0 d1 d2 Hm hml Hk1 hrl
          clear hst
          obtain ⟨sk, sm, sl, sn, sx⟩ := st
          dsimp only at d0 d1 d2 hml Hk1
          have Hrw := Lib.hid (show rawBy pk ⟨sk, sm, sl, sn, sx⟩ = if sk = 0 ∨ sk = 2 then sm else if sk = 1 then resolve0 pk sl sm else [] from rfl)
          generalize bodyNeeds pk (fb.take k) = ns at *
          generalize rawBy pk ⟨sk, sm, sl, sn, sx⟩ = raw at *
          have hklt : (k : Int) < (fb.length : Int) := by omega
          have hk0' : (0 : Int) ≤ (k : Int) := by omega
          go_upto_block 2 with fail
          go_cut [13] (fun s13 wx => s13 = .string (mk raw) ∧ Below wr.heap.size wr wx)
          case first =>
            by_cases h0 : sk = 0
            · have Hr0 := Lib.hid (show raw = sm by rw [Hrw.out, if_pos (.inl h0)])
              subst h0
              go_wp2_with fail
              go_meet
              case rel => exact ⟨by rw [Hr0.out], Below.refl _ _⟩
            by_cases h2 : sk = 2
            · have Hr0 := Lib.hid (show raw = sm by rw [Hrw.out, if_pos (.inr h2)])
              subst h2
              clear h0
              go_wp2_with fail
              go_meet
              case rel => exact ⟨by rw [Hr0.out], Below.refl _ _⟩
            by_cases h1 : sk = 1
            · have Hr0 := Lib.hid (show raw = resolve0 pk sl sm by rw [Hrw.out, if_neg (by omega), if_pos h1])
              have Hk1' := Lib.hid (Hk1.out h1)
              subst h1
              clear h0 h2
              have Hkp := Lib.hid (fun (w' : World) (hC : Below wr.heap.size wr w') => (⟨(hC.cell (p := ⟨b1, off1 + k * 5 + 1, none⟩) hbz).trans d1, (hC.cell (p := ⟨b1, off1 + k * 5 + 2, none⟩) hbz).trans d2, hC⟩ : w'.cell? ⟨b1, off1 + k * 5 + 1, none⟩ = some (.string (mk sm)) ∧ w'.cell? ⟨b1, off1 + k * 5 + 2, none⟩ = some (.int .i64 sl) ∧ Below wr.heap.size wr w'))
              go_upto_region 17 with fail
              go_region_held3 (fun w' => w'.cell? ⟨b1, off1 + k * 5 + 1, none⟩ = some (.string (mk sm)) ∧ w'.cell? ⟨b1, off1 + k * 5 + 2, none⟩ = some (.int .i64 sl) ∧ Below wr.heap.size wr w')
                (exact Hkp.out _ (by (repeat (with_reducible first | exact Below.refl _ _ | assumption | refine ba ?_ _ | refine bd ?_ | refine bdN ?_ _ | refine bs ?_ (by first | exact Nat.le_refl _ | (dsimp only; omega) | (simp; done)) _ | refine bt ?_ (by assumption)))))
                (first
                  | (go_at_call 178; refine (spec_resolve pk sm sl _ Hvk.out Hk1'.out.1 Hk1'.out.2.1 Hk1'.out.2.2).mono ?_; rintro _ w5 ⟨rfl, hb5⟩; rw [← Hr0.out]))
              all_goals
                have Hb5 := Lib.hid (show Below wr.heap.size wr w5 by (repeat (with_reducible first | exact Below.refl _ _ | assumption | refine ba ?_ _ | refine bd ?_ | refine bdN ?_ _ | refine bs ?_ (by first | exact Nat.le_refl _ | (dsimp only; omega) | (simp; done)) _ | refine bt ?_ (by assumption))))
                go_wp2_with fail
                go_meet
                exact ⟨rfl, Hb5.out⟩
            · have Hr0 := Lib.hid (show raw = [] by rw [Hrw.out, if_neg (by omega), if_neg h1])
              have b0 : (sk == (0 : Int)) = false := by simp [h0]
              have b1 : (sk == (1 : Int)) = false := by simp [h1]
              have b2 : (sk == (2 : Int)) = false := by simp [h2]
              clear h0 h1 h2
              go_wp2_with fail
              go_meet
              case rel => exact ⟨by rw [Hr0.out]; rfl, Below.refl _ _⟩
          case rest =>
            obtain ⟨rfl, hb4⟩ := hcut
            have Hb4 := Lib.hid hb4
            have Hown4 := Lib.hid (owns_below Hown.out hb4)
            have Hbel4 := Lib.hid (Hbel.out.trans (hb4.mono Hbel.out.size))
            clear hb4 d0 d1 d2
            cases hv : vn raw
            · have Hv := Lib.hid hv
              have Hm2 := Lib.hid (show bodyNeeds pk (fb.take (k + 1)) = ns by rw [Hm.out, if_neg (by simp [hv])])
              clear hv
              go_wp2_with (go_at_call 63; refine (spec_validName raw _ (by omega)).mono ?_; rintro _ w6 ⟨rfl, hb6⟩; rw [Hv.out]; have Hb6 := Lib.hid (show Below wc.heap.size wc w6 by (repeat (with_reducible first | exact Below.refl _ _ | assumption | refine ba ?_ _ | refine bd ?_ | refine bdN ?_ _ | refine bs ?_ (by first | exact Nat.le_refl _ | (dsimp only; omega) | (simp; done)) _ | refine bt ?_ (by assumption)))); clear hb6)
              go_roundw
              case rel => exact ⟨k + 1, by omega, by go_num, by rw [Hm2.out]; exact owns_below Hown4.out Hb6.out, Hbel4.out.trans (Hb6.out.mono Hbel4.out.size)⟩
              case measure => simp [intOf]; omega
            by_cases hm : raw ∈ ns
            · have Hv := Lib.hid hv
              have Hm2 := Lib.hid (show bodyNeeds pk (fb.take (k + 1)) = ns by rw [Hm.out, if_neg (by simp [hm])])
              have Hmm := Lib.hid (show decide (raw ∈ ns) = true from decide_eq_true hm)
              clear hv hm
              go_wp2_with (first
                | (go_at_call 63; refine (spec_validName raw _ (by omega)).mono ?_; rintro _ w6 ⟨rfl, hb6⟩; rw [Hv.out]; have Hb6 := Lib.hid (show Below wc.heap.size wc w6 by (repeat (with_reducible first | exact Below.refl _ _ | assumption | refine ba ?_ _ | refine bd ?_ | refine bdN ?_ _ | refine bs ?_ (by first | exact Nat.le_refl _ | (dsimp only; omega) | (simp; done)) _ | refine bt ?_ (by assumption)))); clear hb6)
                | (go_at_call 80; refine (spec_hasText _ ns raw _ (Reads.of_owns (owns_below Hown4.out Hb6.out)) (by omega)).mono ?_; rintro _ _ ⟨rfl, rfl⟩; rw [Hmm.out]))
              go_roundw
              case rel => exact ⟨k + 1, by omega, by go_num, by rw [Hm2.out]; exact owns_below Hown4.out Hb6.out, Hbel4.out.trans (Hb6.out.mono Hbel4.out.size)⟩
              case measure => simp [intOf]; omega
            · have Hv := Lib.hid hv
              have Hm2 := Lib.hid (show bodyNeeds pk (fb.take (k + 1)) = ns ++ [raw] by rw [Hm.out, if_pos ⟨hv, hm⟩])
              have Hmm := Lib.hid (show decide (raw ∈ ns) = false from decide_eq_false hm)
              clear hv hm
              go_wp2_with (first
                | (go_at_call 63; refine (spec_validName raw _ (by omega)).mono ?_; rintro _ w6 ⟨rfl, hb6⟩; rw [Hv.out]; have Hb6 := Lib.hid (show Below wc.heap.size wc w6 by (repeat (with_reducible first | exact Below.refl _ _ | assumption | refine ba ?_ _ | refine bd ?_ | refine bdN ?_ _ | refine bs ?_ (by first | exact Nat.le_refl _ | (dsimp only; omega) | (simp; done)) _ | refine bt ?_ (by assumption)))); have Hown6 := Lib.hid (owns_below Hown4.out Hb6.out); have Hbel6 := Lib.hid (Hbel4.out.trans (Hb6.out.mono Hbel4.out.size)); have hz6 := Hbel6.out.size; clear hb6)
                | (go_at_call 80; refine (spec_hasText _ ns raw _ (Reads.of_owns Hown6.out) (by omega)).mono ?_; rintro _ _ ⟨rfl, rfl⟩; rw [Hmm.out])
                | (at_builtin; refine wpList_append_own _ rfl _ _ 27 rfl w.heap.size 9 i0 (.string ByteArray.empty) 1 16 Tryz.underlying27 Hi.out Hz0.out Hz1.out Hz2.out rfl (by decide) _ ns.length _ rfl (Hown6.out.alloc _) ⟨_, 0, none⟩ 1 1 [.string (mk raw)] rfl rfl (new_one (by first | rfl | simp)) (fun x hx => by simp at hx; subst hx; rfl) (by unfold maxLen; omega) (by omega) (by simp; omega) ?_; intro v10 w10 hown10 hgrow10 hnil10))
              have Hx10 := Lib.hid ((Hbel6.out.alloc (by omega) _).grown hgrow10 (by simp; omega) (fun g hg => (Hown6.out.lt g hg).1))
              have Hown10 := Lib.hid (show w10.ownsRow w.heap.size 9 1 v10 (ns ++ [raw]).length ((ns ++ [raw]).map sv) by rw [List.length_append, List.map_append]; exact hown10)
              clear hown10 hgrow10 hnil10
              go_roundw
              case rel => exact ⟨k + 1, by omega, by go_num, by rw [Hm2.out]; exact Hown10.out, Hx10.out⟩
              case measure => simp [intOf]; omega
        · obtain rfl : k = fb.length := by omega
          rw [List.take_length] at Hown ⊢
          go_wp2_with fail
          go_ret
          refine ⟨_, rfl, ?_, Hbel.out⟩
          rw [Hneed.out]
          exact Hown.out
set_option maxRecDepth 100000 in
set_option maxHeartbeats 8000000 in
theorem spec_full (v : Value) (ns : List Bs) (w : World) (hr : Reads w v ns) (hv : ∀ x ∈ ns, vn x = true) (hl : ns.length ≤ 100) :
    Calls Tryz.prog 146 #[v] w (NewStrs 9 (full ns) w) := by
  obtain ⟨i0, hi, hz0, hz1, hz2⟩ := info_parts infoS
  have Hi := Lib.hid hi
  have Hz0 := Lib.hid hz0
  have Hz1 := Lib.hid hz1
  have Hz2 := Lib.hid hz2
  obtain ⟨aa, ca, rfl, hca, hm, _⟩ := ReadsIn.of hr
  have Hr := Lib.hid hr
  have Hv := Lib.hid hv
  clear hr hv hi hz0 hz1 hz2
  go_enter Tryz.func146, Tryz.ntmps146
  go_wp2_with fail
  obtain ⟨W3, hW3⟩ : ∃ x, x = w.alloc (.cells #[] 9) := ⟨_, rfl⟩
  rw [← hW3]
  have HE3 := Lib.hid (show W3.ownsRow w.heap.size 9 1 (.slice (some ⟨w.heap.size, 0, none⟩) 0 0) 0 [] by rw [hW3]; exact World.ownsRow_lit (size := 1) (base := w.heap.size) (e := 9) w #[] 0 (Nat.le_refl _) (by unfold maxLen; omega) rfl)
  have Hb3 := Lib.hid (show Below w.heap.size w W3 by rw [hW3]; exact ba (Below.refl _ _) _)
  clear hW3
  go_loopw [3, 4] (fun nv kv wr => ∃ (k : Nat), k ≤ ns.length ∧ kv = .int .i64 k ∧ wr.ownsRow w.heap.size 9 1 nv (full (ns.take k)).length ((full (ns.take k)).map sv) ∧ Below w.heap.size w wr) (fun _ kv _ => ns.length - (intOf kv).toNat)
  case atStart => exact ⟨0, by omega, rfl, HE3.out, Hb3.out⟩
  case round =>
    obtain ⟨k, hk, rfl, hown, hbel⟩ := hrel
    obtain ⟨na, nc, rfl⟩ := owns_shape hown
    have Hown := Lib.hid hown
    have Hbel := Lib.hid hbel
    clear hown hbel
    by_cases hlt : k < ns.length
    · have hl24 := (full_ok (ns.take k)).2.2
      rw [List.length_take] at hl24
      obtain ⟨b, off, cap, e, _, _, hbl, hc⟩ := Reads.some (Reads.below Hr.out Hbel.out) (by omega)
      simp only [Value.slice.injEq] at e
      obtain ⟨rfl, hnn, rfl⟩ := e
      have c0 := hc k hlt
      have hvk := Hv.out _ (List.getElem_mem hlt)
      have hml : ns[k].length ≤ 8000000 := Nat.le_trans (vn_len hvk) (by omega)
      have h3 := namesAbove_le3 ns[k]
      have Hm := Lib.hid (full_snoc ns k hlt)
      have Hab := Lib.hid (show above ns[k] = namesAbove ns[k] by simp [namesAbove, hvk])
      clear hnn hc hvk
      generalize ns[k] = n at *
      obtain ⟨xs, hxs⟩ : ∃ x, x = full (ns.take k) := ⟨_, rfl⟩
      rw [← hxs] at Hown Hm hl24 ⊢
      clear hxs
      have hklt : (k : Int) < (ns.length : Int) := by omega
      have hk0' : (0 : Int) ≤ (k : Int) := by omega
      go_wp2_with (go_at_call 65; refine (spec_above n _ hml).mono ?_; rintro _ w2 ⟨v2, rfl, hown2, hb2⟩; rw [Hab.out] at hown2; obtain ⟨a2, c2, rfl⟩ := owns_shape hown2; have Hown2 := Lib.hid hown2; have Hb2 := Lib.hid (show Below wr.heap.size wr w2 by (repeat (with_reducible first | exact Below.refl _ _ | assumption | refine ba ?_ _ | refine bd ?_ | refine bdN ?_ _ | refine bs ?_ (by first | exact Nat.le_refl _ | (dsimp only; omega) | (simp; done)) _ | refine bt ?_ (by assumption)))); clear hown2 hb2)
      generalize namesAbove n = ys at *
      have Hown2' := Lib.hid (owns_below Hown.out Hb2.out)
      have Hbel2 := Lib.hid (Hbel.out.trans (Hb2.out.mono Hbel.out.size))
      have hs2 := Hb2.out.size
      go_loopw [3, 6] (fun nv jv ws => ∃ (j : Nat), j ≤ ys.length ∧ jv = .int .i64 j ∧ ws.ownsRow w.heap.size 9 1 nv (addNew xs (ys.take j)).length ((addNew xs (ys.take j)).map sv) ∧ ws.ownsRow w.heap.size 9 1 (.slice a2 ys.length c2) ys.length (ys.map sv) ∧ (∀ x, (Value.slice a2 ys.length c2).ownBlock = some x → nv.ownBlock ≠ some x) ∧ Below w.heap.size w ws) (fun _ jv _ => ys.length - (intOf jv).toNat)
      case atStart => exact ⟨0, by omega, rfl, Hown2'.out, owns_mono Hown2.out Hbel.out.size, fun x hx e => by
        have h1 := (owns_block Hown.out e).2
        have h2 := (owns_block Hown2.out hx).1
        omega, Hbel2.out⟩
      case round =>
        obtain ⟨j, hj, rfl, hown5, hown6, hap, hbel5⟩ := hrel
        obtain ⟨na5, nc5, rfl⟩ := owns_shape hown5
        have Hown5 := Lib.hid hown5
        have Hown6 := Lib.hid hown6
        have Hap := Lib.hid hap
        have Hbel5 := Lib.hid hbel5
        have hz5 := hbel5.size
        clear hown5 hown6 hap hbel5 c0
        by_cases hjlt : j < ys.length
        · have hdl : (addNew xs (ys.take j)).length ≤ 400 := by have := addNew_len xs (ys.take j); rw [List.length_take] at this; omega
          obtain ⟨gl, cl, el, hgl1, hgl2⟩ := Hown6.out.form (by omega)
          simp only [Value.slice.injEq] at el
          obtain ⟨rfl, _, rfl⟩ := el
          have hcj : wr.cell? ⟨gl, j, none⟩ = some (.string (mk ys[j])) := by
            rw [Hown6.out.cellAt j (by omega), List.getElem?_map, List.getElem?_eq_getElem hjlt]; rfl
          have Hsn := Lib.hid (addNew_snoc xs ys j hjlt)
          have hj0' : (0 : Int) ≤ (j : Int) := by omega
          have hjlt' : (j : Int) < (ys.length : Int) := by omega
          obtain ⟨t, ht⟩ : ∃ t, t = ys[j] := ⟨_, rfl⟩
          rw [← ht] at hcj Hsn
          clear ht hgl1 hgl2
          generalize addNew xs (ys.take j) = ds at *
          by_cases hm : t ∈ ds
          · have Hs2 := Lib.hid (show addNew xs (ys.take (j + 1)) = ds by rw [Hsn.out]; unfold addOne; rw [if_pos hm])
            have Hm2 := Lib.hid (show decide (t ∈ ds) = true from decide_eq_true hm)
            clear hm
            go_wp2_with (go_at_call 80; refine (spec_hasText _ ds t _ (Reads.of_owns Hown5.out) (by omega)).mono ?_; rintro _ _ ⟨rfl, rfl⟩; rw [Hm2.out])
            go_roundw
            case rel => exact ⟨j + 1, by omega, by go_num, by rw [Hs2.out]; exact Hown5.out, Hown6.out, Hap.out, Hbel5.out⟩
            case measure => simp [intOf]; omega
          · have Hs2 := Lib.hid (show addNew xs (ys.take (j + 1)) = ds ++ [t] by rw [Hsn.out]; unfold addOne; rw [if_neg hm])
            have Hm2 := Lib.hid (show decide (t ∈ ds) = false from decide_eq_false hm)
            clear hm
            go_wp2_with (first
              | (go_at_call 80; refine (spec_hasText _ ds t _ (Reads.of_owns Hown5.out) (by omega)).mono ?_; rintro _ _ ⟨rfl, rfl⟩; rw [Hm2.out])
              | (at_builtin; refine wpList_append_own_at _ rfl _ _ 27 rfl w.heap.size 9 i0 (.string ByteArray.empty) 1 16 Tryz.underlying27 Hi.out Hz0.out Hz1.out Hz2.out rfl (by decide) _ ds.length _ rfl (Hown5.out.alloc _) ⟨_, 0, none⟩ 1 1 [.string (mk t)] rfl rfl (new_one (by first | rfl | simp)) (fun x hx => by simp at hx; subst hx; rfl) (by unfold maxLen; omega) (by omega) (by simp; omega) ?_; intro v10 w10 hown10 hgrow10 hnil10 hat10))
            have Hg10 := Lib.hid (gb_step (World.grownBy_alloc wr (.cells #[.string (mk t)] 9) (Value.slice na5 ds.length nc5).ownBlock) hgrow10 (fun x hx => .inl hx))
            have Hown10 := Lib.hid (show w10.ownsRow w.heap.size 9 1 v10 (ds ++ [t]).length ((ds ++ [t]).map sv) by rw [List.length_append, List.map_append]; exact hown10)
            have Hat10 := Lib.hid hat10
            clear hown10 hgrow10 hnil10 hat10
            go_roundw
            case rel =>
              refine ⟨j + 1, by omega, by go_num, by rw [Hs2.out]; exact Hown10.out, owns_heap Hown6.out (fun x hx => Hg10.out.block x (owns_block Hown6.out hx).2 (fun e => Hap.out x hx e.symm)), fun x hx e => ?_, Hbel5.out.grown Hg10.out hz5 (fun x hx => (Hown5.out.lt x hx).1)⟩
              rcases Hat10.out with h | h
              · have h' : v10.ownBlock = (Value.slice na5 ds.length nc5).ownBlock := h
                exact Hap.out x hx (h'.symm.trans e)
              · rw [h] at e
                have h1 := (owns_block Hown6.out hx).2
                simp at e
                omega
            case measure => simp [intOf]; omega
        · obtain rfl : j = ys.length := by omega
          rw [List.take_length] at Hown5 Hap ⊢
          go_wp2_with fail
          go_roundw
          case rel => exact ⟨k + 1, by omega, by go_num, by rw [Hm.out]; exact Hown5.out, Hbel5.out⟩
          case measure => simp [intOf]; omega
    · obtain rfl : k = ns.length := by omega
      rw [List.take_length] at Hown ⊢
      go_wp2_with fail
      go_ret
      exact ⟨_, rfl, Hown.out, Hbel.out⟩
/-! ### The two that are asked. -/
theorem noStrs {T : TypeId} {xs : List Bs} {w w' : World} (h : xs = []) (hb : Below w.heap.size w w') : NewStrs T xs w (.returned (.slice none 0 0)) w' := by
  subst h
  exact ⟨_, rfl, World.ownsRow_nil _ _ _ _, hb⟩
set_option maxRecDepth 100000 in
set_option maxHeartbeats 4000000 in
theorem spec_needsOf (v : Value) (fs : List Fil) (D : Nat → Prop) (pv : Value) (path : List Int) (s : Bs) (w : World) (hr : FilsIn w D v fs) (hz : ShortT 2000000 fs) (hl : okLook fs path = true) (hv : vn s = true) (hp : IntsIn w pv path) :
    Calls Tryz.prog 122 #[.agg #[v], pv, .string (mk s)] w (NewStrs 9 (needsOf fs path s) w) := by
  have Hr := Lib.hid hr
  have Hz := Lib.hid hz
  have Hp := Lib.hid hp
  have Ht := Lib.hid (okLook_tree hl)
  have hpl : path.length ≤ 100 := Nat.le_trans (okPath_len (okLook_path hl)) (by omega)
  have Hv := Lib.hid hv
  have hsl : s.length ≤ 8000000 := Nat.le_trans (vn_len hv) (by omega)
  have Hs := Lib.hid (show findSpec fs path s = byParts fs path s by unfold findSpec; rw [hl]; rfl)
  obtain ⟨aa, ca, rfl, hl0, hm0⟩ := hr.len
  have HX := Lib.hid (HB.new w #[.slice aa fs.length ca] 31)
  clear hr hz hp hl hv hl0 hm0
  go_enter Tryz.func122, Tryz.ntmps122
  go_wp2_with fail
  obtain ⟨W0, hW0⟩ : ∃ x, x = w.alloc (.cells #[.slice aa fs.length ca] 31) := ⟨_, rfl⟩
  rw [← hW0] at HX ⊢
  have Hb0 := Lib.hid (show Below w.heap.size w W0 by rw [hW0]; exact ba (Below.refl _ _) _)
  have x0 := HX.out.cell 0
  have l0 := HX.out.lt
  have Hk := Lib.hid (fun (w' : World) (hC : Below W0.heap.size W0 w') => (⟨(HX.out.step hC).cell 0, hC⟩ : w'.cell? ⟨w.heap.size, 0, none⟩ = some (.slice aa fs.length ca) ∧ Below W0.heap.size W0 w'))
  clear hW0
  go_region_held3 (fun w' => w'.cell? ⟨w.heap.size, 0, none⟩ = some (.slice aa fs.length ca) ∧ Below W0.heap.size W0 w')
    (first | exact Hk.out _ Hb9.out | exact Hk.out _ Hb8.out | exact Hk.out _ (by (repeat (with_reducible first | exact Below.refl _ _ | assumption | refine ba ?_ _ | refine bd ?_ | refine bdN ?_ _ | refine bs ?_ (by first | exact Nat.le_refl _ | (dsimp only; omega) | (simp; done)) _ | refine bt ?_ (by assumption)))))
    (first
      | (go_at_call 66; refine (spec_find _ fs D _ path s _ (Hr.out.below (bt Hb0.out (by (repeat (with_reducible first | exact Below.refl _ _ | assumption | refine ba ?_ _ | refine bd ?_ | refine bdN ?_ _ | refine bs ?_ (by first | exact Nat.le_refl _ | (dsimp only; omega) | (simp; done)) _ | refine bt ?_ (by assumption)))))) Hz.out Ht.out Hv.out (Hp.out.below (bt Hb0.out (by (repeat (with_reducible first | exact Below.refl _ _ | assumption | refine ba ?_ _ | refine bd ?_ | refine bdN ?_ _ | refine bs ?_ (by first | exact Nat.le_refl _ | (dsimp only; omega) | (simp; done)) _ | refine bt ?_ (by assumption)))))) hpl).mono ?_; rintro _ w8 ⟨v8, rfl, hown8, hb8⟩; rw [← Hs.out]; have Hb8 := Lib.hid (show Below W0.heap.size W0 w8 by (repeat (with_reducible first | exact Below.refl _ _ | assumption | refine ba ?_ _ | refine bd ?_ | refine bdN ?_ _ | refine bs ?_ (by first | exact Nat.le_refl _ | (dsimp only; omega) | (simp; done)) _ | refine bt ?_ (by assumption)))); clear hown8 hb8)
      | (go_at_call 160; refine (spec_needs _ fs D _ path s _ _ (Hr.out.below (bt Hb0.out (by first | exact Hb8.out | (have := Hb8.out; (repeat (with_reducible first | exact Below.refl _ _ | assumption | refine ba ?_ _ | refine bd ?_ | refine bdN ?_ _ | refine bs ?_ (by first | exact Nat.le_refl _ | (dsimp only; omega) | (simp; done)) _ | refine bt ?_ (by assumption))))))) hsl).mono ?_; rintro _ w9 ⟨v9, rfl, hown9, hb9⟩; have Hown9 := Lib.hid (owns_mono hown9 (show W0.heap.size ≤ _ from (show Below W0.heap.size W0 _ by first | exact Hb8.out | (have := Hb8.out; (repeat (with_reducible first | exact Below.refl _ _ | assumption | refine ba ?_ _ | refine bd ?_ | refine bdN ?_ _ | refine bs ?_ (by first | exact Nat.le_refl _ | (dsimp only; omega) | (simp; done)) _ | refine bt ?_ (by assumption))))).size)); have Hb9 := Lib.hid (show Below W0.heap.size W0 w9 from Hb8.out.trans (hb9.mono Hb8.out.size)); clear hown9 hb9))
  all_goals
    go_wp2_with fail
    go_ret
    exact ⟨_, rfl, owns_mono Hown9.out Hb0.out.size, Hb0.out.trans (Hb9.out.mono Hb0.out.size)⟩
set_option maxRecDepth 100000 in
set_option maxHeartbeats 4000000 in
theorem spec_edges (v : Value) (fs : List Fil) (D : Nat → Prop) (pv : Value) (path : List Int) (s : Bs) (w : World) (hr : FilsIn w D v fs) (hz : ShortT 2000000 fs) (hl : okLook fs path = true) (hv : vn s = true) (hp : IntsIn w pv path) :
    Calls Tryz.prog 99 #[.agg #[v], pv, .string (mk s)] w (NewStrs 9 (edgesOf fs path s) w) := by
  have Hr := Lib.hid hr
  have Hz := Lib.hid hz
  have Hp := Lib.hid hp
  have Hl := Lib.hid hl
  have Hv := Lib.hid hv
  obtain ⟨hvn, _, hlen⟩ := needsOf_ok fs path s
  have Hvn := Lib.hid hvn
  have He := Lib.hid (show edgesOf fs path s = full (needsOf fs path s) from rfl)
  obtain ⟨aa, ca, rfl, hl0, hm0⟩ := hr.len
  clear hr hz hp hl hv hl0 hm0 hvn
  go_enter Tryz.func99, Tryz.ntmps99
  go_wp2_with (first
    | (go_at_call 122; refine (spec_needsOf _ fs D _ path s _ (Hr.out.below (by (repeat (with_reducible first | exact Below.refl _ _ | assumption | refine ba ?_ _ | refine bd ?_ | refine bdN ?_ _ | refine bs ?_ (by first | exact Nat.le_refl _ | (dsimp only; omega) | (simp; done)) _ | refine bt ?_ (by assumption))))) Hz.out Hl.out Hv.out (Hp.out.below (by (repeat (with_reducible first | exact Below.refl _ _ | assumption | refine ba ?_ _ | refine bd ?_ | refine bdN ?_ _ | refine bs ?_ (by first | exact Nat.le_refl _ | (dsimp only; omega) | (simp; done)) _ | refine bt ?_ (by assumption)))))).mono ?_; rintro _ w8 ⟨v8, rfl, hown8, hb8⟩; have Hown8 := Lib.hid hown8; have Hb8 := Lib.hid (show Below w.heap.size w w8 by (repeat (with_reducible first | exact Below.refl _ _ | assumption | refine ba ?_ _ | refine bd ?_ | refine bdN ?_ _ | refine bs ?_ (by first | exact Nat.le_refl _ | (dsimp only; omega) | (simp; done)) _ | refine bt ?_ (by assumption)))); clear hown8 hb8)
    | (go_at_call 146; refine (spec_full _ _ _ (Reads.of_owns Hown8.out) Hvn.out (by omega)).mono ?_; rintro _ w9 ⟨v9, rfl, hown9, hb9⟩; have Hown9 := Lib.hid hown9; have Hb9 := Lib.hid (Hb8.out.trans (hb9.mono Hb8.out.size)); clear hown9 hb9))
  go_ret
  refine ⟨_, rfl, ?_, Hb9.out⟩
  rw [He.out]
  exact owns_mono Hown9.out Hb8.out.size

/-! ### The names that are reached: contracts of the reference's side. -/
set_option maxRecDepth 100000 in
set_option maxHeartbeats 8000000 in
theorem spec_reach_real (v : Value) (fs : List Fil) (D : Nat → Prop) (pv : Value) (path : List Int) (nv : Value) (xs : List Bs) (w : World) (hr : FilsIn w D v fs) (hz : ShortT 2000000 fs) (hlk : okLook fs path = true) (hp : IntsIn w pv path) (hn : ∃ b off cap, nv = .slice (some ⟨b, off, none⟩) xs.length cap ∧ xs.length ≤ cap ∧ cap ≤ maxLen ∧ b < w.heap.size ∧ ∀ k (h : k < xs.length), w.cell? ⟨b, off + k, none⟩ = some (.string (mk xs[k]))) (hxl : xs.length ≤ 100) (hnd : xs.Nodup) (hv : ∀ x ∈ xs, vn x = true) :
    Calls Tryz.prog 64 #[.agg #[v], pv, nv] w (NewStrs 9 (reachAll fs path xs) w) := by
  obtain ⟨i0, hi, hz0, hz1, hz2⟩ := info_parts infoS
  have Hi := Lib.hid hi
  have Hz0 := Lib.hid hz0
  have Hz1 := Lib.hid hz1
  have Hz2 := Lib.hid hz2
  have Hr := Lib.hid hr
  have Hz := Lib.hid hz
  have Hp := Lib.hid hp
  have Hlk := Lib.hid hlk
  have ht := okLook_tree hlk
  obtain ⟨aa, ca, rfl, hl, hm⟩ := hr.len
  obtain ⟨bn, on, cn, rfl, hlc, hmc, hbn, hcn⟩ := hn
  obtain ⟨rk, hrk⟩ : ∃ f : Nat → List Bs, f = reachK (edgesOf fs path) xs := ⟨_, rfl⟩
  have hrl : ∀ k, (rk k).length ≤ xs.length + 288 := by rw [hrk]; exact reachK_len ht hnd
  have Hrk := Lib.hid hrk
  have Hvn := Lib.hid (show ∀ k, ∀ x ∈ rk k, vn x = true by rw [hrk]; exact reachK_all hv (fun n _ y hy => (edgesOf_ok fs path n).1 y hy))
  have Hcn := Lib.hid hcn
  have H0 := Lib.hid (show rk 0 = xs by rw [hrk]; rfl)
  have Hend := Lib.hid (show ∀ k, (rk k).length ≤ k → k ≤ xs.length + 288 → rk k = reachAll fs path xs by rw [hrk]; exact fun k h1 h2 => reachAll_at ht hnd h1 h2)
  have Hstep := Lib.hid (show ∀ k (h : k < (rk k).length), rk (k + 1) = addNew (rk k) (edgesOf fs path (rk k)[k]) by rw [hrk]; exact fun k h => reachK_step h)
  clear hr hz hp hlk hl hm hcn hrk hi hz0 hz1 hz2
  go_enter Tryz.func64, Tryz.ntmps64
  go_upto_region 1 with fail
  obtain ⟨W1, hW1⟩ : ∃ W, W = w.alloc (.cells #[.slice aa fs.length ca] 31) := ⟨_, rfl⟩
  have HT1 := Lib.hid (show HB W1 w.heap.size 31 #[.slice aa fs.length ca] by rw [hW1]; exact HB.new _ _ _)
  have hs1 : W1.heap.size = w.heap.size + 1 := by rw [hW1]; simp
  have Hb1 := Lib.hid (show Below w.heap.size w W1 by rw [hW1]; exact ba (Below.refl _ _) _)
  rw [← hW1]
  clear hW1
  have HE := Lib.hid (show (W1.alloc (.cells #[] 9)).ownsRow (w.heap.size + 1) 9 1 (.slice (some ⟨w.heap.size + 1, 0, none⟩) 0 0) 0 [] by
    have h := World.ownsRow_lit (size := 1) (base := w.heap.size + 1) (e := 9) W1 #[] 0 (by omega) (by unfold maxLen; omega) rfl
    rw [hs1] at h; exact h)
  have Hcc := Lib.hid (show ∀ (j : Nat) (u : Value), (xs.map sv)[j]? = some u → (W1.alloc (.cells #[] 9)).cell? ((⟨bn, on, none⟩ : Addr).add j) = some u from fun j u hu => by
    have hj : j < xs.length := by have := (List.getElem?_eq_some_iff.1 hu).1; simpa using this
    have hb2 : Below w.heap.size w (W1.alloc (.cells #[] 9)) := ba Hb1.out _
    have hadd : (⟨bn, on, none⟩ : Addr).add j = ⟨bn, on + j, none⟩ := by unfold Addr.add; split <;> simp_all
    rw [hadd, hb2.cell (p := ⟨bn, on + j, none⟩) hbn, Hcn.out j hj]
    rw [List.getElem?_map, List.getElem?_eq_getElem hj] at hu
    exact hu)
  go_wp2_with (at_builtin; refine wpList_append_own _ rfl _ _ 27 rfl (w.heap.size + 1) 9 i0 (.string ByteArray.empty) 1 16 Tryz.underlying27 Hi.out Hz0.out Hz1.out Hz2.out rfl (by decide) _ 0 _ rfl HE.out ⟨bn, on, none⟩ xs.length cn (xs.map sv) rfl (by simp) Hcc.out (fun x hx => by obtain ⟨b, _, rfl⟩ := List.mem_map.1 hx; rfl) (by unfold maxLen; omega) (by omega) (by simp; omega) ?_; intro v2 w2 hown2 hg2 hnil2; have Hown2 := Lib.hid hown2; have Hg2 := Lib.hid (show (W1.alloc (.cells #[] 9)).grownBy w2 (some (w.heap.size + 1)) from hg2); clear hown2 hg2 hnil2)
  have Hst := Lib.hid (show w2.ownsRow (w.heap.size + 1) 9 1 v2 (rk 0).length ((rk 0).map sv) by rw [H0.out]; have h := Hown2.out; simpa using h)
  have HT2 := Lib.hid ((HT1.out.alloc _).grown Hg2.out (by simp))
  have Hb2 := Lib.hid (((ba Hb1.out (.cells #[] 9)).grown Hg2.out (by simp; omega) (fun x hx => by simp only [Option.some.injEq] at hx; omega)))
  clear HE Hcc Hown2 Hg2 HT1 Hb1 hs1
  go_loopw [7, 8] (fun nv kv wr => ∃ (k : Nat), k ≤ (rk k).length ∧ kv = .int .i64 k ∧ wr.ownsRow (w.heap.size + 1) 9 1 nv (rk k).length ((rk k).map sv) ∧ HB wr w.heap.size 31 #[.slice aa fs.length ca] ∧ Below w.heap.size w wr) (fun _ kv _ => xs.length + 288 - (intOf kv).toNat)
  case atStart => exact ⟨0, by omega, rfl, Hst.out, HT2.out, Hb2.out⟩
  case round =>
    obtain ⟨k, hk, rfl, hown, hbx, hbel⟩ := hrel
    obtain ⟨na, nc, rfl⟩ := owns_shape hown
    have Hown := Lib.hid hown
    have Hbx := Lib.hid hbx
    have Hbel := Lib.hid hbel
    have lx := hbx.lt
    have x0 := hbx.cell 0
    have hkl := hrl k
    clear hbx hbel Hst HT2 Hb2
    by_cases hlt : k < (rk k).length
    · obtain ⟨gl, cl, el, hgl1, hgl2⟩ := hown.form (by omega)
      simp only [Value.slice.injEq] at el
      obtain ⟨rfl, _, rfl⟩ := el
      have hcj : wr.cell? ⟨gl, k, none⟩ = some (.string (mk (rk k)[k])) := by
        rw [hown.cellAt k (by omega), List.getElem?_map, List.getElem?_eq_getElem hlt]; rfl
      have hgs : gl < wr.heap.size := (hown.lt gl rfl).2
      have hk1 : (k : Int) < ((rk k).length : Int) := by omega
      have hk0 : (0 : Int) ≤ (k : Int) := by omega
      have Hv := Lib.hid (Hvn.out k _ (List.getElem_mem hlt))
      have Hnext := Lib.hid (Hstep.out k hlt)
      have hrl1 := hrl (k + 1)
      have Hpl := Lib.hid (show k + 1 ≤ (rk (k + 1)).length by
        rw [Hnext.out]
        have := (addNew_pre (rk k) (edgesOf fs path (rk k)[k])).length_le
        omega)
      clear hown hgl1 hgl2
      obtain ⟨x, hx⟩ : ∃ x, x = (rk k)[k] := ⟨_, rfl⟩
      rw [← hx] at hcj Hv Hnext
      clear hx
      obtain ⟨es, hes⟩ : ∃ es, es = edgesOf fs path x := ⟨_, rfl⟩
      have heL : es.length ≤ 24 := by rw [hes]; exact (edgesOf_ok fs path x).2.2
      rw [← hes] at Hnext
      have Hes := Lib.hid hes.symm
      have Hk := Lib.hid (fun (w' : World) (hC : Below wr.heap.size wr w') => (⟨(Hbx.out.step hC).cell 0, (hC.cell (p := ⟨gl, k, none⟩) hgs).trans hcj, hC⟩ : w'.cell? ⟨w.heap.size, 0, none⟩ = some (.slice aa fs.length ca) ∧ w'.cell? ⟨gl, k, none⟩ = some (.string (mk x)) ∧ Below wr.heap.size wr w'))
      clear hes
      go_upto_region 5 with fail
      go_region_held3 (fun w' => w'.cell? ⟨w.heap.size, 0, none⟩ = some (.slice aa fs.length ca) ∧ w'.cell? ⟨gl, k, none⟩ = some (.string (mk x)) ∧ Below wr.heap.size wr w')
        (first | exact Hk.out _ Hb9.out | exact Hk.out _ (by (repeat (with_reducible first | exact Below.refl _ _ | assumption | refine ba ?_ _ | refine bd ?_ | refine bdN ?_ _ | refine bs ?_ (by first | exact Nat.le_refl _ | (dsimp only; omega) | (simp; done)) _ | refine bt ?_ (by assumption)))))
        (first
          | (go_at_call 99; refine (spec_edges _ fs D _ path x _ (Hr.out.below (bt Hbel.out (by (repeat (with_reducible first | exact Below.refl _ _ | assumption | refine ba ?_ _ | refine bd ?_ | refine bdN ?_ _ | refine bs ?_ (by first | exact Nat.le_refl _ | (dsimp only; omega) | (simp; done)) _ | refine bt ?_ (by assumption)))))) Hz.out Hlk.out Hv.out (Hp.out.below (bt Hbel.out (by (repeat (with_reducible first | exact Below.refl _ _ | assumption | refine ba ?_ _ | refine bd ?_ | refine bdN ?_ _ | refine bs ?_ (by first | exact Nat.le_refl _ | (dsimp only; omega) | (simp; done)) _ | refine bt ?_ (by assumption))))))).mono ?_; rintro _ w9 ⟨v9, rfl, hown9, hb9⟩; rw [Hes.out] at hown9; obtain ⟨a9, c9, rfl⟩ := owns_shape hown9; have Hown9 := Lib.hid (owns_mono hown9 (show wr.heap.size ≤ _ from (show Below wr.heap.size wr _ by (repeat (with_reducible first | exact Below.refl _ _ | assumption | refine ba ?_ _ | refine bd ?_ | refine bdN ?_ _ | refine bs ?_ (by first | exact Nat.le_refl _ | (dsimp only; omega) | (simp; done)) _ | refine bt ?_ (by assumption)))).size)); have Hb9 := Lib.hid (show Below wr.heap.size wr w9 by (repeat (with_reducible first | exact Below.refl _ _ | assumption | refine ba ?_ _ | refine bd ?_ | refine bdN ?_ _ | refine bs ?_ (by first | exact Nat.le_refl _ | (dsimp only; omega) | (simp; done)) _ | refine bt ?_ (by assumption)))); clear hown9 hb9))
      clear x0 hcj
      have HA0 := Lib.hid (owns_below Hown.out Hb9.out)
      have HX0 := Lib.hid (Hbx.out.step Hb9.out)
      have HB0 := Lib.hid (Hbel.out.trans (Hb9.out.mono Hbel.out.size))
      have HE0 := Lib.hid (owns_mono Hown9.out (show w.heap.size + 1 ≤ wr.heap.size from lx))
      have Hap0 := Lib.hid (show ∀ y, (Value.slice a9 es.length c9).ownBlock = some y → (Value.slice (some ⟨gl, 0, none⟩) (rk k).length nc).ownBlock ≠ some y from fun y hy e => by
        have h1 := (owns_block Hown9.out hy).1
        simp only [Value.ownBlock, Option.some.injEq] at e
        omega)
      clear Hown9 Hb9
      go_wp2_with fail
      go_loopw [7, 10] (fun nv jv wr => ∃ (j : Nat), j ≤ es.length ∧ jv = .int .i64 j ∧ wr.ownsRow (w.heap.size + 1) 9 1 nv (addNew (rk k) (es.take j)).length ((addNew (rk k) (es.take j)).map sv) ∧ wr.ownsRow (w.heap.size + 1) 9 1 (.slice a9 es.length c9) es.length (es.map sv) ∧ (∀ x, (Value.slice a9 es.length c9).ownBlock = some x → nv.ownBlock ≠ some x) ∧ HB wr w.heap.size 31 #[.slice aa fs.length ca] ∧ Below w.heap.size w wr) (fun _ jv _ => es.length - (intOf jv).toNat)
      case atStart => exact ⟨0, by omega, rfl, HA0.out, HE0.out, Hap0.out, HX0.out, HB0.out⟩
      case round =>
        obtain ⟨j, hj, rfl, hown5, hown6, hap, hbx5, hbel5⟩ := hrel
        obtain ⟨na5, nc5, rfl⟩ := owns_shape hown5
        have Hown5 := Lib.hid hown5
        have Hown6 := Lib.hid hown6
        have Hap := Lib.hid hap
        have Hbx5 := Lib.hid hbx5
        have Hbel5 := Lib.hid hbel5
        have hz5 : w.heap.size + 1 ≤ wr.heap.size := hbx5.lt
        clear hown5 hown6 hap hbx5 hbel5 HA0 HE0 Hap0 HX0 HB0
        by_cases hjlt : j < es.length
        · have hdl : (addNew (rk k) (es.take j)).length ≤ 500 := by have := addNew_len (rk k) (es.take j); rw [List.length_take] at this; omega
          obtain ⟨ge, ce, el, hge1, hge2⟩ := Hown6.out.form (by omega)
          simp only [Value.slice.injEq] at el
          obtain ⟨rfl, _, rfl⟩ := el
          have hcj : wr.cell? ⟨ge, j, none⟩ = some (.string (mk es[j])) := by
            rw [Hown6.out.cellAt j (by omega), List.getElem?_map, List.getElem?_eq_getElem hjlt]; rfl
          have Hsn := Lib.hid (addNew_snoc (rk k) es j hjlt)
          have hj0' : (0 : Int) ≤ (j : Int) := by omega
          have hjlt' : (j : Int) < (es.length : Int) := by omega
          obtain ⟨t, ht2⟩ : ∃ t, t = es[j] := ⟨_, rfl⟩
          rw [← ht2] at hcj Hsn
          clear ht2 hge1 hge2
          obtain ⟨ds, hds⟩ : ∃ ds, ds = addNew (rk k) (es.take j) := ⟨_, rfl⟩
          rw [← hds] at Hown5 hdl Hsn Hap ⊢
          clear hds
          by_cases hm : t ∈ ds
          · have Hs2 := Lib.hid (show addNew (rk k) (es.take (j + 1)) = ds by rw [Hsn.out]; unfold addOne; rw [if_pos hm])
            have Hm2 := Lib.hid (show decide (t ∈ ds) = true from decide_eq_true hm)
            clear hm
            go_wp2_with (go_at_call 80; refine (spec_hasText _ ds t _ (Reads.of_owns Hown5.out) (by omega)).mono ?_; rintro _ _ ⟨rfl, rfl⟩; rw [Hm2.out])
            go_roundw
            case rel => exact ⟨j + 1, by omega, by go_num, by rw [Hs2.out]; exact Hown5.out, Hown6.out, Hap.out, Hbx5.out, Hbel5.out⟩
            case measure => simp [intOf]; omega
          · have Hs2 := Lib.hid (show addNew (rk k) (es.take (j + 1)) = ds ++ [t] by rw [Hsn.out]; unfold addOne; rw [if_neg hm])
            have Hm2 := Lib.hid (show decide (t ∈ ds) = false from decide_eq_false hm)
            clear hm
            go_wp2_with (first
              | (go_at_call 80; refine (spec_hasText _ ds t _ (Reads.of_owns Hown5.out) (by omega)).mono ?_; rintro _ _ ⟨rfl, rfl⟩; rw [Hm2.out])
              | (at_builtin; refine wpList_append_own_at _ rfl _ _ 27 rfl (w.heap.size + 1) 9 i0 (.string ByteArray.empty) 1 16 Tryz.underlying27 Hi.out Hz0.out Hz1.out Hz2.out rfl (by decide) _ ds.length _ rfl (Hown5.out.alloc _) ⟨_, 0, none⟩ 1 1 [.string (mk t)] rfl rfl (new_one (by first | rfl | simp)) (fun x hx => by simp at hx; subst hx; rfl) (by unfold maxLen; omega) (by omega) (by simp; omega) ?_; intro v10 w10 hown10 hgrow10 hnil10 hat10))
            have Hg10 := Lib.hid (gb_step (World.grownBy_alloc wr (.cells #[.string (mk t)] 9) (Value.slice na5 ds.length nc5).ownBlock) hgrow10 (fun x hx => .inl hx))
            have Hown10 := Lib.hid (show w10.ownsRow (w.heap.size + 1) 9 1 v10 (ds ++ [t]).length ((ds ++ [t]).map sv) by rw [List.length_append, List.map_append]; exact hown10)
            have Hat10 := Lib.hid hat10
            clear hown10 hgrow10 hnil10 hat10
            go_roundw
            case rel =>
              refine ⟨j + 1, by omega, by go_num, by rw [Hs2.out]; exact Hown10.out, owns_heap Hown6.out (fun x hx => Hg10.out.block x (owns_block Hown6.out hx).2 (fun e => Hap.out x hx e.symm)), fun x hx e => ?_, Hbx5.out.grown Hg10.out (fun e => by have := (Hown5.out.lt _ e).1; omega), Hbel5.out.grown Hg10.out (by omega) (fun x hx => by have := (Hown5.out.lt x hx).1; omega)⟩
              rcases Hat10.out with h | h
              · have h' : v10.ownBlock = (Value.slice na5 ds.length nc5).ownBlock := h
                exact Hap.out x hx (h'.symm.trans e)
              · rw [h] at e
                have h1 := (owns_block Hown6.out hx).2
                simp at e
                omega
            case measure => simp [intOf]; omega
        · obtain rfl : j = es.length := by omega
          rw [List.take_length] at Hown5 Hap ⊢
          rw [← Hnext.out] at Hown5 Hap ⊢
          go_wp2_with fail
          go_roundw
          case rel => exact ⟨k + 1, Hpl.out, by go_num, Hown5.out, Hbx5.out, Hbel5.out⟩
          case measure => simp [intOf]; omega
    · have hek : (rk k).length = k := by omega
      go_wp2_with fail
      go_ret
      refine ⟨_, rfl, ?_, Hbel.out⟩
      rw [← Hend.out k (by omega) (by omega)]
      exact owns_mono Hown.out (Nat.le_succ _)
set_option maxRecDepth 100000 in
set_option maxHeartbeats 2000000 in
theorem spec_reach_nil (v : Value) (fs : List Fil) (D : Nat → Prop) (pv : Value) (path : List Int) (w : World) (hr : FilsIn w D v fs) (hp : IntsIn w pv path) :
    Calls Tryz.prog 64 #[.agg #[v], pv, .slice none 0 0] w (NewStrs 9 [] w) := by
  obtain ⟨i0, hi, hz0, hz1, hz2⟩ := info_parts infoS
  have Hi := Lib.hid hi
  obtain ⟨aa, ca, rfl, hl, hm⟩ := hr.len
  obtain ⟨pa, pc, rfl, hl1, hm1⟩ := hp.len
  clear hr hp hl hm hl1 hm1 hi hz0 hz1 hz2
  go_enter Tryz.func64, Tryz.ntmps64
  go_upto_region 1 with fail
  obtain ⟨W1, hW1⟩ : ∃ W, W = w.alloc (.cells #[.slice aa fs.length ca] 31) := ⟨_, rfl⟩
  have hs1 : W1.heap.size = w.heap.size + 1 := by rw [hW1]; simp
  have Hb1 := Lib.hid (show Below w.heap.size w W1 by rw [hW1]; exact ba (Below.refl _ _) _)
  rw [← hW1]
  clear hW1
  have HE := Lib.hid (show (W1.alloc (.cells #[] 9)).ownsRow (w.heap.size + 1) 9 1 (.slice (some ⟨w.heap.size + 1, 0, none⟩) 0 0) 0 [] by
    have h := World.ownsRow_lit (size := 1) (base := w.heap.size + 1) (e := 9) W1 #[] 0 (by omega) (by unfold maxLen; omega) rfl
    rw [hs1] at h; exact h)
  go_wp2_with (at_builtin; refine wpList_append_own_none rfl _ _ 27 rfl (w.heap.size + 1) 9 i0 1 Tryz.underlying27 Hi.out _ 0 _ rfl HE.out rfl ?_)
  have Hb2 := Lib.hid (ba Hb1.out (.cells #[] 9))
  go_loopw [7, 8] (fun nv kv wr => nv = .slice (some ⟨w.heap.size + 1, 0, none⟩) 0 0 ∧ kv = .int .i64 0 ∧ wr.ownsRow (w.heap.size + 1) 9 1 (.slice (some ⟨w.heap.size + 1, 0, none⟩) 0 0) 0 [] ∧ Below w.heap.size w wr) (fun _ kv _ => 0)
  case atStart => exact ⟨rfl, rfl, HE.out, Hb2.out⟩
  case round =>
    obtain ⟨rfl, rfl, hown, hbel⟩ := hrel
    go_wp2_with fail
    go_ret
    exact ⟨_, rfl, owns_mono hown (Nat.le_succ _), hbel⟩
theorem spec_reachE (v : Value) (fs : List Fil) (D : Nat → Prop) (pv : Value) (path : List Int) (nv : Value) (xs : List Bs) (w : World) (hr : FilsIn w D v fs) (hz : ShortT 2000000 fs) (hlk : okLook fs path = true) (hp : IntsIn w pv path) (hn : Reads w nv xs) (hxl : xs.length ≤ 100) (hnd : xs.Nodup) (hv : ∀ x ∈ xs, vn x = true) :
    Calls Tryz.prog 64 #[.agg #[v], pv, nv] w (NewStrs 9 (reachAll fs path xs) w) := by
  rcases hn with ⟨rfl, rfl⟩ | hn
  · have e : reachAll fs path [] = [] := by
      have : ∀ k, reachK (edgesOf fs path) [] k = [] := fun k => by
        induction k with
        | zero => rfl
        | succ k ih => rw [reachK_end (by rw [ih]; simp), ih]
      unfold reachAll; rw [this]
    rw [e]
    exact spec_reach_nil v fs D pv path w hr hp
  · exact spec_reach_real v fs D pv path nv xs w hr hz hlk hp hn hxl hnd hv
theorem spec_reach (v : Value) (fs : List Fil) (D : Nat → Prop) (pv : Value) (path : List Int) (nv : Value) (xs : List Bs) (w : World) (hr : FilsIn w D v fs) (hz : ShortT 2000000 fs) (hlk : okLook fs path = true) (hp : IntsIn w pv path) (hn : Reads w nv xs) (_ : 1 ≤ xs.length) (hxl : xs.length ≤ 100) (hnd : xs.Nodup) (hv : ∀ x ∈ xs, vn x = true) :
    Calls Tryz.prog 64 #[.agg #[v], pv, nv] w (NewStrs 9 (reachAll fs path xs) w) :=
  spec_reachE v fs D pv path nv xs w hr hz hlk hp hn hxl hnd hv

/-! ### The reference's ReachOf. Written by mksreach.py. -/
set_option maxRecDepth 100000 in
set_option maxHeartbeats 8000000 in
theorem spec_ReachOf (v : Value) (fs : List Fil) (D : Nat → Prop) (pv : Value) (path : List Int) (s : Bs) (w : World) (hr : FilsIn w D v fs) (hz : ShortT 2000000 fs) (hp : IntsIn w pv path) (hsl : s.length ≤ 8000000) :
    Calls Tryz.prog 40 #[.agg #[v], pv, .string (mk s)] w (NewStrs 9 (reachOf fs path s) w) := by
  have Hr := Lib.hid hr
  have Hz := Lib.hid hz
  have Hz3 := Lib.hid (short2 (B := 3000000) (by omega) hz)
  have Hp := Lib.hid hp
  obtain ⟨aa, ca, rfl, hl, hm⟩ := hr.len
  obtain ⟨pa, pc, rfl, hl1, hm1⟩ := hp.len
  clear hr hz hp hl hm hl1 hm1
  have Hb0 := Lib.hid (Boxed.start w #[.slice aa fs.length ca] 31)
  have Hrv := Lib.hid (show vn s = false → reachOf fs path s = [] from fun h => by
    have e : namesAbove s = [] := by simp [namesAbove, h]
    unfold reachOf; rw [e]; split
    · have : ∀ k, reachK (edgesOf fs path) [] k = [] := fun k => by
        induction k with
        | zero => rfl
        | succ k ih => rw [reachK_end (by rw [ih]; simp), ih]
      unfold reachAll; rw [this]; rfl
    · rfl)
  cases h1 : okTree fs
  · have H1 := Lib.hid h1
    have Hn := Lib.hid (show reachOf fs path s = [] by unfold reachOf okLook; rw [h1]; simp)
    clear h1
    go_enter Tryz.func40, Tryz.ntmps40
    go_wp2_with (first
      | (go_at_call 61; refine (spec_validTree _ fs D _ (Hr.out.below (by have := Hb0.out.below; (repeat (with_reducible first | exact Below.refl _ _ | assumption | refine ba ?_ _ | refine bd ?_ | refine bdN ?_ _ | refine bs ?_ (by first | exact Nat.le_refl _ | (dsimp only; omega) | (simp; done)) _ | refine bt ?_ (by assumption))))) Hz3.out).mono ?_; rintro _ w5 ⟨rfl, hb5⟩; rw [H1.out]; have Hx5 := Lib.hid (Hb0.out.step hb5); clear hb5; have a0 : w5.cell? ⟨w.heap.size, 0, none⟩ = some (.slice aa fs.length ca) := Hx5.out.cell 0))
    go_ret
    have hbw := Hx5.out.below
    exact noStrs Hn.out (by (repeat (with_reducible first | exact Below.refl _ _ | assumption | refine ba ?_ _ | refine bd ?_ | refine bdN ?_ _ | refine bs ?_ (by first | exact Nat.le_refl _ | (dsimp only; omega) | (simp; done)) _ | refine bt ?_ (by assumption))))
  cases h2 : okPath path
  · have H1 := Lib.hid h1
    have H2 := Lib.hid h2
    have Hn := Lib.hid (show reachOf fs path s = [] by unfold reachOf okLook; rw [h2]; simp)
    clear h1 h2
    go_enter Tryz.func40, Tryz.ntmps40
    go_wp2_with (first
      | (go_at_call 61; refine (spec_validTree _ fs D _ (Hr.out.below (by have := Hb0.out.below; (repeat (with_reducible first | exact Below.refl _ _ | assumption | refine ba ?_ _ | refine bd ?_ | refine bdN ?_ _ | refine bs ?_ (by first | exact Nat.le_refl _ | (dsimp only; omega) | (simp; done)) _ | refine bt ?_ (by assumption))))) Hz3.out).mono ?_; rintro _ w5 ⟨rfl, hb5⟩; rw [H1.out]; have Hx5 := Lib.hid (Hb0.out.step hb5); clear hb5; have a0 : w5.cell? ⟨w.heap.size, 0, none⟩ = some (.slice aa fs.length ca) := Hx5.out.cell 0)
      | (go_at_call 62; refine (spec_validPath _ path _ (Hp.out.below (by have := Hx5.out.below; (repeat (with_reducible first | exact Below.refl _ _ | assumption | refine ba ?_ _ | refine bd ?_ | refine bdN ?_ _ | refine bs ?_ (by first | exact Nat.le_refl _ | (dsimp only; omega) | (simp; done)) _ | refine bt ?_ (by assumption)))))).mono ?_; rintro _ w6 ⟨rfl, hb6⟩; rw [H2.out]; have Hx6 := Lib.hid (Hx5.out.step hb6); clear hb6; clear a0; have a0 : w6.cell? ⟨w.heap.size, 0, none⟩ = some (.slice aa fs.length ca) := Hx6.out.cell 0))
    go_ret
    have hbw := Hx6.out.below
    exact noStrs Hn.out (by (repeat (with_reducible first | exact Below.refl _ _ | assumption | refine ba ?_ _ | refine bd ?_ | refine bdN ?_ _ | refine bs ?_ (by first | exact Nat.le_refl _ | (dsimp only; omega) | (simp; done)) _ | refine bt ?_ (by assumption))))
  cases h3 : vn s
  · have H1 := Lib.hid h1
    have H2 := Lib.hid h2
    have H3 := Lib.hid h3
    have Hn := Lib.hid (Hrv.out h3)
    clear h1 h2 h3
    go_enter Tryz.func40, Tryz.ntmps40
    go_wp2_with (first
      | (go_at_call 61; refine (spec_validTree _ fs D _ (Hr.out.below (by have := Hb0.out.below; (repeat (with_reducible first | exact Below.refl _ _ | assumption | refine ba ?_ _ | refine bd ?_ | refine bdN ?_ _ | refine bs ?_ (by first | exact Nat.le_refl _ | (dsimp only; omega) | (simp; done)) _ | refine bt ?_ (by assumption))))) Hz3.out).mono ?_; rintro _ w5 ⟨rfl, hb5⟩; rw [H1.out]; have Hx5 := Lib.hid (Hb0.out.step hb5); clear hb5; have a0 : w5.cell? ⟨w.heap.size, 0, none⟩ = some (.slice aa fs.length ca) := Hx5.out.cell 0)
      | (go_at_call 62; refine (spec_validPath _ path _ (Hp.out.below (by have := Hx5.out.below; (repeat (with_reducible first | exact Below.refl _ _ | assumption | refine ba ?_ _ | refine bd ?_ | refine bdN ?_ _ | refine bs ?_ (by first | exact Nat.le_refl _ | (dsimp only; omega) | (simp; done)) _ | refine bt ?_ (by assumption)))))).mono ?_; rintro _ w6 ⟨rfl, hb6⟩; rw [H2.out]; have Hx6 := Lib.hid (Hx5.out.step hb6); clear hb6; clear a0; have a0 : w6.cell? ⟨w.heap.size, 0, none⟩ = some (.slice aa fs.length ca) := Hx6.out.cell 0)
      | (go_at_call 63; refine (spec_validName s _ hsl).mono ?_; rintro _ w7 ⟨rfl, hb7⟩; rw [H3.out]; have Hx7 := Lib.hid (Hx6.out.step hb7); clear hb7; clear a0; have a0 : w7.cell? ⟨w.heap.size, 0, none⟩ = some (.slice aa fs.length ca) := Hx7.out.cell 0))
    go_ret
    have hbw := Hx7.out.below
    exact noStrs Hn.out (by (repeat (with_reducible first | exact Below.refl _ _ | assumption | refine ba ?_ _ | refine bd ?_ | refine bdN ?_ _ | refine bs ?_ (by first | exact Nat.le_refl _ | (dsimp only; omega) | (simp; done)) _ | refine bt ?_ (by assumption))))
  have H1 := Lib.hid h1
  have H2 := Lib.hid h2
  have H3 := Lib.hid h3
  have Hlk := Lib.hid (okLook_of h1 h2)
  have hna : namesAbove s = above s := by simp [namesAbove, h3]
  obtain ⟨ns, hns⟩ : ∃ ns, ns = above s := ⟨_, rfl⟩
  have Hns := Lib.hid hns
  have hn3 : ns.length ≤ 3 := by rw [hns, ← hna]; exact namesAbove_le3 s
  have hn1 : 1 ≤ ns.length := by rw [hns]; exact List.length_pos_iff.2 (above_pos s)
  have Hnd := Lib.hid (show ns.Nodup by rw [hns, ← hna]; exact namesAbove_nodup s)
  have Hnv := Lib.hid (show ∀ x ∈ ns, vn x = true by rw [hns]; exact above_vn h3)
  obtain ⟨L, hL⟩ : ∃ L, L = reachAll fs path ns := ⟨_, rfl⟩
  have hLl : L.length ≤ 291 := by rw [hL]; have := reachAll_len (t := fs) (path := path) (okLook_tree Hlk.out) Hnd.out; omega
  have HL := Lib.hid hL
  have Hre := Lib.hid (show reachOf fs path s = L.foldl insTo [] by unfold reachOf; rw [Hlk.out, hna, ← hns, ← hL]; rfl)
  clear h1 h2 h3 hna hns hL
  go_enter Tryz.func40, Tryz.ntmps40
  go_wp2_with (first
    | (go_at_call 61; refine (spec_validTree _ fs D _ (Hr.out.below (by have := Hb0.out.below; (repeat (with_reducible first | exact Below.refl _ _ | assumption | refine ba ?_ _ | refine bd ?_ | refine bdN ?_ _ | refine bs ?_ (by first | exact Nat.le_refl _ | (dsimp only; omega) | (simp; done)) _ | refine bt ?_ (by assumption))))) Hz3.out).mono ?_; rintro _ w5 ⟨rfl, hb5⟩; rw [H1.out]; have Hx5 := Lib.hid (Hb0.out.step hb5); clear hb5; have a0 : w5.cell? ⟨w.heap.size, 0, none⟩ = some (.slice aa fs.length ca) := Hx5.out.cell 0)
    | (go_at_call 62; refine (spec_validPath _ path _ (Hp.out.below (by have := Hx5.out.below; (repeat (with_reducible first | exact Below.refl _ _ | assumption | refine ba ?_ _ | refine bd ?_ | refine bdN ?_ _ | refine bs ?_ (by first | exact Nat.le_refl _ | (dsimp only; omega) | (simp; done)) _ | refine bt ?_ (by assumption)))))).mono ?_; rintro _ w6 ⟨rfl, hb6⟩; rw [H2.out]; have Hx6 := Lib.hid (Hx5.out.step hb6); clear hb6; clear a0; have a0 : w6.cell? ⟨w.heap.size, 0, none⟩ = some (.slice aa fs.length ca) := Hx6.out.cell 0)
    | (go_at_call 63; refine (spec_validName s _ hsl).mono ?_; rintro _ w7 ⟨rfl, hb7⟩; rw [H3.out]; have Hx7 := Lib.hid (Hx6.out.step hb7); clear hb7; clear a0; have a0 : w7.cell? ⟨w.heap.size, 0, none⟩ = some (.slice aa fs.length ca) := Hx7.out.cell 0; have hlt7 := Hx7.out.lt))
  obtain ⟨W8, hW8⟩ : ∃ W, W = w7.alloc (.cells #[] 9) := ⟨_, rfl⟩
  rw [← hW8]
  have HX8 := Lib.hid (show Boxed w #[.slice aa fs.length ca] 31 W8 by rw [hW8]; exact Hx7.out.step (ba (Below.refl _ _) _))
  have HE8 := Lib.hid (show W8.ownsRow (w.heap.size + 1) 9 1 (.slice (some ⟨w7.heap.size, 0, none⟩) 0 0) 0 [] by rw [hW8]; exact World.ownsRow_lit (size := 1) w7 #[] 0 hlt7 (by unfold maxLen; omega) rfl)
  have hs8 : W8.heap.size = w7.heap.size + 1 := by rw [hW8]; simp
  have Hbel8 := Lib.hid HX8.out.below
  have lt8 := HX8.out.lt
  have hA8 : W8.cell? ⟨w.heap.size, 0, none⟩ = some (.slice aa fs.length ca) := HX8.out.cell 0
  have Hk := Lib.hid (fun (w' : World) (hC : Below W8.heap.size W8 w') => (⟨(HX8.out.step hC).cell 0, hC⟩ : w'.cell? ⟨w.heap.size, 0, none⟩ = some (.slice aa fs.length ca) ∧ Below W8.heap.size W8 w'))
  clear hW8 a0 Hx7 Hx6 Hx5
  go_region_held3 (fun w' => w'.cell? ⟨w.heap.size, 0, none⟩ = some (.slice aa fs.length ca) ∧ Below W8.heap.size W8 w')
    (first | exact Hk.out _ Hb10.out | exact Hk.out _ Hb9.out | exact Hk.out _ (by (repeat (with_reducible first | exact Below.refl _ _ | assumption | refine ba ?_ _ | refine bd ?_ | refine bdN ?_ _ | refine bs ?_ (by first | exact Nat.le_refl _ | (dsimp only; omega) | (simp; done)) _ | refine bt ?_ (by assumption)))))
    (first
      | (go_at_call 65; refine (spec_above s _ hsl).mono ?_; rintro _ w9 ⟨v9, rfl, hown9, hb9⟩; rw [← Hns.out] at hown9; obtain ⟨a9, c9, hv9⟩ := owns_shape hown9; subst hv9; have R9 := Lib.hid (Reads.of_owns hown9); have Hb9 := Lib.hid (show Below W8.heap.size W8 w9 by (repeat (with_reducible first | exact Below.refl _ _ | assumption | refine ba ?_ _ | refine bd ?_ | refine bdN ?_ _ | refine bs ?_ (by first | exact Nat.le_refl _ | (dsimp only; omega) | (simp; done)) _ | refine bt ?_ (by assumption)))); clear hown9 hb9)
      | (go_at_call 64; refine (spec_reach _ fs D _ path _ ns _ (Hr.out.below (bt Hbel8.out (by first | exact Hb9.out | (have := Hb9.out; (repeat (with_reducible first | exact Below.refl _ _ | assumption | refine ba ?_ _ | refine bd ?_ | refine bdN ?_ _ | refine bs ?_ (by first | exact Nat.le_refl _ | (dsimp only; omega) | (simp; done)) _ | refine bt ?_ (by assumption))))))) Hz.out Hlk.out (Hp.out.below (bt Hbel8.out (by first | exact Hb9.out | (have := Hb9.out; (repeat (with_reducible first | exact Below.refl _ _ | assumption | refine ba ?_ _ | refine bd ?_ | refine bdN ?_ _ | refine bs ?_ (by first | exact Nat.le_refl _ | (dsimp only; omega) | (simp; done)) _ | refine bt ?_ (by assumption))))))) (Reads.below R9.out (by (repeat (with_reducible first | exact Below.refl _ _ | assumption | refine ba ?_ _ | refine bd ?_ | refine bdN ?_ _ | refine bs ?_ (by first | exact Nat.le_refl _ | (dsimp only; omega) | (simp; done)) _ | refine bt ?_ (by assumption))))) hn1 (by omega) Hnd.out Hnv.out).mono ?_; rintro _ w10 ⟨v10, rfl, hown10, hb10⟩; rw [← HL.out] at hown10; obtain ⟨a10, c10, hv10⟩ := owns_shape hown10; subst hv10; have Hl10 := Lib.hid (owns_mono hown10 (show W8.heap.size ≤ _ from Nat.le_trans Hb9.out.size (by first | exact Nat.le_refl _ | exact (show Below _ _ _ by (repeat (with_reducible first | exact Below.refl _ _ | assumption | refine ba ?_ _ | refine bd ?_ | refine bdN ?_ _ | refine bs ?_ (by first | exact Nat.le_refl _ | (dsimp only; omega) | (simp; done)) _ | refine bt ?_ (by assumption)))).size))); have Hb10 := Lib.hid (Hb9.out.trans (hb10.mono Hb9.out.size)); clear hown10 hb10))
  have HE10 := Lib.hid (owns_below HE8.out Hb10.out)
  have HX10 := Lib.hid (HX8.out.step Hb10.out)
  have HLw := Lib.hid (owns_mono Hl10.out (show w.heap.size + 1 ≤ W8.heap.size from lt8))
  have Hdis := Lib.hid (show ∀ b, (Value.slice a10 L.length c10).ownBlock = some b → b ≠ w7.heap.size from fun b hb => by have := (owns_block Hl10.out hb).1; omega)
  clear hA8 Hl10 HE8 HX8 Hbel8 hs8
  go_wp2_with fail
  go_loopw [7, 9] (fun nv kv wr => ∃ (k g cp : Nat), k ≤ L.length ∧ kv = .int .i64 k ∧ nv = .slice (some ⟨g, 0, none⟩) ((L.take k).foldl insTo []).length cp ∧ wr.ownsRow (w.heap.size + 1) 9 1 (.slice (some ⟨g, 0, none⟩) ((L.take k).foldl insTo []).length cp) ((L.take k).foldl insTo []).length (((L.take k).foldl insTo []).map sv) ∧ Boxed w #[.slice aa fs.length ca] 31 wr ∧ wr.ownsRow (w.heap.size + 1) 9 1 (.slice a10 L.length c10) L.length (L.map sv) ∧ (∀ b, (Value.slice a10 L.length c10).ownBlock = some b → b ≠ g)) (fun _ kv _ => L.length - (intOf kv).toNat)
  case atStart => exact ⟨0, w7.heap.size, 0, by omega, rfl, rfl, HE10.out, HX10.out, HLw.out, Hdis.out⟩
  case round =>
    obtain ⟨k, g, cp, hk, rfl, rfl, hown, hbx, hlist, hdis⟩ := hrel
    have Hown := Lib.hid hown
    have Hbx := Lib.hid hbx
    have Hdis2 := Lib.hid hdis
    have hsz := hbx.lt
    have Hup := Lib.hid (show Up ((L.take k).foldl insTo []) from foldIns_up _ (by simp [Up]))
    have hlj : ((L.take k).foldl insTo []).length ≤ 291 := Nat.le_trans (foldIns_len _ _) (by simp; omega)
    clear hown hbx hdis HE10 HX10 HLw Hdis
    by_cases hlt : k < L.length
    · obtain ⟨gl, cl, el, hgl1, hgl2⟩ := hlist.form (by omega)
      simp only [Value.slice.injEq] at el
      obtain ⟨rfl, _, rfl⟩ := el
      have hcj : wr.cell? ⟨gl, k, none⟩ = some (.string (mk L[k])) := by
        rw [hlist.cellAt k (by omega), List.getElem?_map, List.getElem?_eq_getElem hlt]; rfl
      have Hlist := Lib.hid hlist
      have hne : gl ≠ g := Hdis2.out gl rfl
      have Hst := Lib.hid (foldIns_next [] L k hlt)
      have hk1 : (k : Int) < (L.length : Int) := by omega
      have hk0 : (0 : Int) ≤ (k : Int) := by omega
      clear hlist
      generalize L[k] = y at *
      generalize (L.take k).foldl insTo [] = M at *
      go_wp2_with (go_at_call 67; refine (spec_insertText (w.heap.size + 1) g cp M y _ Hown.out Hup.out (by omega) (by omega)).mono ?_; rintro _ w12 ⟨g7, c7, rfl, hown7, hb7, ht7, hq7⟩)
      have Hown7 := Lib.hid hown7
      have Hx7 := Lib.hid (boxed_low Hbx.out hb7)
      have Hl7 := Lib.hid (owns_turned Hlist.out ht7 (fun b hb e => hne (by cases hb; exact e)))
      have hglw : gl < wr.heap.size := (Hlist.out.lt gl rfl).2
      have hne7 : gl ≠ g7 := by omega
      clear hown7 hb7 ht7
      go_roundw
      case rel => exact ⟨k + 1, g7, c7, by omega, by go_num, by rw [Hst.out], by rw [Hst.out]; exact Hown7.out, Hx7.out, Hl7.out, fun b hb => by cases hb; exact hne7⟩
      case measure => simp [intOf]; omega
    · obtain rfl : k = L.length := by omega
      clear hlist
      rw [List.take_length] at Hown ⊢
      go_wp2_with fail
      go_ret
      refine ⟨_, rfl, ?_, Hbx.out.below⟩
      rw [Hre.out]
      exact owns_mono Hown.out (Nat.le_succ _)

/-! ### The reference's look whether a name is on a ring. -/
set_option maxRecDepth 100000 in
set_option maxHeartbeats 4000000 in
theorem spec_onRing (v : Value) (fs : List Fil) (D : Nat → Prop) (pv : Value) (path : List Int) (s : Bs) (w : World) (hr : FilsIn w D v fs) (hz : ShortT 2000000 fs) (hlk : okLook fs path = true) (hv : vn s = true) (hp : IntsIn w pv path) :
    Calls Tryz.prog 74 #[.agg #[v], pv, .string (mk s)] w fun e w' => e = .returned (.bool (onRing fs path s)) ∧ Below w.heap.size w w' := by
  have Hr := Lib.hid hr
  have Hz := Lib.hid hz
  have Hlk := Lib.hid hlk
  have Hv := Lib.hid hv
  have Hp := Lib.hid hp
  obtain ⟨aa, ca, rfl, hl, hm⟩ := hr.len
  obtain ⟨pa, pc, rfl, hl1, hm1⟩ := hp.len
  clear hr hz hlk hv hp hl hm hl1 hm1
  obtain ⟨es, hes⟩ : ∃ es, es = edgesOf fs path s := ⟨_, rfl⟩
  have hE := edgesOf_ok fs path s
  rw [← hes] at hE
  have hE24 := hE.2.2
  have HE := Lib.hid hE
  have Hes := Lib.hid hes.symm
  have hLl : (reachAll fs path es).length ≤ 312 := Nat.le_trans (reachAll_len (okLook_tree Hlk.out) hE.2.1) (by omega)
  have Hon := Lib.hid (show onRing fs path s = decide (s ∈ reachAll fs path es) by rw [hes]; rfl)
  generalize hL : reachAll fs path es = L at *
  have HL := Lib.hid hL
  clear hes hE hL
  have HX := Lib.hid (HB.new w #[.slice aa fs.length ca] 31)
  have Hb0 := Lib.hid (show Below w.heap.size w (w.alloc (.cells #[.slice aa fs.length ca] 31)) from ba (Below.refl _ _) _)
  go_enter Tryz.func74, Tryz.ntmps74
  go_wp2_with fail
  obtain ⟨W1, hW1⟩ : ∃ W, W = w.alloc (.cells #[.slice aa fs.length ca] 31) := ⟨_, rfl⟩
  rw [← hW1] at HX Hb0 ⊢
  have a0 : W1.cell? ⟨w.heap.size, 0, none⟩ = some (.slice aa fs.length ca) := HX.out.cell 0
  have Hk := Lib.hid (fun (w' : World) (hC : Below W1.heap.size W1 w') => (⟨(HX.out.step hC).cell 0, hC⟩ : w'.cell? ⟨w.heap.size, 0, none⟩ = some (.slice aa fs.length ca) ∧ Below W1.heap.size W1 w'))
  clear hW1
  go_region_held3 (fun w' => w'.cell? ⟨w.heap.size, 0, none⟩ = some (.slice aa fs.length ca) ∧ Below W1.heap.size W1 w')
    (first | exact Hk.out _ Hb10.out | exact Hk.out _ Hb9.out | exact Hk.out _ (by (repeat (with_reducible first | exact Below.refl _ _ | assumption | refine ba ?_ _ | refine bd ?_ | refine bdN ?_ _ | refine bs ?_ (by first | exact Nat.le_refl _ | (dsimp only; omega) | (simp; done)) _ | refine bt ?_ (by assumption)))))
    (first
      | (go_at_call 99; refine (spec_edges _ fs D _ path s _ (Hr.out.below (bt Hb0.out (by (repeat (with_reducible first | exact Below.refl _ _ | assumption | refine ba ?_ _ | refine bd ?_ | refine bdN ?_ _ | refine bs ?_ (by first | exact Nat.le_refl _ | (dsimp only; omega) | (simp; done)) _ | refine bt ?_ (by assumption)))))) Hz.out Hlk.out Hv.out (Hp.out.below (bt Hb0.out (by (repeat (with_reducible first | exact Below.refl _ _ | assumption | refine ba ?_ _ | refine bd ?_ | refine bdN ?_ _ | refine bs ?_ (by first | exact Nat.le_refl _ | (dsimp only; omega) | (simp; done)) _ | refine bt ?_ (by assumption))))))).mono ?_; rintro _ w9 ⟨v9, rfl, hown9, hb9⟩; rw [Hes.out] at hown9; have R9 := Lib.hid (Reads.of_owns hown9); have Hb9 := Lib.hid (show Below W1.heap.size W1 w9 by (repeat (with_reducible first | exact Below.refl _ _ | assumption | refine ba ?_ _ | refine bd ?_ | refine bdN ?_ _ | refine bs ?_ (by first | exact Nat.le_refl _ | (dsimp only; omega) | (simp; done)) _ | refine bt ?_ (by assumption)))); clear hown9 hb9)
      | (go_at_call 64; refine (spec_reachE _ fs D _ path _ es _ (Hr.out.below (bt Hb0.out (by first | exact Hb9.out | (have := Hb9.out; (repeat (with_reducible first | exact Below.refl _ _ | assumption | refine ba ?_ _ | refine bd ?_ | refine bdN ?_ _ | refine bs ?_ (by first | exact Nat.le_refl _ | (dsimp only; omega) | (simp; done)) _ | refine bt ?_ (by assumption))))))) Hz.out Hlk.out (Hp.out.below (bt Hb0.out (by first | exact Hb9.out | (have := Hb9.out; (repeat (with_reducible first | exact Below.refl _ _ | assumption | refine ba ?_ _ | refine bd ?_ | refine bdN ?_ _ | refine bs ?_ (by first | exact Nat.le_refl _ | (dsimp only; omega) | (simp; done)) _ | refine bt ?_ (by assumption))))))) (Reads.below R9.out (by (repeat (with_reducible first | exact Below.refl _ _ | assumption | refine ba ?_ _ | refine bd ?_ | refine bdN ?_ _ | refine bs ?_ (by first | exact Nat.le_refl _ | (dsimp only; omega) | (simp; done)) _ | refine bt ?_ (by assumption))))) (by omega) HE.out.2.1 HE.out.1).mono ?_; rintro _ w10 ⟨v10, rfl, hown10, hb10⟩; rw [HL.out] at hown10; have R10 := Lib.hid (Reads.of_owns hown10); have Hb10 := Lib.hid (Hb9.out.trans (hb10.mono Hb9.out.size)); clear hown10 hb10)
      | (go_at_call 80; refine (spec_hasText _ L s _ (Reads.below R10.out (by (repeat (with_reducible first | exact Below.refl _ _ | assumption | refine ba ?_ _ | refine bd ?_ | refine bdN ?_ _ | refine bs ?_ (by first | exact Nat.le_refl _ | (dsimp only; omega) | (simp; done)) _ | refine bt ?_ (by assumption))))) (by omega)).mono ?_; rintro _ _ ⟨rfl, rfl⟩))
  all_goals
    go_wp2_with fail
    go_ret
    exact ⟨ret_bool Hon.out.symm, bt Hb0.out Hb10.out⟩
end Go.Proofs.YtcmnldomcpjlcaaGreat
