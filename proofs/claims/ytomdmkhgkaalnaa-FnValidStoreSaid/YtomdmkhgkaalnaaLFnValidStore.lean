/- FnValidStore returns true for every code. -/
import Derived.Test.YtomdmkhgkaalnaaDrawQ
import Derived.Test.YtomdmkhgkaalnaaStores2
import Derived.Test.YtomdmkhgkaalnaaStores3
import Derived.Test.YtomdmkhgkaalnaaFrame
import Derived.Deep.RegionLaw
import Derived.OwnWalk
set_option linter.unusedVariables false
set_option linter.unusedSimpArgs false
namespace Go.Proofs.Ytomdmkhgkaalnaa.FnValidStore
open Go.ChangeShapes Go.WideShapes Go.ChangeAt Go.RowKit Go.Proofs.Ytomdmkhgkaalnaa.Nm

theorem step_append_ownV {P : Program} {ops : Array Oper} {o : Oper} {a : Act} {w : World} {K : Act → World → Prop} {Q : Exit → Act → World → Prop} {E : Prop} (hgd : o.guard = none) (s x : Operand) (t : TypeId)
    (ho : o.op = .call { callee := .builtin .append, args := #[s, x], argTypes := #[t, t] })
    (base : Nat) (e : TypeId) (i : TypeInfo) (z : Value) (size bytes : Nat) (ht : P.underlying t = some (.slice e)) (hi : P.info? e = some i) (hz : i.zero = some z)
    (hsize : i.size = size) (hby : i.bytes = bytes) (hzs : z.cells.size = size) (hsz : 0 < size)
    (v : Value) (n : Nat) (xs : List Value) (hs : a.eval s = v) (hown : w.ownsRow base e size v n xs)
    (ad : Addr) (m c : Nat) (news : List Value) (hx : a.eval x = .slice (some ad) m c) (hl : news.length = m * size) (hnews : ∀ j u, news[j]? = some u → w.cell? (ad.add j) = some u) (h1 : ∀ u ∈ news, u.oneCell' = true)
    (h63 : n + m ≤ maxLen) (hbytes : (n + m) * bytes ≤ 140737488355328) (hbase : base ≤ w.heap.size)
    (h : ∀ v' w', w'.ownsRow base e size v' (n + m) (xs ++ news) → w.grownBy w' v.ownBlock → K (a.put o.dst v') w') :
    if Region.wanted o (yielded ops a.tmps) = true then Oper.wp P o a w K Q else E := by
  have hw : Region.wanted o (yielded ops a.tmps) = true := by simp [Region.wanted, hgd]
  rw [if_pos hw]
  exact wp_append_own w s x t ho base e i z size bytes ht hi hz hsize hby hzs hsz v n xs hs hown ad m c news hx hl hnews h1 h63 hbytes hbase (fun v' w' a b _ => h v' w' a b)

theorem cmp_oneD {qs : List (Cmp × Value)} (h : ∀ p ∈ qs, ∃ a n c, p.2 = .slice a n c) : ∀ x ∈ qs.flatMap cmpCells, x.oneCell' = true := fun x hx => by
  obtain ⟨p, hp, h1⟩ := List.mem_flatMap.1 hx
  exact cmp_one p (h p hp) x h1
theorem okStore_without {cs : List Cmp} (h : okStore cs = true) (k : Nat) : okStore (cs.take k ++ cs.drop (k + 1)) = true := by
  obtain ⟨h1, h2, h3⟩ := okStore_facts h
  have hs : (cs.take k ++ cs.drop (k + 1)).Sublist cs := by
    have e : cs.take k ++ cs.drop (k + 1) = cs.eraseIdx k := (List.eraseIdx_eq_take_drop_succ cs k).symm
    rw [e]; exact List.eraseIdx_sublist cs k
  unfold okStore
  simp only [Bool.and_eq_true, decide_eq_true_eq]
  exact ⟨⟨List.all_eq_true.2 (fun c hc => h1 c (hs.subset hc)), (hs.map cplace).nodup h2⟩, Nat.le_trans hs.length_le h3⟩
set_option maxRecDepth 100000 in
set_option maxHeartbeats 2000000 in
theorem walk (a : Option Addr) (n cap : Nat) (w : World) (hc : Code w w.heap.size a n cap) :
    Calls Try.prog 5 #[.slice a n cap] w fun e w' => e = .returned (.bool true) ∧ Below w.heap.size w w' := by
  by_cases hn : (1048576 : Int) < (n : Int)
  · go_enter Try.func5, Try.ntmps5
    go_wp2_with fail
    go_ret
    exact ⟨rfl, Below.refl _ _⟩
  · have Hc := Lib.hid hc
    clear hc
    obtain ⟨i1, hi1, hy0, hy1, hy2⟩ := info_parts infoCmp
    have Hi1 := Lib.hid hi1
    have Hy0 := Lib.hid hy0
    have Hy1 := Lib.hid hy1
    have Hy2 := Lib.hid hy2
    clear hi1 hy0 hy1 hy2
    go_enter Try.func5, Try.ntmps5
    go_wp2_with fail
    refine (spec_DrawValidStore a n cap w Hc.out).mono ?_
    rintro e w1 ⟨v, ss, rfl, ⟨hrows, hfine, hl4⟩, hb1⟩
    obtain ⟨aa, ca, rfl⟩ := hrows.len
    have Hs8 := Lib.hid (show ShortCs 2000000 (ss.map (·.1)) from fun c hc => by obtain ⟨p, hp, rfl⟩ := List.mem_map.1 hc; exact shortC_mono (by omega) (hfine p hp).1)
    have Hrows := Lib.hid hrows
    have Hown := Lib.hid hrows.1
    have Hr := Lib.hid (show CmpsIn w1 (fun _ => True) (.slice aa ss.length ca) (ss.map (·.1)) from hrows.fils (fun _ _ => trivial))
    have Hbods := Lib.hid hrows.2.1
    have Hone := Lib.hid (cmp_oneD (qs := ss) (fun p hp => by obtain ⟨a, c, e⟩ := owns_shape (hrows.2.1 p hp); exact ⟨a, _, c, e⟩))
    have Hb1 := Lib.hid hb1
    clear hrows hfine hb1
    cases hok : okStore (ss.map (·.1))
    · have Hok := Lib.hid hok
      clear hok
      go_wp2_with fail
      refine (impl_ValidStore _ (ss.map (·.1)) (fun _ => True) _ Hr.out Hs8.out).mono ?_
      rintro _ w2 ⟨rfl, hb2⟩
      rw [Hok.out]
      go_wp2_with fail
      refine (spec_ValidStore _ (ss.map (·.1)) (fun _ => True) _ (Hr.out.below hb2) Hs8.out).mono ?_
      rintro _ w3 ⟨rfl, hb3⟩
      rw [Hok.out]
      have Hb3 := Lib.hid (bt hb2 hb3)
      clear hb2 hb3
      go_wp2_with fail
      refine (spec_ValidStore _ (ss.map (·.1)) (fun _ => True) _ (Hr.out.below Hb3.out) Hs8.out).mono ?_
      rintro _ w4 ⟨rfl, hb4⟩
      rw [Hok.out]
      have Hb4 := Lib.hid (bt Hb1.out (bt Hb3.out hb4))
      clear hb4
      go_wp2_with fail
      go_ret
      exact ⟨rfl, Hb4.out⟩
    · have Hok := Lib.hid hok
      clear hok
      go_wp2_with fail
      refine (impl_ValidStore _ (ss.map (·.1)) (fun _ => True) _ Hr.out Hs8.out).mono ?_
      rintro _ w2 ⟨rfl, hb2⟩
      rw [Hok.out]
      go_wp2_with fail
      refine (spec_ValidStore _ (ss.map (·.1)) (fun _ => True) _ (Hr.out.below hb2) Hs8.out).mono ?_
      rintro _ w3 ⟨rfl, hb3⟩
      rw [Hok.out]
      have Hb3 := Lib.hid (bt hb2 hb3)
      clear hb2 hb3
      go_wp2_with fail
      go_loopw [5] (fun iv wr => ∃ k : Nat, k ≤ ss.length ∧ iv = .int .i64 k ∧ Below w1.heap.size w1 wr) (fun iv _ => ss.length - (intOf iv).toNat)
      case atStart => exact ⟨0, by omega, rfl, Hb3.out⟩
      case round =>
        obtain ⟨k, hk, rfl, hbel⟩ := hrel
        have Hbel := Lib.hid hbel
        by_cases hlt : k < ss.length
        · have hrow := owns_below Hown.out hbel
          obtain ⟨g, cap', e1, hg, hg2⟩ := hrow.form (by omega)
          simp only [Value.slice.injEq] at e1
          obtain ⟨rfl, _, rfl⟩ := e1
          have hgl := (hrow.lt g rfl).2
          have hcap : ss.length ≤ ca := by obtain ⟨a', c', h1, h2, _⟩ := Hr.out.len; simp only [Value.slice.injEq, List.length_map] at h1 h2; omega
          have hcm : ca ≤ maxLen := by obtain ⟨a', c', h1, h2, h3⟩ := Hr.out.len; simp only [Value.slice.injEq] at h1; omega
          unfold maxLen at hcm
          have hfl := fm_len cmpCells 8 ss cmpCells_len
          have H1 := Lib.hid (owns_below hrow (ba (bd (Below.refl wr.heap.size wr)) (.cells #[] 53)))
          have HA := Lib.hid (fun (j : Nat) (u : Value) (hj : ((ss.flatMap cmpCells).take (k * 8))[j]? = some u) => (show (wr.drew.alloc (.cells #[] 53)).cell? ((⟨g, 0, none⟩ : Addr).add j) = some u by
            rw [List.getElem?_take] at hj
            split at hj
            · exact H1.out.cells rfl j u hj
            · cases hj))
          have HlA := Lib.hid (show ((ss.flatMap cmpCells).take (k * 8)).length = k * 8 by rw [List.length_take, hfl]; omega)
          have HlB := Lib.hid (show ((ss.flatMap cmpCells).drop ((k + 1) * 8)).length = (ss.length - (k + 1)) * 8 by rw [List.length_drop, hfl]; omega)
          have Hw := Lib.hid (show (ss.flatMap cmpCells).take (k * 8) ++ (ss.flatMap cmpCells).drop ((k + 1) * 8) = (ss.take k ++ ss.drop (k + 1)).flatMap cmpCells by
            have hA := fm_take_len cmpCells 8 ss k hlt cmpCells_len
            have e2 := fm_split cmpCells ss k hlt
            rw [List.flatMap_append]
            congr 1
            · rw [e2, List.take_left' hA]
            · rw [e2, ← List.append_assoc, List.drop_left' (by rw [List.length_append, hA, cmpCells_len]; omega)])
          have Hlen := Lib.hid (show (ss.take k ++ ss.drop (k + 1)).length = 0 + k + (ss.length - (k + 1)) by rw [List.length_append, List.length_take, List.length_drop]; omega)
          have Hokw := Lib.hid (show okStore ((ss.take k ++ ss.drop (k + 1)).map (·.1)) = true by have h := okStore_without Hok.out k; rwa [← List.map_take, ← List.map_drop, ← List.map_append] at h)
          have Hmem := Lib.hid (show ∀ s ∈ ss.take k ++ ss.drop (k + 1), s ∈ ss from fun s hs => by
            rcases List.mem_append.1 hs with hs | hs
            · exact List.mem_of_mem_take hs
            · exact List.mem_of_mem_drop hs)
          have Hsw := Lib.hid (show ShortCs 2000000 ((ss.take k ++ ss.drop (k + 1)).map (·.1)) from fun c hc => by obtain ⟨p, hp, rfl⟩ := List.mem_map.1 hc; exact Hs8.out _ (List.mem_map.2 ⟨p, Hmem.out p hp, rfl⟩))
          obtain ⟨rs, hrs⟩ : ∃ rs, rs = ss.take k ++ ss.drop (k + 1) := ⟨_, rfl⟩
          rw [← hrs] at Hw Hlen Hokw Hsw Hmem
          clear hrs
          have hne : g ≠ wr.heap.size := by omega
          have q0 : (0 : Int) ≤ (k : Int) := by omega
          have q1 : (k : Int) ≤ (ca : Int) := by omega
          have q2 : (k : Int) + 1 ≤ (ss.length : Int) := by omega
          have q3 : (0 : Int) ≤ (k : Int) + 1 := by omega
          have q4 : (ss.length : Int) ≤ (ca : Int) := by omega
          have n1 : k ≤ ca := by omega
          have n2 : k + 1 ≤ ss.length := by omega
          have n3 : k + 1 ≤ ca := by omega
          have hp2 : ((k : Int) + 1).toNat = k + 1 := by omega
          have hwr : IntKind.i64.wrap ((k : Int) + 1) = (k : Int) + 1 := by rw [IntKind.wrap_i64]; omega
          obtain ⟨o2, ho2, hif⟩ : ∃ o2 : Nat, (ss.length - (k + 1) ≠ 0 → o2 = (k + 1) * 8) ∧ (if ca = k + 1 then (some ⟨g, 0, none⟩ : Option Addr) else some ⟨g, (k + 1) * 8, none⟩) = some ⟨g, o2, none⟩ := by
            by_cases h : ca = k + 1
            · exact ⟨0, fun hh => absurd (show ss.length - (k + 1) = 0 by omega) hh, by rw [if_pos h]⟩
            · exact ⟨(k + 1) * 8, fun _ => rfl, by rw [if_neg h]⟩
          have Ho2 := Lib.hid ho2
          clear hrow hfl hg hg2 ho2
          go_wp2_with fail
          go_region_law (first
            | (refine step_append_ownV rfl (.tmp 31) (.tmp 34) 28 rfl wr.heap.size 53 i1 _ 8 88 Try.underlying28 Hi1.out Hy0.out Hy1.out Hy2.out rfl (by decide) (.slice (some ⟨wr.heap.size, 0, none⟩) 0 0) 0 [] (by simp [Act.eval, Act.put]) (World.ownsRow_made wr.drew #[] 0 (Nat.le_refl _) (by omega) rfl) ⟨g, 0, none⟩ k ca _ (by simp [Act.eval, Act.put]) HlA.out HA.out (fun u hu => Hone.out u (List.mem_of_mem_take hu)) (by unfold maxLen; omega) (by omega) (by simp) ?_; intro v6 w6 hown6 hg6; rw [List.nil_append] at hown6; obtain ⟨a6, c6, hv6⟩ := owns_shape hown6; subst hv6; have Hown6 := Lib.hid hown6; have H6 := Lib.hid (H1.out.kept hg6 (.inr (by simp [Value.ownBlock]; omega))); have HB6 := Lib.hid (show Below wr.heap.size wr w6 from (ba (bd (Below.refl _ _)) _).grown hg6 (by simp) (fun b hb => by cases hb; exact Nat.le_refl _)); clear hown6 hg6)
            | (refine step_append_ownV rfl (.tmp 35) (.tmp 39) 28 rfl wr.heap.size 53 i1 _ 8 88 Try.underlying28 Hi1.out Hy0.out Hy1.out Hy2.out rfl (by decide) _ (0 + k) _ (by simp [Act.eval, Act.put]) Hown6.out ⟨g, o2, none⟩ (ss.length - (k + 1)) (ca - (k + 1)) ((ss.flatMap cmpCells).drop ((k + 1) * 8)) (by simp [Act.eval, Act.put]) HlB.out (fun j u hj => by
                have hjl := (List.getElem?_eq_some_iff.1 hj).1
                rw [HlB.out] at hjl
                rw [List.getElem?_drop] at hj
                have h := H6.out.cells rfl _ u hj
                rw [Ho2.out (by omega)]
                rw [show ((⟨g, (k + 1) * 8, none⟩ : Addr).add j) = (⟨g, 0, none⟩ : Addr).add ((k + 1) * 8 + j) by simp [Addr.add]]
                exact h) (fun u hu => Hone.out u (List.mem_of_mem_drop hu)) (by unfold maxLen; omega) (by omega) (by have := HB6.out.size; omega) ?_; intro v7 w7 hown7 hg7; rw [Hw.out, ← Hlen.out] at hown7; obtain ⟨a7, c7, hv7⟩ := owns_shape hown7; subst hv7; have H7 := Lib.hid (show CmpsIn w7 (fun _ => True) _ (rs.map (·.1)) from CmpsIn.of_owns hown7 (fun _ _ => trivial) (fun p hp => StmsIn.of_owns (owns_below (Hbods.out p (Hmem.out p hp)) (Hbel.out.trans ((HB6.out.grown hg7 HB6.out.size (fun b hb => (Hown6.out.lt b hb).1)).mono Hbel.out.size))) (fun _ _ => trivial))); have HB7 := Lib.hid (show Below wr.heap.size wr w7 from HB6.out.grown hg7 HB6.out.size (fun b hb => (Hown6.out.lt b hb).1)); clear hown7 hg7)
            | (go_simp; go_at_call 31; refine (impl_ValidStore _ _ (fun _ => True) _ H7.out Hsw.out).mono ?_; rintro _ w8 ⟨rfl, hb8⟩; rw [Hokw.out]))
          all_goals
            go_wp2_with fail
            go_roundw
            case rel => exact ⟨k + 1, by omega, by go_num, Hbel.out.trans ((bt HB7.out (by (repeat (with_reducible first | exact Below.refl _ _ | assumption | refine ba ?_ _ | refine bd ?_ | refine bdN ?_ _ | refine bs ?_ (by first | exact Nat.le_refl _ | (dsimp only; omega) | (simp; done)) _ | refine bt ?_ (by assumption))))).mono Hbel.out.size)⟩
            case measure => simp [intOf]; omega
        · have Hb4 := Lib.hid (bt Hb1.out Hbel.out)
          go_wp2_with fail
          go_ret
          exact ⟨rfl, Hb4.out⟩

/-! ### THE STEP TO THE ROW -/
set_option maxRecDepth 100000 in
theorem lifted (os : Os) (started : os.Started) (H : Type) (enc : TypeId × Value → H) :
    ReturnsInHanded {} Try.checked os 5 .any (Rows.fnValidStoreSpec.pre6 enc Try.prog Try.f5 Rows.fnValidStoreRow.domain false) (Rows.fnValidStoreSpec.post enc Try.prog Try.f5 false true false false) := by
  refine returnsInHanded_of_change (C := Try.checked) own started (by kernel_rfl) Try.func5
    (ChangeSpec.witness6 (enc := enc) (C := Try.checked) false ⟨#[], #[.slice none 0 0], []⟩ 8 (by kernel_rfl) (by kernel_rfl) (by kernel_rfl) (by kernel_rfl)) ?_
  intro W base args ds gs before hval0 hW hcnd _
  have hval : ∀ (j : Nat) t v, Try.f5.params[j]? = some t → args[j]? = some v → Value.okWide Try.prog W .any base t v := hval0
  have hW' := hW
  obtain ⟨p, q, hA0, hV, rfl, hfz, hnd⟩ := hW
  have hA : DataW.TrodAll enc Try.prog W 0 (fun _ => true) true Try.f5.params.toList args.toList ds p := hA0
  rw [Try.params5] at hA hval
  obtain ⟨v0, vs0, d0, ds0, p0, q0, hargs, rfl, rfl, h0, r0⟩ := trodAll_cons hA
  obtain ⟨rfl, rfl, rfl⟩ := trodAll_nil r0
  obtain rfl : args = #[v0] := by cases args; simp_all
  obtain ⟨rfl, rfl⟩ := trodVars_none hV
  obtain ⟨a0, len0, cap0, rfl⟩ := okWide_slice Try.underlying47 (hval 0 47 v0 rfl rfl)
  have k0 := h0
  have lt0 : ∀ x ∈ p0, x.block < W.heap.size := by obtain ⟨m, hm⟩ := k0; exact DataW.trod_lt m _ _ _ hm
  have w0 : Code W W.heap.size a0 len0 cap0 := by
    obtain ⟨fuel, hf⟩ := h0
    rcases open_ints Try.underlying47 Try.underlying5 (by kernel_rfl) hf with ⟨hcs, _⟩ | ⟨x, l, c, zs, hcs, _, hl, hm, hz, _, hcell, hwz⟩
    · simp [Value.cells] at hcs
      obtain ⟨rfl, rfl, rfl⟩ := hcs
      exact .inl ⟨rfl, by unfold maxLen; omega⟩
    · simp [Value.cells] at hcs
      obtain ⟨rfl, rfl, rfl⟩ := hcs
      exact code_row W _ _ _ zs hl hm (by simpa using hz) hcell hwz
  clear hA0 hval0
  refine (walk a0 len0 cap0 W w0).mono fun e W' ⟨he, bel⟩ => ?_
  subst he
  exact ⟨_, rfl, _, _, _, [], _, [], hW', trodAll_mk1 (shut_bool Try.underlying4 _), (trodAll_cons_mk (Below.trod laidOut (by kernel_rfl) (of_decide_eq_true (by kernel_rfl)) k0 bel lt0) trodAll_mk0), rfl, bel.frame _, fun h => by cases h⟩

theorem over : Rows.fnValidStoreRow.holds Try.pinned (OpenSpec.ofChange Rows.fnValidStoreSpec) :=
  OpenClaim.holds_of_wide 5 Try.f5 rfl rfl rfl rfl rfl rfl rfl ⟨rfl, rfl, rfl, rfl, rfl⟩ rfl rfl rfl rfl rfl (by kernel_rfl) Try.func5 (by kernel_rfl)
    (of_decide_eq_true (by kernel_rfl)) (by unfold Func.isWrapper; first | (rw [if_pos (by decide +kernel)]; kernel_rfl) | (rw [if_neg (by decide +kernel)]; exact ⟨rfl, rfl⟩))
    (fun os started H enc _ => lifted os started H enc)

/-- THE STATEMENT -/
theorem proved : Rows.FnValidStoreSaid := over
end Go.Proofs.Ytomdmkhgkaalnaa.FnValidStore
