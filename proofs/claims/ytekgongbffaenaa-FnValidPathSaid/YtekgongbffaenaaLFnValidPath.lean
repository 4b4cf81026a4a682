/- FnValidPath returns true for every code. -/
import Derived.Test.YtekgongbffaenaaDrawP
import Derived.Test.YtekgongbffaenaaPaths
import Derived.Test.YtekgongbffaenaaFrame
import Derived.Deep.RegionLaw
import Derived.OwnWalk
set_option linter.unusedVariables false
set_option linter.unusedSimpArgs false
namespace Go.Proofs.Ytekgongbffaenaa.FnValidPath
open Go.ChangeShapes Go.WideShapes Go.ChangeAt Go.RowKit Go.Proofs.Ytekgongbffaenaa.Nm

theorem infoIntP : (Try.prog.info? 3).map (fun i => (i.zero, i.size, i.bytes)) = some (some (.int .i64 0), 1, 8) := by kernel_rfl
theorem okPath_without {b : List Int} (h : okPath b = true) (k : Nat) : okPath (b.take k ++ b.drop (k + 1)) = true := by
  rw [← List.eraseIdx_eq_take_drop_succ]; exact okPath_erase h k
theorem owns_shapeP {w : World} {B n : Nat} {e : TypeId} {v : Value} {xs : List Value} (h : w.ownsRow B e 1 v n xs) : ∃ a c, v = .slice a n c := by
  rcases h.2 with ⟨rfl, h2⟩ | ⟨g, cap, cur, rfl, _⟩
  · exact ⟨_, _, by rw [h2]⟩
  · exact ⟨_, _, rfl⟩
theorem step_append_ownV {P : Program} {ops : Array Oper} {o : Oper} {a : Act} {w : World} {K : Act → World → Prop} {Q : Exit → Act → World → Prop} {E : Prop} (hgd : o.guard = none) (s x : Operand) (t : TypeId)
    (ho : o.op = .call { callee := .builtin .append, args := #[s, x], argTypes := #[t, t] })
    (base : Nat) (e : TypeId) (i : TypeInfo) (z : Value) (size bytes : Nat) (ht : P.underlying t = some (.slice e)) (hi : P.info? e = some i) (hz : i.zero = some z)
    (hsize : i.size = size) (hby : i.bytes = bytes) (hzs : z.cells.size = size) (hsz : 0 < size)
    (v : Value) (n : Nat) (xs : List Value) (hs : a.eval s = v) (hown : w.ownsRow base e size v n xs)
    (ad : Addr) (m c : Nat) (news : List Value) (hx : a.eval x = .slice (some ad) m c) (hl : news.length = m * size) (hnews : ∀ j u, news[j]? = some u → w.cell? (ad.add j) = some u) (h1 : ∀ u ∈ news, u.oneCell' = true)
    (h63 : n + m ≤ maxLen) (hbytes : (n + m) * bytes ≤ 140737488355328) (hbase : base ≤ w.heap.size)
    (h : ∀ v' w', w'.ownsRow base e size v' (n + m) (xs ++ news) → w.grownBy w' v.ownBlock → K (a.put o.dst v') w') :
    if Region.wanted o (yielded ops a.tmps) = true then Oper.wp P o a w K Q else E := by
  have hw : Region.wanted o (yielded ops a.tmps) = true := by simp [Region.wanted, hgd]
  rw [if_pos hw]
  exact wp_append_own w s x t ho base e i z size bytes ht hi hz hsize hby hzs hsz v n xs hs hown ad m c news hx hl hnews h1 h63 hbytes hbase (fun v' w' a b _ => h v' w' a b)

set_option maxRecDepth 100000 in
set_option maxHeartbeats 2000000 in
theorem walk (a : Option Addr) (n cap : Nat) (w : World) (hc : Code w w.heap.size a n cap) :
    Calls Try.prog 3 #[.slice a n cap] w fun e w' => e = .returned (.bool true) ∧ Below w.heap.size w w' := by
  by_cases hn : (1048576 : Int) < (n : Int)
  · go_enter Try.func3, Try.ntmps3
    go_wp2_with fail
    go_ret
    exact ⟨rfl, Below.refl _ _⟩
  · have Hc := Lib.hid hc
    clear hc
    obtain ⟨i1, hi1, hy0, hy1, hy2⟩ := info_parts infoIntP
    have Hi1 := Lib.hid hi1
    have Hy0 := Lib.hid hy0
    have Hy1 := Lib.hid hy1
    have Hy2 := Lib.hid hy2
    clear hi1 hy0 hy1 hy2
    go_enter Try.func3, Try.ntmps3
    go_wp2_with fail
    refine (spec_DrawValidPath a n cap w Hc.out).mono ?_
    rintro e w1 ⟨v, xs, rfl, hp, hl, hb1⟩
    have Hp := Lib.hid hp
    obtain ⟨g, ca, rfl, hlc, hc3, hgl, _⟩ := hp
    have Hr := Lib.hid Hp.out.ints
    have Hb1 := Lib.hid hb1
    clear hb1
    cases hok : okPath xs
    · have Hok := Lib.hid hok
      clear hok
      go_wp2_with fail
      refine (impl_ValidPath _ xs _ Hr.out).mono ?_
      rintro _ w2 ⟨rfl, rfl⟩
      rw [Hok.out]
      go_wp2_with fail
      refine (spec_ValidPath _ xs _ Hr.out).mono ?_
      rintro _ w3 ⟨rfl, hb3⟩
      rw [Hok.out]
      have Hb3 := Lib.hid hb3
      clear hb3
      go_wp2_with fail
      refine (spec_ValidPath _ xs _ (Hr.out.below Hb3.out)).mono ?_
      rintro _ w4 ⟨rfl, hb4⟩
      rw [Hok.out]
      have Hb4 := Lib.hid (bt Hb1.out (bt Hb3.out hb4))
      clear hb4
      go_wp2_with fail
      go_ret
      exact ⟨rfl, Hb4.out⟩
    · have Hok := Lib.hid hok
      clear hok
      go_wp2_with fail
      refine (impl_ValidPath _ xs _ Hr.out).mono ?_
      rintro _ w2 ⟨rfl, rfl⟩
      rw [Hok.out]
      go_wp2_with fail
      refine (spec_ValidPath _ xs _ Hr.out).mono ?_
      rintro _ w3 ⟨rfl, hb3⟩
      rw [Hok.out]
      have Hb3 := Lib.hid hb3
      clear hb3
      go_wp2_with fail
      go_loopw [5] (fun iv wr => ∃ k : Nat, k ≤ xs.length ∧ iv = .int .i64 k ∧ Below w1.heap.size w1 wr) (fun iv _ => xs.length - (intOf iv).toNat)
      case atStart => exact ⟨0, by omega, rfl, Hb3.out⟩
      case round =>
        obtain ⟨k, hk, rfl, hbel⟩ := hrel
        have Hbel := Lib.hid hbel
        by_cases hlt : k < xs.length
        · have hgw := Nat.lt_of_lt_of_le hgl hbel.size
          have H1 := Lib.hid ((Hp.out.below hbel).below (ba (bd (Below.refl wr.heap.size wr)) (.cells #[] 3)))
          have H1c := Lib.hid (show ∀ (j : Nat) (u : Value), (xs.map iv)[j]? = some u → (wr.drew.alloc (.cells #[] 3)).cell? ((⟨g, 0, none⟩ : Addr).add j) = some u by
            obtain ⟨g', c', e1, _, _, _, h⟩ := H1.out
            simp only [Value.slice.injEq, Option.some.injEq, Addr.mk.injEq] at e1
            obtain ⟨⟨rfl, _⟩, _, _⟩ := e1
            exact h)
          have HA := Lib.hid (fun (j : Nat) (u : Value) (hj : ((xs.map iv).take (k * 1))[j]? = some u) => (show (wr.drew.alloc (.cells #[] 3)).cell? ((⟨g, 0, none⟩ : Addr).add j) = some u by
            rw [List.getElem?_take] at hj
            split at hj
            · exact H1c.out j u hj
            · cases hj))
          have HlA := Lib.hid (show ((xs.map iv).take (k * 1)).length = k * 1 by rw [List.length_take, List.length_map]; omega)
          have HlB := Lib.hid (show ((xs.map iv).drop ((k + 1) * 1)).length = (xs.length - (k + 1)) * 1 by rw [List.length_drop, List.length_map]; omega)
          have Hone := Lib.hid (show ∀ u ∈ xs.map iv, u.oneCell' = true from fun u hu => by
            obtain ⟨x, _, rfl⟩ := List.mem_map.1 hu
            rfl)
          have Hw := Lib.hid (show (xs.map iv).take (k * 1) ++ (xs.map iv).drop ((k + 1) * 1) = (xs.take k ++ xs.drop (k + 1)).map iv by
            rw [List.map_append, List.map_take, List.map_drop, Nat.mul_one, Nat.mul_one])
          have Hlen := Lib.hid (show (xs.take k ++ xs.drop (k + 1)).length = 0 + k + (xs.length - (k + 1)) by rw [List.length_append, List.length_take, List.length_drop]; omega)
          have Hokw := Lib.hid (okPath_without Hok.out k)
          obtain ⟨rs, hrs⟩ : ∃ rs, rs = xs.take k ++ xs.drop (k + 1) := ⟨_, rfl⟩
          rw [← hrs] at Hw Hlen Hokw
          clear hrs
          have hne : g ≠ wr.heap.size := by omega
          have q0 : (0 : Int) ≤ (k : Int) := by omega
          have q1 : (k : Int) ≤ (ca : Int) := by omega
          have q2 : (k : Int) + 1 ≤ (xs.length : Int) := by omega
          have q3 : (0 : Int) ≤ (k : Int) + 1 := by omega
          have q4 : (xs.length : Int) ≤ (ca : Int) := by omega
          have n1 : k ≤ ca := by omega
          have n2 : k + 1 ≤ xs.length := by omega
          have n3 : k + 1 ≤ ca := by omega
          have hp2 : ((k : Int) + 1).toNat = k + 1 := by omega
          have hwr : IntKind.i64.wrap ((k : Int) + 1) = (k : Int) + 1 := by rw [IntKind.wrap_i64]; omega
          obtain ⟨o2, ho2, hif⟩ : ∃ o2 : Nat, (xs.length - (k + 1) ≠ 0 → o2 = k + 1) ∧ (if ca = k + 1 then (some ⟨g, 0, none⟩ : Option Addr) else some ⟨g, k + 1, none⟩) = some ⟨g, o2, none⟩ := by
            by_cases h : ca = k + 1
            · exact ⟨0, fun hh => absurd (show xs.length - (k + 1) = 0 by omega) hh, by rw [if_pos h]⟩
            · exact ⟨k + 1, fun _ => rfl, by rw [if_neg h]⟩
          have Ho2 := Lib.hid ho2
          clear ho2
          go_wp2_with fail
          go_region_law (first
            | (refine step_append_ownV rfl (.tmp 31) (.tmp 34) 23 rfl wr.heap.size 3 i1 _ 1 8 Try.underlying23 Hi1.out Hy0.out Hy1.out Hy2.out rfl (by decide) (.slice (some ⟨wr.heap.size, 0, none⟩) 0 0) 0 [] (by simp [Act.eval, Act.put]) (World.ownsRow_made wr.drew #[] 0 (Nat.le_refl _) (by omega) rfl) ⟨g, 0, none⟩ k ca _ (by simp [Act.eval, Act.put]) HlA.out HA.out (fun u hu => Hone.out u (List.mem_of_mem_take hu)) (by unfold maxLen; omega) (by omega) (by simp) ?_; intro v6 w6 hown6 hg6; rw [List.nil_append] at hown6; obtain ⟨a6, c6, hv6⟩ := owns_shapeP hown6; subst hv6; have Hown6 := Lib.hid hown6; have H6 := Lib.hid (H1.out.gb hg6 hne); have HB6 := Lib.hid (show Below wr.heap.size wr w6 from (ba (bd (Below.refl _ _)) _).grown hg6 (by simp) (fun b hb => by cases hb; exact Nat.le_refl _)); clear hown6 hg6)
            | (refine step_append_ownV rfl (.tmp 35) (.tmp 39) 23 rfl wr.heap.size 3 i1 _ 1 8 Try.underlying23 Hi1.out Hy0.out Hy1.out Hy2.out rfl (by decide) _ (0 + k) _ (by simp [Act.eval, Act.put]) Hown6.out ⟨g, o2, none⟩ (xs.length - (k + 1)) (ca - (k + 1)) ((xs.map iv).drop ((k + 1) * 1)) (by simp [Act.eval, Act.put]) HlB.out (fun j u hj => by
                have hjl := (List.getElem?_eq_some_iff.1 hj).1
                rw [HlB.out] at hjl
                rw [List.getElem?_drop] at hj
                obtain ⟨g', c', e1, _, _, _, h⟩ := H6.out
                simp only [Value.slice.injEq, Option.some.injEq, Addr.mk.injEq] at e1
                obtain ⟨⟨rfl, _⟩, _, _⟩ := e1
                have h := h _ u hj
                rw [Ho2.out (by omega)]
                rw [add0P] at h
                rw [show ((⟨g, k + 1, none⟩ : Addr).add j) = ⟨g, (k + 1) * 1 + j, none⟩ by simp [Addr.add]]
                exact h) (fun u hu => Hone.out u (List.mem_of_mem_drop hu)) (by unfold maxLen; omega) (by omega) (by have := HB6.out.size; omega) ?_; intro v7 w7 hown7 hg7; rw [Hw.out, ← Hlen.out] at hown7; obtain ⟨a7, c7, hv7⟩ := owns_shapeP hown7; subst hv7; have H7 := Lib.hid (IntsIn.of_owns hown7); have HB7 := Lib.hid (show Below wr.heap.size wr w7 from HB6.out.grown hg7 HB6.out.size (fun b hb => (Hown6.out.lt b hb).1)); clear hown7 hg7)
            | (go_simp; go_at_call 5; refine (impl_ValidPath _ _ _ H7.out).mono ?_; rintro _ w8 ⟨rfl, rfl⟩; rw [Hokw.out]))
          all_goals
            go_wp2_with fail
            go_roundw
            case rel => exact ⟨k + 1, by omega, by go_num, Hbel.out.trans (HB7.out.mono Hbel.out.size)⟩
            case measure => simp [intOf]; omega
        · go_wp2_with fail
          have hl3 : (xs.length : Int) ≤ 3 := by omega
          go_ret
          exact ⟨by simp; omega, bt Hb1.out Hbel.out⟩

/-! ### THE STEP TO THE ROW -/
set_option maxRecDepth 100000 in
theorem lifted (os : Os) (started : os.Started) (H : Type) (enc : TypeId × Value → H) :
    ReturnsInHanded {} Try.checked os 3 .any (Rows.fnValidPathSpec.pre6 enc Try.prog Try.f3 Rows.fnValidPathRow.domain false) (Rows.fnValidPathSpec.post enc Try.prog Try.f3 false true false false) := by
  refine returnsInHanded_of_change (C := Try.checked) own started (by kernel_rfl) Try.func3
    (ChangeSpec.witness6 (enc := enc) (C := Try.checked) false ⟨#[], #[.slice none 0 0], []⟩ 8 (by kernel_rfl) (by kernel_rfl) (by kernel_rfl) (by kernel_rfl)) ?_
  intro W base args ds gs before hval0 hW hcnd _
  have hval : ∀ (j : Nat) t v, Try.f3.params[j]? = some t → args[j]? = some v → Value.okWide Try.prog W .any base t v := hval0
  have hW' := hW
  obtain ⟨p, q, hA0, hV, rfl, hfz, hnd⟩ := hW
  have hA : DataW.TrodAll enc Try.prog W 0 (fun _ => true) true Try.f3.params.toList args.toList ds p := hA0
  rw [Try.params3] at hA hval
  obtain ⟨v0, vs0, d0, ds0, p0, q0, hargs, rfl, rfl, h0, r0⟩ := trodAll_cons hA
  obtain ⟨rfl, rfl, rfl⟩ := trodAll_nil r0
  obtain rfl : args = #[v0] := by cases args; simp_all
  obtain ⟨rfl, rfl⟩ := trodVars_none hV
  obtain ⟨a0, len0, cap0, rfl⟩ := okWide_slice Try.underlying22 (hval 0 22 v0 rfl rfl)
  have k0 := h0
  have lt0 : ∀ x ∈ p0, x.block < W.heap.size := by obtain ⟨m, hm⟩ := k0; exact DataW.trod_lt m _ _ _ hm
  have w0 : Code W W.heap.size a0 len0 cap0 := by
    obtain ⟨fuel, hf⟩ := h0
    rcases open_ints Try.underlying22 Try.underlying5 (by kernel_rfl) hf with ⟨hcs, _⟩ | ⟨x, l, c, zs, hcs, _, hl, hm, hz, _, hcell, hwz⟩
    · simp [Value.cells] at hcs
      obtain ⟨rfl, rfl, rfl⟩ := hcs
      exact .inl ⟨rfl, by unfold maxLen; omega⟩
    · simp [Value.cells] at hcs
      obtain ⟨rfl, rfl, rfl⟩ := hcs
      exact code_row W _ _ _ zs hl hm (by simpa using hz) hcell hwz
  clear hA0 hval0
  refine (walk a0 len0 cap0 W w0).mono fun e W' ⟨he, bel⟩ => ?_
  subst he
  exact ⟨_, rfl, _, _, _, [], _, [], hW', trodAll_mk1 (shut_bool Try.underlying4 _), (trodAll_cons_mk (Below.trod laidOut (by kernel_rfl) (of_decide_eq_true (by kernel_rfl)) k0 bel lt0) trodAll_mk0), rfl, bel.frame _, fun h => by cases h⟩

theorem over : Rows.fnValidPathRow.holds Try.pinned (OpenSpec.ofChange Rows.fnValidPathSpec) :=
  OpenClaim.holds_of_wide 3 Try.f3 rfl rfl rfl rfl rfl rfl rfl ⟨rfl, rfl, rfl, rfl, rfl⟩ rfl rfl rfl rfl rfl (by kernel_rfl) Try.func3 (by kernel_rfl)
    (of_decide_eq_true (by kernel_rfl)) (by unfold Func.isWrapper; first | (rw [if_pos (by decide +kernel)]; kernel_rfl) | (rw [if_neg (by decide +kernel)]; exact ⟨rfl, rfl⟩))
    (fun os started H enc _ => lifted os started H enc)

/-- THE STATEMENT -/
theorem proved : Rows.FnValidPathSaid := over
end Go.Proofs.Ytekgongbffaenaa.FnValidPath
