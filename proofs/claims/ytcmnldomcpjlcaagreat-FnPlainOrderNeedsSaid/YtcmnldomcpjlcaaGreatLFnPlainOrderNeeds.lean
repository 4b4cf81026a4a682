/- FnPlainOrderNeeds returns true for every code. Written by mkp7.py. -/
import Derived.Test.YtcmnldomcpjlcaaGreatDrawZ

import Derived.Test.YtcmnldomcpjlcaaGreatLooks
import Derived.Test.YtcmnldomcpjlcaaGreatMiss
import Derived.Test.YtcmnldomcpjlcaaGreatTrees
import Derived.Test.YtcmnldomcpjlcaaGreatTexts
import Derived.Test.YtcmnldomcpjlcaaGreatFrame
import Derived.Test.YtcmnldomcpjlcaaGreatFacts
import Derived.Deep.RegionHeld3
set_option linter.unusedVariables false
set_option linter.unusedSimpArgs false
namespace Go.Proofs.YtcmnldomcpjlcaaGreat.FnPlainOrderNeeds
open Go.Sort Go.ChangeShapes Go.WideShapes Go.ChangeAt Go.RowKit Go.Proofs.YtcmnldomcpjlcaaGreat.Nm

open Go in
theorem step_append_both {P : Program} {w : World} {ops : Array Oper} {o : Oper} {a : Act} {K : Act → World → Prop} {Q : Exit → Act → World → Prop} {E : Prop} (hgd : o.guard = none) (s x : Operand) (t : TypeId)
    (ho : o.op = .call { callee := .builtin .append, args := #[s, x], argTypes := #[t, t] })
    (base : Nat) (e : TypeId) (i : TypeInfo) (z : Value) (size bytes : Nat) (ht : P.underlying t = some (.slice e)) (hi : P.info? e = some i) (hz : i.zero = some z)
    (hsize : i.size = size) (hby : i.bytes = bytes) (hzs : z.cells.size = size) (hsz : 0 < size)
    (v : Value) (n : Nat) (xs : List Value) (hs : a.eval s = v) (hown : w.ownsRow base e size v n xs)
    (B' : Nat) (u : Value) (m : Nat) (news : List Value) (hx : a.eval x = u) (hsrc : w.ownsRow B' e size u m news) (h1 : ∀ u ∈ news, u.oneCell' = true)
    (h63 : n + m ≤ maxLen) (hbytes : (n + m) * bytes ≤ 140737488355328) (hbase : base ≤ w.heap.size)
    (h : ∀ v' w', w'.ownsRow base e size v' (n + m) (xs ++ news) → w.grownBy w' v.ownBlock → K (a.put o.dst v') w') :
    if Region.wanted o (yielded ops a.tmps) = true then Oper.wp P o a w K Q else E := by
  rw [if_pos (by unfold Region.wanted; rw [hgd])]
  rcases hsrc.2 with ⟨hu, hm⟩ | ⟨g, cap, cur, hu, hrest⟩
  · subst hm
    have hn : news = [] := List.eq_nil_of_length_eq_zero (by simpa using hsrc.1)
    subst hn
    have hrun := run_append_owned_none (P := P) (w := w) base t o.type e i size ht hi v n xs hown
    unfold Oper.wp
    simp [execOp, ho, resolve, invoke, builtin, hs, hx.trans hu, hrun, Result.andThen]
    exact h v w (by simpa using hown) ⟨rfl, rfl, rfl, Nat.le_refl _, fun _ _ _ => rfl⟩
  · exact wp_append_own w s x t ho base e i z size bytes ht hi hz hsize hby hzs hsz v n xs hs hown ⟨g, 0, none⟩ m cap news (hx.trans hu) hsrc.1 (hsrc.cells (by rw [hu]; rfl)) h1 h63 hbytes hbase (fun v' w' a b _ => h v' w' a b)
theorem ex_first {P : Nat → Prop} (n : Nat) (h : P n) : ∃ m, m ≤ n ∧ P m ∧ ∀ j, j < m → ¬ P j := by
  induction n using Nat.strongRecOn with
  | _ n ih =>
    by_cases hx : ∃ j, j < n ∧ P j
    · obtain ⟨j, hj, hp⟩ := hx
      obtain ⟨m, a, b, c⟩ := ih j hj hp
      exact ⟨m, by omega, b, c⟩
    · exact ⟨n, Nat.le_refl _, h, fun j hj hp => hx ⟨j, hj, hp⟩⟩
theorem textAt_le {ns : List Bs} {y : Bs} {k i : Nat} (hi : i ≤ k) (h : ns[i]? = some y) : ∃ tt : Nat, tt ≤ k ∧ ∀ W, ∀ e W', TextAtX ns y W e W' → e = .returned (.int .i64 (tt : Int)) ∧ W = W' := by
  obtain ⟨m, hm, hm1, hm2⟩ := ex_first (P := fun i => ns[i]? = some y) i h
  refine ⟨m, Nat.le_trans hm hi, ?_⟩
  rintro W e W' ⟨j, rfl, rfl, ⟨k1, rfl, h1, h2⟩ | ⟨_, h1⟩⟩
  · refine ⟨?_, rfl⟩
    have : m = k1 := by
      rcases Nat.lt_trichotomy m k1 with h3 | h3 | h3
      · exact absurd hm1 (h2 _ h3)
      · exact h3
      · exact absurd h1 (hm2 _ h3)
    rw [this]
  · exact absurd (List.mem_of_getElem? h) h1
theorem reads_shape {w : World} {v : Value} {xs : List Bs} (h : Reads w v xs) : ∃ a c, v = .slice a xs.length c := by
  rcases h with ⟨rfl, rfl⟩ | ⟨b, off, cap, rfl, _⟩ <;> exact ⟨_, _, rfl⟩
set_option maxRecDepth 100000 in
set_option maxHeartbeats 8000000 in
theorem walk (a : Option Addr) (n cap : Nat) (w : World) (hc : Code w w.heap.size a n cap) :
    Calls Tryz.prog 11 #[.slice a n cap] w fun e w' => e = .returned (.bool true) ∧ Below w.heap.size w w' := by
  by_cases hn : (1048576 : Int) < (n : Int)
  · go_enter Tryz.func11, Tryz.ntmps11
    go_wp2_with fail
    go_ret
    exact ⟨rfl, Below.refl _ _⟩
  have Hc := Lib.hid hc
  clear hc
  have hf0 := fld0
  have hf1 := fld1
  go_enter Tryz.func11, Tryz.ntmps11
  go_wp2_with fail
  refine (spec_DrawPlainOrder a n cap w Hc.out).mono ?_
  rintro e w1 ⟨v, ps, pv, xs, s, rfl, ⟨hrows, hsh, hl, hb5, hb1⟩, hp, hx3, hs17⟩
  obtain ⟨va, vc, rfl⟩ := hrows.len
  have HR := Lib.hid hrows
  obtain ⟨fs, hfs⟩ : ∃ fs, fs = ps.map (·.1) := ⟨_, rfl⟩
  have Hfs := Lib.hid hfs
  have hfl : fs.length = ps.length := by rw [hfs, List.length_map]
  have HF := Lib.hid (show FilsIn w1 (fun _ => True) (.slice va ps.length vc) fs by rw [hfs]; exact hrows.fils)
  have Hz8 := Lib.hid (show ShortT 8000000 fs by rw [hfs]; exact shortT_mono (by omega) hsh)
  have Hz2 := Lib.hid (show ShortT 2000000 fs by rw [hfs]; exact shortT_mono (by omega) hsh)
  have Hb1 := Lib.hid hb1
  have B0 := Nm.Boxed.start w1 #[.slice va ps.length vc] 31
  have hl11 : fs.length ≤ 11 := by omega
  clear hrows hsh hb5 hb1 hfs
  generalize ps.length = pn at *
  subst hfl
  have X1 := Lib.hid B0
  clear B0
  obtain ⟨pa, pc, rfl⟩ := hp.len
  have HP := Lib.hid hp.ints
  clear hp
  obtain ⟨ns, hns⟩ : ∃ x, x = plainOrder fs xs s := ⟨_, rfl⟩
  have hnl : ns.length ≤ 291 := by rw [hns]; exact plainOrder_len _ _ _
  have Hns := Lib.hid hns
  clear hns
  rcases (show okPlain fs xs s = true ∨ okPlain fs xs s = false by cases okPlain fs xs s <;> simp) with hok | hok
  · obtain ⟨q1, ⟨o, q2⟩, q3, q4⟩ := plain_order hok
    have hrl := (reachOf_facts fs xs s).1
    rw [← Hns.out] at q1 q2 q3 q4
    have hpos : 0 < ns.length := by rw [q2]; simp
    have Hq := Lib.hid q1
    have Hla := Lib.hid (show ns[ns.length - 1]? = some s by rw [q2]; simp)
    have Hvs := Lib.hid (show ∀ x ∈ ns, x.length ≤ 8000000 from fun x hx => Nat.le_trans (vn_len (q3 x hx).2) (by omega))
    have Hin := Lib.hid (show ∀ x ∈ ns, x ∈ reachOf fs xs s from fun x hx => (q3 x hx).1)
    have Hni := Lib.hid q4
    generalize hLL : reachOf fs xs s = L at *
    have HLL := Lib.hid hLL
    have Hok := Lib.hid hok
    clear hLL hok q1 q2 q3 q4
    obtain ⟨i0, hi, hz0, hz1, hz2⟩ := info_parts infoS
    have Hi := Lib.hid hi
    have Hy0 := Lib.hid hz0
    have Hy1 := Lib.hid hz1
    have Hy2 := Lib.hid hz2
    clear hi hz0 hz1 hz2
    go_wp2_with fail
    refine (impl_PlainOrder _ fs (fun _ => True) _ xs s _ (HF.out.below X1.out.below) Hz2.out (HP.out.below X1.out.below) (by omega)).mono ?_
    rintro _ w2 ⟨v2, rfl, hown2, hb2⟩
    rw [← Hns.out] at hown2
    rw [Hok.out]
    have R2 := Lib.hid (Reads.of_owns hown2)
    obtain ⟨a2, c2, rfl⟩ := owns_shape hown2
    have X2 := Lib.hid (X1.out.step hb2)
    have x2 : w2.cell? ⟨w1.heap.size, 0, none⟩ = some (.slice va fs.length vc) := X2.out.cell 0
    clear hb2 hown2
    go_wp2_with fail
    refine (spec_PlainOrder _ fs (fun _ => True) _ xs s _ (HF.out.below X2.out.below) Hz2.out (HP.out.below X2.out.below) (by omega)).mono ?_
    rintro _ w3 ⟨v3, rfl, hown3, hb3⟩
    rw [← Hns.out] at hown3
    rw [Hok.out]
    have R3 := Lib.hid (Reads.of_owns hown3)
    obtain ⟨a3, c3, rfl⟩ := owns_shape hown3
    have X3 := Lib.hid (X2.out.step hb3)
    have x3 : w3.cell? ⟨w1.heap.size, 0, none⟩ = some (.slice va fs.length vc) := X3.out.cell 0
    have R2 := Lib.hid (Reads.below R2.out hb3)
    clear hb3 hown3 x2
    go_wp2_with fail
    refine (laws_equalTexts _ _ ns ns _ R2.out R3.out (by omega) (by omega)).mono ?_
    rintro _ w4 ⟨rfl, hb4⟩
    rw [decide_eq_true rfl]
    have X4 := Lib.hid (X3.out.step hb4)
    have x4 : w4.cell? ⟨w1.heap.size, 0, none⟩ = some (.slice va fs.length vc) := X4.out.cell 0
    have R2 := Lib.hid (Reads.below R2.out hb4)
    have R3 := Lib.hid (Reads.below R3.out hb4)
    clear hb4 x3
    go_wp2_with fail
    go_loopw [10] (fun iv wr => ∃ k : Nat, k ≤ ns.length ∧ iv = .int .i64 k ∧ Nm.Boxed w1 #[.slice va fs.length vc] 31 wr ∧ Reads wr (.slice a2 ns.length c2) ns) (fun iv _ => ns.length - (intOf iv).toNat)
    case atStart => exact ⟨0, by omega, rfl, X4.out, R2.out⟩
    case round =>
      obtain ⟨k, hk, rfl, hbx, hrd⟩ := hrel
      have XR := Lib.hid hbx
      have RR := Lib.hid hrd
      have xr : wr.cell? ⟨w1.heap.size, 0, none⟩ = some (.slice va fs.length vc) := XR.out.cell 0
      have lr := XR.out.lt
      clear hbx hrd R2 x4
      by_cases hlt : k < ns.length
      · obtain ⟨gl, ol, cl, el, _, _, hgs, hcl⟩ := Reads.some RR.out (by omega)
        simp only [Value.slice.injEq] at el
        obtain ⟨rfl, _, rfl⟩ := el
        have hcell := hcl k hlt
        have hk1 : (k : Int) < (ns.length : Int) := by omega
        have hk0' : (0 : Int) ≤ (k : Int) := by omega
        clear hcl
        have hnl8 := Hvs.out _ (List.getElem_mem hlt)
        have Hqk := Lib.hid (Hq.out k _ (List.getElem?_eq_getElem hlt))
        generalize ns[k] = nm at *
        have Hk := Lib.hid (fun (w' : World) (hC : Below wr.heap.size wr w') => (⟨(hC.cell (p := ⟨w1.heap.size, 0, none⟩) lr).trans xr, (hC.cell (p := ⟨gl, ol + k, none⟩) hgs).trans hcell, hC⟩ : w'.cell? ⟨w1.heap.size, 0, none⟩ = some (.slice va fs.length vc) ∧ w'.cell? ⟨gl, ol + k, none⟩ = some (.string (mk nm)) ∧ Below wr.heap.size wr w'))
        have heL := (edgesOf_ok fs xs nm).2.2
        have hmL := namesAbove_le3 nm
        obtain ⟨es, hes⟩ : ∃ es, es = edgesOf fs xs nm := ⟨_, rfl⟩
        obtain ⟨ms, hms⟩ : ∃ ms, ms = namesAbove nm := ⟨_, rfl⟩
        rw [← hes] at heL Hqk
        rw [← hms] at hmL Hqk
        have Hes := Lib.hid hes.symm
        have Hms := Lib.hid hms.symm
        clear hes hms
        obtain ⟨bs, hbs⟩ : ∃ bs, bs = es ++ ms := ⟨_, rfl⟩
        have Hbl := Lib.hid (show bs.length = es.length + ms.length by rw [hbs, List.length_append])
        have Hbm := Lib.hid (show es.map sv ++ ms.map sv = bs.map sv by rw [hbs, List.map_append])
        have Hqk := Lib.hid (show ∀ y ∈ bs, ∃ j, j ≤ k ∧ ns[j]? = some y by rw [hbs]; exact Hqk.out)
        have hbl : bs.length ≤ 27 := by rw [hbs, List.length_append]; omega
        clear hbs
        go_wp2_with fail
        go_region_held3 (fun w' => w'.cell? ⟨w1.heap.size, 0, none⟩ = some (.slice va fs.length vc) ∧ w'.cell? ⟨gl, ol + k, none⟩ = some (.string (mk nm)) ∧ Below wr.heap.size wr w')
          (first | exact Hk.out _ Hb9.out | exact Hk.out _ HLc.out | exact Hk.out _ (by (repeat (with_reducible first | exact Below.refl _ _ | assumption | refine ba ?_ _ | refine bd ?_ | refine bdN ?_ _ | refine bs ?_ (by first | exact Nat.le_refl _ | (dsimp only; omega) | (simp; done)) _ | refine bt ?_ (by assumption)))))
          (first
            | (go_at_call 43; refine (impl_EdgesOf _ fs (fun _ => True) _ xs nm _ (HF.out.below (bt XR.out.below (by first | exact HLc.out | (repeat (with_reducible first | exact Below.refl _ _ | assumption | refine ba ?_ _ | refine bd ?_ | refine bdN ?_ _ | refine bs ?_ (by first | exact Nat.le_refl _ | (dsimp only; omega) | (simp; done)) _ | refine bt ?_ (by assumption)))))) Hz2.out (HP.out.below (bt XR.out.below (by first | exact HLc.out | (repeat (with_reducible first | exact Below.refl _ _ | assumption | refine ba ?_ _ | refine bd ?_ | refine bdN ?_ _ | refine bs ?_ (by first | exact Nat.le_refl _ | (dsimp only; omega) | (simp; done)) _ | refine bt ?_ (by assumption)))))) (by omega)).mono ?_; rintro _ w8 ⟨v8, rfl, hown8, hb8⟩; rw [Hes.out] at hown8; have Hown8 := Lib.hid (owns_mono hown8 (show wr.heap.size ≤ _ by first | exact HLc.out.size | exact Nat.le_refl _)); obtain ⟨a8, c8, rfl⟩ := owns_shape hown8; (try have Hown7 := Lib.hid (owns_below Hown7.out hb8)); have HLc := Lib.hid (show Below wr.heap.size wr w8 by first | exact bt HLc.out hb8 | (repeat (with_reducible first | exact Below.refl _ _ | assumption | refine ba ?_ _ | refine bd ?_ | refine bdN ?_ _ | refine bs ?_ (by first | exact Nat.le_refl _ | (dsimp only; omega) | (simp; done)) _ | refine bt ?_ (by assumption)))); clear hown8 hb8)
            | (go_at_call 44; refine (impl_NamesAbove nm _ (by omega)).mono ?_; rintro _ w7 ⟨v7, rfl, hown7, hb7⟩; rw [Hms.out] at hown7; have Hown7 := Lib.hid (owns_mono hown7 (show wr.heap.size ≤ _ by first | exact HLc.out.size | exact Nat.le_refl _)); obtain ⟨a7, c7, rfl⟩ := owns_shape hown7; (try have Hown8 := Lib.hid (owns_below Hown8.out hb7)); have HLc := Lib.hid (show Below wr.heap.size wr w7 by first | exact bt HLc.out hb7 | (repeat (with_reducible first | exact Below.refl _ _ | assumption | refine ba ?_ _ | refine bd ?_ | refine bdN ?_ _ | refine bs ?_ (by first | exact Nat.le_refl _ | (dsimp only; omega) | (simp; done)) _ | refine bt ?_ (by assumption)))); clear hown7 hb7)
            | (refine step_append_both rfl _ _ 27 rfl wr.heap.size 9 i0 (.string ByteArray.empty) 1 16 Tryz.underlying27 Hi.out Hy0.out Hy1.out Hy2.out rfl (by decide) _ es.length _ rfl Hown8.out wr.heap.size _ ms.length _ rfl Hown7.out (fun u hu => by obtain ⟨b, _, rfl⟩ := List.mem_map.1 hu; rfl) (by unfold maxLen; omega) (by omega) HLc.out.size ?_; intro v9 w9 hown9 hgrow9; rw [← Hbl.out, Hbm.out] at hown9; obtain ⟨a9, c9, hv9⟩ := owns_shape hown9; subst hv9; have Hb9 := Lib.hid (show Below wr.heap.size wr w9 from HLc.out.grown hgrow9 HLc.out.size (fun x hx => (owns_block Hown8.out hx).1)); have R9 := Lib.hid (Reads.of_owns hown9); clear hown9 hgrow9))
        all_goals
          have RR9 := Lib.hid (Reads.below RR.out Hb9.out)
          have X9 := Lib.hid (XR.out.step Hb9.out)
          clear heL hmL hcell xr
          go_wp2_with fail
          go_loop [12] (fun jv => ∃ j : Nat, j ≤ bs.length ∧ jv = .int .i64 j) (fun jv => bs.length - (intOf jv).toNat)
          case atStart => exact ⟨0, by omega, rfl⟩
          case round =>
            obtain ⟨j, hj, rfl⟩ := hrel
            by_cases hjl : j < bs.length
            · obtain ⟨b1, o1, c1, e1, _, _, _, hc1⟩ := Reads.some R9.out (by omega)
              simp only [Value.slice.injEq] at e1
              obtain ⟨rfl, _, rfl⟩ := e1
              have hcb := hc1 j hjl
              obtain ⟨kk, hkk, hat⟩ := Hqk.out _ (List.getElem_mem hjl)
              have hj1 : (j : Int) < (bs.length : Int) := by omega
              have hj0 : (0 : Int) ≤ (j : Int) := by omega
              clear hc1
              generalize bs[j] = y at *
              obtain ⟨tt, htt, htx⟩ : ∃ tt : Nat, tt ≤ k ∧ ∀ W, ∀ e W', TextAtX ns y W e W' → e = .returned (.int .i64 (tt : Int)) ∧ W = W' := textAt_le hkk hat
              have Htx := Lib.hid htx
              clear htx hat hkk
              go_wp2_with fail
              refine (laws_textAtX _ ns y _ RR9.out (by omega)).mono ?_
              intro e1 w10 h10
              obtain ⟨rfl, rfl⟩ := Htx.out _ _ _ h10
              have ht0 : ¬ ((tt : Int) < 0) := by omega
              have htk : ¬ ((k : Int) < (tt : Int)) := by omega
              go_wp2_with fail
              refine (laws_textAtX _ ns y _ RR9.out (by omega)).mono ?_
              intro e1 w11 h11
              obtain ⟨rfl, rfl⟩ := Htx.out _ _ _ h11
              go_wp2_with fail
              go_round
              case rel => exact ⟨j + 1, by omega, by go_num⟩
              case measure => simp [intOf]; omega
            · obtain rfl : j = bs.length := by omega
              go_wp2_with fail
              refine ⟨⟨k + 1, by omega, by go_num, X9.out, RR9.out⟩, ?_⟩
              simp [intOf]; omega
      · obtain rfl : k = ns.length := by omega
        obtain ⟨gl, ol, cl, el, _, _, _, hcl⟩ := Reads.some RR.out (by omega)
        simp only [Value.slice.injEq] at el
        obtain ⟨rfl, _, rfl⟩ := el
        have hlast : wr.cell? ⟨gl, ol + (ns.length - 1), none⟩ = some (.string (mk s)) := by
          obtain ⟨hl1, hl2⟩ := List.getElem?_eq_some_iff.1 Hla.out
          have := hcl _ hl1
          rw [hl2] at this; exact this
        have hi1 : (0 : Int) ≤ (ns.length : Int) - 1 := by omega
        have hi2 : (ns.length : Int) - 1 < (ns.length : Int) := by omega
        have hi3 : ((ns.length : Int) - 1).toNat = ns.length - 1 := by omega
        clear hcl
        go_wp2_with fail
        refine (impl_ReachOf _ fs (fun _ => True) _ xs s _ (HF.out.below XR.out.below) Hz2.out (HP.out.below XR.out.below) (by omega)).mono ?_
        rintro _ w7 ⟨v7, rfl, hown7, hb7⟩
        rw [HLL.out] at hown7
        have R7 := Lib.hid (Reads.of_owns hown7)
        have X7 := Lib.hid (XR.out.step hb7)
        have RR7 := Lib.hid (Reads.below RR.out hb7)
        have x7 : w7.cell? ⟨w1.heap.size, 0, none⟩ = some (.slice va fs.length vc) := X7.out.cell 0
        clear hb7 hown7 xr
        go_wp2_with fail
        refine (laws_withinTexts _ _ ns L _ RR7.out R7.out (by omega) (by omega) Hin.out).mono ?_
        rintro _ _ ⟨rfl, rfl⟩
        go_wp2_with fail
        refine (impl_ReachOf _ fs (fun _ => True) _ xs s _ (HF.out.below X7.out.below) Hz2.out (HP.out.below X7.out.below) (by omega)).mono ?_
        rintro _ w8 ⟨v8, rfl, hown8, hb8⟩
        rw [HLL.out] at hown8
        have R8 := Lib.hid (Reads.of_owns hown8)
        have X8 := Lib.hid (X7.out.step hb8)
        have RR8 := Lib.hid (Reads.below RR7.out hb8)
        clear hb8 hown8 x7
        go_wp2_with fail
        refine (laws_withinTexts _ _ L ns _ R8.out RR8.out (by omega) (by omega) Hni.out).mono ?_
        rintro _ _ ⟨rfl, rfl⟩
        go_wp2_with fail
        go_ret
        exact ⟨rfl, bt Hb1.out X8.out.below⟩
  · have Hok := Lib.hid hok
    clear hok
    go_wp2_with fail
    refine (impl_PlainOrder _ fs (fun _ => True) _ xs s _ (HF.out.below X1.out.below) Hz2.out (HP.out.below X1.out.below) (by omega)).mono ?_
    rintro _ w2 ⟨v2, rfl, hown2, hb2⟩
    rw [← Hns.out] at hown2
    rw [Hok.out]
    have R2 := Lib.hid (Reads.of_owns hown2)
    obtain ⟨a2, c2, rfl⟩ := owns_shape hown2
    have X2 := Lib.hid (X1.out.step hb2)
    have x2 : w2.cell? ⟨w1.heap.size, 0, none⟩ = some (.slice va fs.length vc) := X2.out.cell 0
    clear hb2 hown2
    go_wp2_with fail
    refine (spec_PlainOrder _ fs (fun _ => True) _ xs s _ (HF.out.below X2.out.below) Hz2.out (HP.out.below X2.out.below) (by omega)).mono ?_
    rintro _ w3 ⟨v3, rfl, hown3, hb3⟩
    rw [← Hns.out] at hown3
    rw [Hok.out]
    have R3 := Lib.hid (Reads.of_owns hown3)
    obtain ⟨a3, c3, rfl⟩ := owns_shape hown3
    have X3 := Lib.hid (X2.out.step hb3)
    have x3 : w3.cell? ⟨w1.heap.size, 0, none⟩ = some (.slice va fs.length vc) := X3.out.cell 0
    have R2 := Lib.hid (Reads.below R2.out hb3)
    clear hb3 hown3 x2
    go_wp2_with fail
    refine (laws_equalTexts _ _ ns ns _ R2.out R3.out (by omega) (by omega)).mono ?_
    rintro _ w4 ⟨rfl, hb4⟩
    rw [decide_eq_true rfl]
    have X4 := Lib.hid (X3.out.step hb4)
    have x4 : w4.cell? ⟨w1.heap.size, 0, none⟩ = some (.slice va fs.length vc) := X4.out.cell 0
    have R2 := Lib.hid (Reads.below R2.out hb4)
    have R3 := Lib.hid (Reads.below R3.out hb4)
    clear hb4 x3
    go_wp2_with fail
    refine (laws_equalTexts _ _ ns ns _ R2.out R3.out (by omega) (by omega)).mono ?_
    rintro _ w5 ⟨rfl, hb5⟩
    rw [decide_eq_true rfl]
    have X5 := Lib.hid (X4.out.step hb5)
    clear hb5 x4
    go_wp2_with fail
    go_ret
    exact ⟨rfl, bt Hb1.out X5.out.below⟩

/-! ### THE STEP TO THE ROW -/
set_option maxRecDepth 100000 in
theorem lifted (os : Os) (started : os.Started) (H : Type) (enc : TypeId × Value → H) :
    ReturnsInHanded {} Tryz.checked os 11 .any (Rows.fnPlainOrderNeedsSpec.pre6 enc Tryz.prog Tryz.f11 Rows.fnPlainOrderNeedsRow.domain false) (Rows.fnPlainOrderNeedsSpec.post enc Tryz.prog Tryz.f11 false true false false) := by
  refine returnsInHanded_of_change (C := Tryz.checked) own started (by kernel_rfl) Tryz.func11
    (ChangeSpec.witness6 (enc := enc) (C := Tryz.checked) false ⟨#[], #[.slice none 0 0], []⟩ 8 (by kernel_rfl) (by kernel_rfl) (by kernel_rfl) (by kernel_rfl)) ?_
  intro W base args ds gs before hval0 hW hcnd _
  have hval : ∀ (j : Nat) t v, Tryz.f11.params[j]? = some t → args[j]? = some v → Value.okWide Tryz.prog W .any base t v := hval0
  have hW' := hW
  obtain ⟨p, q, hA0, hV, rfl, hfz, hnd⟩ := hW
  have hA : DataW.TrodAll enc Tryz.prog W 0 (fun _ => true) true Tryz.f11.params.toList args.toList ds p := hA0
  rw [Tryz.params11] at hA hval
  obtain ⟨v0, vs0, d0, ds0, p0, q0, hargs, rfl, rfl, h0, r0⟩ := trodAll_cons hA
  obtain ⟨rfl, rfl, rfl⟩ := trodAll_nil r0
  obtain rfl : args = #[v0] := by cases args; simp_all
  obtain ⟨rfl, rfl⟩ := trodVars_none hV
  obtain ⟨a0, len0, cap0, rfl⟩ := okWide_slice Tryz.underlying48 (hval 0 48 v0 rfl rfl)
  have k0 := h0
  have lt0 : ∀ x ∈ p0, x.block < W.heap.size := by obtain ⟨m, hm⟩ := k0; exact DataW.trod_lt m _ _ _ hm
  have w0 : Code W W.heap.size a0 len0 cap0 := by
    obtain ⟨fuel, hf⟩ := h0
    rcases open_ints Tryz.underlying48 Tryz.underlying5 (by kernel_rfl) hf with ⟨hcs, _⟩ | ⟨x, l, c, zs, hcs, _, hl, hm, hz, _, hcell, hwz⟩
    · simp [Value.cells] at hcs
      obtain ⟨rfl, rfl, rfl⟩ := hcs
      exact .inl ⟨rfl, by unfold maxLen; omega⟩
    · simp [Value.cells] at hcs
      obtain ⟨rfl, rfl, rfl⟩ := hcs
      exact code_row W _ _ _ zs hl hm (by simpa using hz) hcell hwz
  clear hA0 hval0
  refine (walk a0 len0 cap0 W w0).mono fun e W' ⟨he, bel⟩ => ?_
  subst he
  exact ⟨_, rfl, _, _, _, [], _, [], hW', trodAll_mk1 (shut_bool Tryz.underlying4 _), (trodAll_cons_mk (Below.trod laidOut (by kernel_rfl) (of_decide_eq_true (by kernel_rfl)) k0 bel lt0) trodAll_mk0), rfl, bel.frame _, fun h => by cases h⟩

set_option maxRecDepth 100000 in
set_option maxHeartbeats 16000000 in
theorem closed : joinedFacts Tryz.pinned.checked.prog 11 Tryz.f11 Rows.fnPlainOrderNeedsSpec Rows.fnPlainOrderNeedsRow = true := by
  unfold joinedFacts
  simp only [Bool.and_eq_true]
  with_reducible repeat' apply And.intro
  rotate_left 25
  exact Facts.enter
  exact Facts.lifts
  exact Facts.make
  all_goals as_aux_lemma => exact of_decide_eq_true (by kernel_rfl)

theorem over : Rows.fnPlainOrderNeedsRow.holds Tryz.pinned (OpenSpec.ofChange Rows.fnPlainOrderNeedsSpec) :=
  OpenClaim.holds_of_wide 11 Tryz.f11 rfl rfl rfl rfl rfl rfl rfl ⟨rfl, rfl, rfl, rfl, rfl⟩ rfl rfl rfl rfl rfl (by kernel_rfl) Tryz.func11 closed
    (of_decide_eq_true (by kernel_rfl)) (by unfold Func.isWrapper; first | (rw [if_pos (by decide +kernel)]; kernel_rfl) | (rw [if_neg (by decide +kernel)]; exact ⟨rfl, rfl⟩))
    (fun os started H enc _ => lifted os started H enc)

/-- THE STATEMENT -/
theorem proved : Rows.FnPlainOrderNeedsSaid := over
end Go.Proofs.YtcmnldomcpjlcaaGreat.FnPlainOrderNeeds
