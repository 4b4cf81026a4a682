/- The function that draws a store that may not be valid, with its tree, and draws over it. -/
import Derived.Test.YtomdmkhgkaalnaaDrawJ
import Derived.Test.YtomdmkhgkaalnaaDrawF
import Derived.Deep.RegionLaw
set_option linter.unusedVariables false
set_option linter.unusedSimpArgs false
namespace Go.Proofs.Ytomdmkhgkaalnaa
open Go.RowKit Go.Proofs.Ytomdmkhgkaalnaa.Nm

theorem RowsC8.gb {w w' : World} {B R : Nat} {v : Value} {ps : List (Cmp × Value)} (h : RowsC8 w B v ps) (hg : w.grownBy w' (some R)) (hR : R < B) : RowsC8 w' B v ps :=
  ⟨owns_heap h.1 (fun b hb => hg.block b (owns_block h.1 hb).2 (fun e => by have h1 := (owns_block h.1 hb).1; have := Option.some.inj e; omega)),
   fun p hp => owns_heap (h.2.1 p hp) (fun b hb => hg.block b (owns_block (h.2.1 p hp) hb).2 (fun e => by have h1 := (owns_block (h.2.1 p hp) hb).1; have := Option.some.inj e; omega)), trivial⟩
theorem RowsC8.drewJ {w : World} {B : Nat} {v : Value} {ps : List (Cmp × Value)} (h : RowsC8 w B v ps) : RowsC8 w.drew B v ps := h.below ⟨rfl, rfl, rfl, Nat.le_refl _, fun _ _ => rfl⟩
theorem RowsC8.set_low {w : World} {B : Nat} {v : Value} {ps : List (Cmp × Value)} (h : RowsC8 w B v ps) {p : Addr} (hp : p.block < B) (u : Value) : RowsC8 (w.setCell p u) B v ps := ⟨owns_set_low h.1 hp u, fun q hq => owns_set_low (h.2.1 q hq) hp u, trivial⟩
/-- A box of a tree is put, which is none of a store's blocks. -/
theorem box_neL {w : World} {B e s n X : Nat} {v : Value} {xs : List Value} {cs : Array Value} {T : TypeId} {r : Nat × Nat} (hT : e ≠ T) (h : w.ownsRow B e s v n xs) (hX : w.heap[X]? = some (.cells cs T r)) : ∀ b, v.ownBlock = some b → b ≠ X := by
  rcases h.2 with ⟨rfl, _⟩ | ⟨g, cap, cur, rfl, _, hg, _⟩
  · intro b hb; cases hb
  · intro b hb
    cases hb
    rintro rfl
    rw [hg] at hX
    cases hX
    exact hT rfl
/-- Files stay while a block of none of them is written. -/
theorem OwnFils.set_box {w : World} {B : Nat} {v : Value} {ps : List (Fil × Value)} (h : OwnFils w B v ps) {p : Addr} (hp : ∀ b, (v.ownBlock = some b ∨ ∃ q ∈ ps, q.2.ownBlock = some b) → b ≠ p.block) (u : Value) : OwnFils (w.setCell p u) B v ps :=
  ⟨owns_set_otherD h.1 (fun b hb => hp b (.inl hb)) u, h.2.heap (fun b _ _ ⟨q, hq, hb⟩ => Below.heap_setCell w p u b (hp b (.inr ⟨q, hq, hb⟩)))⟩
/-- One cell of an entry of a store is written, which keeps its body. -/
theorem RowsC8.put {w : World} {B g n cap : Nat} {ps : List (Cmp × Value)} (hn : ps.length = n) (h : RowsC8 w B (.slice (some ⟨g, 0, none⟩) n cap) ps) (i j : Nat) (hi : i < ps.length) (hj : j < 8) (u : Value) (q : Cmp × Value) (hc : (cmpCells ps[i]).set j u = cmpCells q)
    (hq : q.2 = ps[i].2) (hb : q.1.body = ps[i].1.body) : RowsC8 (w.setCell ⟨g, i * 8 + j, none⟩ u) B (.slice (some ⟨g, 0, none⟩) n cap) (ps.set i q) := by
  subst hn
  have hne : ∀ {m : Nat} {xs : List Value} {v : Value}, w.ownsRow B 124 5 v m xs → ∀ b, v.ownBlock = some b → b ≠ g := fun {m xs v} hv b hb e => by
    subst e; exact own_types (T := 53) (T' := 124) (by decide) h.1 hv rfl hb
  refine ⟨?_, fun p hp => ?_, trivial⟩
  · have h1 := (h.1.stored (i * 8 + j) u).1
    rw [fm_set1 ps i j q u hi hj cmpCells_len hc] at h1
    rw [List.length_set]; exact h1
  · rcases List.mem_or_eq_of_mem_set hp with hp | rfl
    · exact owns_set_otherD (h.2.1 p hp) (hne (h.2.1 p hp)) u
    · rw [hq, hb]
      exact owns_set_otherD (h.2.1 _ (List.getElem_mem hi)) (hne (h.2.1 _ (List.getElem_mem hi))) u
/-- One more entry, which lies among them already. -/
theorem cmps_twice {w w7 : World} {B : Nat} {v v7 : Value} {ps : List (Cmp × Value)} {q : Cmp × Value} (h : RowsC8 w B v ps) (hq : q ∈ ps) (hg : w.grownBy w7 v.ownBlock)
    (h7 : w7.ownsRow B 53 8 v7 (ps.length + 1) (ps.flatMap cmpCells ++ cmpCells q)) : RowsC8 w7 B v7 (ps ++ [q]) := by
  refine ⟨by simpa using h7, fun p hp => ?_, trivial⟩
  have hp' : p ∈ ps := by
    rcases List.mem_append.1 hp with hp | hp
    · exact hp
    · simp at hp; subst hp; exact hq
  exact owns_heap (h.2.1 p hp') (fun b hb => hg.block b (owns_block (h.2.1 p hp') hb).2 (fun e => own_types (T := 53) (T' := 124) (by decide) h.1 (h.2.1 p hp') e.symm hb))
theorem fine_mono {c : Cmp} (h : FineC 1000003 c) : FineC 1000004 c := ⟨h.1, h.2.1, h.2.2.1, by have := h.2.2.2; omega⟩
/-- What anyStore comes to: a store, whose entries may share a body, and a tree. -/
def DrawStore (R q c : Nat) (w : World) (e : Ending) (w' : World) : Prop :=
  ∃ lv qs tv ps, e = .returned (.tuple #[lv, .agg #[tv]]) ∧ RowsC8 w' w.heap.size lv qs ∧ (∀ p ∈ qs, FineC 1000004 p.1) ∧ qs.length ≤ 11 ∧ OwnFils w' w.heap.size tv ps ∧ ShortT 8 (ps.map (·.1)) ∧ ps.length ≤ 10 ∧ (∀ p ∈ ps, p.1.body.length ≤ 4) ∧ ∃ q', q' ≤ q + c ∧ Rd w' R q' ∧ w.grownBy w' (some R)
set_option maxRecDepth 100000 in
set_option maxHeartbeats 8000000 in
theorem spec_anyStore (R q : Nat) (w : World) (hr : Rd w R q) (hq : q ≤ 190000) :
    Calls Try.prog 80 #[.pointer (some ⟨R, 0, none⟩)] w (DrawStore R q 1212 w) := by
  obtain ⟨i0, hi, hz0, hz1, hz2⟩ := info_parts infoCmp
  have Hi := Lib.hid hi
  have Hz0 := Lib.hid hz0
  have Hz1 := Lib.hid hz1
  have Hz2 := Lib.hid hz2
  clear hi hz0 hz1 hz2
  have hR := hr.lt
  go_enter Try.func80, Try.ntmps80
  go_wp2_with fail
  have d0 := Dst.start hR #[.slice none 0 0] 33
  refine (spec_someStore R q _ (hr.alloc _) (by omega)).mono ?_
  rintro e w1 ⟨lv, qs, tv, ps, rfl, hlist, hfine, hl10, htree, hsh, hp10, hb4, q1, hq1, hr1, hg1⟩
  obtain ⟨la, lc, rfl⟩ := hlist.len
  obtain ⟨oa, oc, rfl⟩ := len1D htree
  have Hfine0 := Lib.hid hfine
  have Hfine := Lib.hid (fun p (hp : p ∈ qs) => fine_mono (hfine p hp))
  have Hsh := Lib.hid hsh
  have Hb4 := Lib.hid hb4
  have Hlow := Lib.hid (fun b (hb : (Value.slice la qs.length lc).ownBlock = some b) => (owns_block hlist.1 hb))
  have L1 := Lib.hid (hlist.mono (B' := w.heap.size + 1) (by simp))
  have T1 := Lib.hid (htree.mono (B' := w.heap.size + 1) (by simp))
  have D1 := Lib.hid (d0.step hg1)
  have hR1 := hr1.lt
  have hz1 : w.heap.size + 1 ≤ w1.heap.size := by have := hg1.size; simpa using this
  clear hlist hfine htree hsh hb4 hg1 d0
  have E1 : Dst w R w1.heap.size #[.slice oa ps.length oc] (w1.alloc (.cells #[.slice oa ps.length oc] 33)) := by
    obtain ⟨h1, h2, h3, h4, h5⟩ := Dst.start (w := w1) hR1 #[.slice oa ps.length oc] 33
    exact ⟨h1, h2, gb_trans D1.out.2.2.1 h3, h4, by omega⟩
  have L2 := Lib.hid (L1.out.rows.below (ba (Below.refl _ _) (.cells #[.slice oa ps.length oc] 33)))
  have T2 := Lib.hid (T1.out.below (ba (Below.refl _ _) (.cells #[.slice oa ps.length oc] 33)))
  have D2 := Lib.hid (D1.out.alloc (.cells #[.slice oa ps.length oc] 33))
  have E2 := Lib.hid E1
  have Hr2 := Lib.hid (hr1.alloc (.cells #[.slice oa ps.length oc] 33))
  clear L1 T1 D1 E1 hr1 hr
  obtain ⟨W, hW⟩ : ∃ W, W = w1.alloc (.cells #[.slice oa ps.length oc] 33) := ⟨_, rfl⟩
  have hWs : W.heap.size = w1.heap.size + 1 := by rw [hW]; simp
  rw [← hW] at L2 T2 D2 E2 Hr2
  have HW := Lib.hid hW
  clear hW
  obtain ⟨X, hX⟩ : ∃ X, X = w1.heap.size := ⟨_, rfl⟩
  have HX := Lib.hid hX
  rw [← hX] at E2 hWs hz1 hR1 Hlow
  have hXw : w.heap.size ≠ X := by omega
  have hXw' : X ≠ w.heap.size := by omega
  clear hX
  have Fin := Lib.hid (show ∀ (w' : World) (q' : Nat) (lv : Value) (rs : List (Cmp × Value)), RowsC8 w' (w.heap.size + 1) lv rs → (∀ p ∈ rs, FineC 1000004 p.1) → rs.length ≤ 11 → OwnFils w' (w.heap.size + 1) (.slice oa ps.length oc) ps → Dst w R w.heap.size #[.slice none 0 0] w' → Rd w' R q' → q' ≤ q + 1212 →
      DrawStore R q 1212 w (.returned (.tuple #[lv, .agg #[.slice oa ps.length oc]])) (w'.setCell ⟨w.heap.size, 0, none⟩ (.slice oa ps.length oc)).drew from fun w' q' lv rs h1 h2 h3 h4 h5 h6 h7 =>
    ⟨_, rs, _, ps, rfl, ((h1.set_low (p := ⟨w.heap.size, 0, none⟩) (by dsimp only; omega) (.slice oa ps.length oc)).drewJ).mono (by omega), h2, h3, ((h4.set_low (p := ⟨w.heap.size, 0, none⟩) (by dsimp only; omega) (.slice oa ps.length oc)).drewJ).mono (by omega), Hsh.out, hp10, Hb4.out, q', h7, (h6.set (p := ⟨w.heap.size, 0, none⟩) (by dsimp only; omega) (.slice oa ps.length oc)).drewJ, gb_trans (gb_set h5.2.2.1 (p := ⟨w.heap.size, 0, none⟩) (by dsimp only; omega) (.slice oa ps.length oc)) ⟨rfl, rfl, rfl, Nat.le_refl _, fun _ _ _ => rfl⟩⟩)
  have x0 : W.cell? ⟨w.heap.size, 0, none⟩ = some (.slice none 0 0) := D2.out.1.2 0
  have xf : W.frozen? ⟨w.heap.size, 0, none⟩ = false := D2.out.2.1 0
  have y0 : W.cell? ⟨X, 0, none⟩ = some (.slice oa ps.length oc) := E2.out.1.2 0
  obtain ⟨n, hn⟩ : ∃ n, n = qs.length := ⟨_, rfl⟩
  rw [← hn] at L2 hl10 Hlow ⊢
  have Hn := Lib.hid hn
  clear hn
  by_cases h0 : n = 0
  · subst h0
    go_wp2_with fail
    rw [← HW.out]
    rw [← HX.out]
    go_wp2_with fail
    go_region
    go_wp2_with fail
    exact bodyPost_ret (v := .tuple #[.slice la 0 lc, .agg #[.slice oa ps.length oc]]) (by simp [results, Try.results80, go_sem, *]) rfl (Fin.out _ _ _ qs L2.out Hfine.out (by have := Hn.out; omega) T2.out D2.out Hr2.out (by omega))
  · have hql : 0 < qs.length := by have := Hn.out; omega
    obtain ⟨g, cap, e1, hg, hg2⟩ := L2.out.1.form hql
    simp only [Value.slice.injEq] at e1
    obtain ⟨rfl, hnn, rfl⟩ := e1
    clear hnn
    have hgl := Hlow.out g rfl
    have h0i : (0 : Int) < (n : Int) := by omega
    have hgX : g ≠ X := by omega
    have hXg : X ≠ g := by omega
    have hgw : g ≠ w.heap.size := by omega
    have hwg : w.heap.size ≠ g := by omega
    have hr2 := Hr2.out
    go_wp2_with fail
    rw [← HW.out]
    rw [← HX.out]
    refine (reader_pick R q1 _ _ hr2 (by omega) (by omega)).mono ?_
    rintro e w3 ⟨j, rfl, hj0, hj, hr3, hg3⟩
    have L3 := Lib.hid (L2.out.gb hg3 (by omega))
    have T3 := Lib.hid (T2.out.gb hg3 (by omega))
    have D3 := Lib.hid (D2.out.step hg3)
    have E3 := Lib.hid (E2.out.step hg3)
    have hz3 := hg3.size
    clear hg3 L2 T2 D2 E2 hr2 Hr2 x0 xf y0
    have u0 : w3.cell? ⟨w.heap.size, 0, none⟩ = some (.slice none 0 0) := D3.out.1.2 0
    have uf : w3.frozen? ⟨w.heap.size, 0, none⟩ = false := D3.out.2.1 0
    have v0 : w3.cell? ⟨X, 0, none⟩ = some (.slice oa ps.length oc) := E3.out.1.2 0
    have hrow := L3.out.1
    rw [← Hn.out] at hrow
    obtain ⟨⟨c0, c1, c2, c3, c4, c5, c6, c7⟩, z0, z1, z2, z3, z4, z5, z6, z7⟩ := own8 hrow 0 hql
    have hfi := Hfine0.out _ (List.getElem_mem hql)
    obtain ⟨ab, cb, hbv⟩ := owns_shape (L3.out.2.1 _ (List.getElem_mem hql))
    obtain ⟨p, hp⟩ : ∃ p, p = qs[0] := ⟨_, rfl⟩
    rw [← hp] at c0 c1 c2 c3 c4 c5 c6 c7 hfi hbv
    have Hp := Lib.hid hp
    clear hp hrow
    obtain ⟨⟨x0, x1, x2, x3, x4, x5, x6, fb⟩, bv⟩ := p
    dsimp only at c0 c1 c2 c3 c4 c5 c6 c7 hfi hbv
    subst hbv
    simp only [Nat.zero_mul, Nat.zero_add] at c0 c1 c2 c3 c4 c5 c6 c7 z0 z1 z2 z3 z4 z5 z6 z7
    have Hfi := Lib.hid hfi
    have hx6 := hfi.2.2
    dsimp only at hx6
    clear hfi
    by_cases hj0' : j = 0
    · subst hj0'
      have hw6 : IntKind.i64.wrap (x6 + 1) = x6 + 1 := by rw [IntKind.wrap_i64]; omega
      have L4 := Lib.hid (RowsC8.put Hn.out.symm L3.out 0 6 hql (by omega) (.int .i64 (x6 + 1)) (⟨x0, x1, x2, x3, x4, x5, x6 + 1, fb⟩, .slice ab fb.length cb) (by rw [← Hp.out]; rfl) (by rw [← Hp.out]) (by rw [← Hp.out]))
      simp only [Nat.zero_mul, Nat.zero_add] at L4
      have T4 := Lib.hid (show OwnFils (w3.setCell ⟨g, 6, none⟩ (.int .i64 (x6 + 1))) (w.heap.size + 1) (.slice oa ps.length oc) ps from T3.out.set_box (fun b hb => by rcases hb with hb | ⟨p, hp, hb⟩; exact fun e => own_types (T := 53) (T' := 55) (by decide) L3.out.1 T3.out.1 (by rw [e]; rfl) hb; exact fun e => own_types (T := 53) (T' := 124) (by decide) L3.out.1 (T3.out.2.1 p hp) (by rw [e]; rfl) hb) _)
      go_wp2_with fail
      go_region
      go_wp2_with fail
      exact bodyPost_ret (v := .tuple #[.slice (some ⟨g, 0, none⟩) n lc, .agg #[.slice oa ps.length oc]]) (by simp [results, Try.results80, go_sem, *]) rfl (Fin.out _ _ _ _ L4.out (mem_set_all (P := fun (p : Cmp × Value) => FineC 1000004 p.1) Hfine.out ⟨Hfi.out.1, Hfi.out.2.1, by dsimp only; omega, by dsimp only; omega⟩) (by rw [List.length_set, ← Hn.out]; omega) T4.out (D3.out.other hgw (by omega) _ _) (hr3.set (by dsimp only; omega) _) (by omega))
    have hj0b : (j == 0) = false := by simpa using hj0'
    by_cases hj1 : j = 1
    · subst hj1
      go_wp2_with (at_builtin; refine wpList_append_own _ rfl _ _ 28 rfl (w.heap.size + 1) 53 i0 _ 8 88 Try.underlying28 Hi.out Hz0.out Hz1.out Hz2.out rfl (by decide) _ n _ rfl (by have h := L3.out.1; rw [← Hn.out] at h; exact h.alloc _) ⟨_, 0, none⟩ 1 1 (cmpCells (⟨x0, x1, x2, x3, x4, x5, x6, fb⟩, .slice ab fb.length cb)) rfl rfl ?_ (cmp_one _ ⟨_, _, _, rfl⟩) (by unfold maxLen; omega) (by omega) (by simp; omega) ?_; (exact ct_cells _ (cmpCells (⟨x0, x1, x2, x3, x4, x5, x6, fb⟩, .slice ab fb.length cb)).toArray _ _ (by first | rfl | simp)); intro v7 w7 hown7 hg7 hnil7; obtain ⟨a7, c7', hv7⟩ := owns_shape hown7; subst hv7; have hge7 : ∀ b, (Value.slice (some ⟨g, 0, none⟩) n lc).ownBlock = some b → b = g := (fun b hb => (Option.some.inj hb).symm); have L7 := Lib.hid (cmps_twice (v7 := .slice a7 (n + 1) c7') (q := (⟨x0, x1, x2, x3, x4, x5, x6, fb⟩, .slice ab fb.length cb)) (L3.out.below (ba (Below.refl _ _) _)) (by rw [Hp.out]; exact List.getElem_mem hql) hg7 (by rw [← Hn.out]; exact hown7)); have T7 := Lib.hid ((T3.out.below (ba (Below.refl _ _) _)).besideC (L3.out.1.alloc _) hg7); have D7 := Lib.hid (Dst.keepD (D3.out.alloc _) hg7 (by have := D3.out.1.1; simp; omega) (fun b hb => by have := hge7 b hb; omega) (fun b hb => by have := hge7 b hb; omega)); have E7 := Lib.hid (Dst.keepD (E3.out.alloc _) hg7 (by have := E3.out.1.1; simp; omega) (fun b hb => by have := hge7 b hb; omega) (fun b hb => by have := hge7 b hb; omega)); have Hr7 := Lib.hid ((hr3.alloc (.cells (cmpCells ((⟨x0, x1, x2, x3, x4, x5, x6, fb⟩ : Cmp), Value.slice ab fb.length cb)).toArray 53)).keep (fun j hj => hg7.block j (by simp; omega) (fun e => by have := hge7 j e.symm; omega))); have t0 : w7.cell? ⟨w.heap.size, 0, none⟩ = some (.slice none 0 0) := D7.out.1.2 0; have tf : w7.frozen? ⟨w.heap.size, 0, none⟩ = false := D7.out.2.1 0; have t1 : w7.cell? ⟨X, 0, none⟩ = some (.slice oa ps.length oc) := E7.out.1.2 0; clear hown7 hg7 hnil7)
      go_region
      go_wp2_with fail
      exact bodyPost_ret (v := .tuple #[.slice a7 (n + 1) c7', .agg #[.slice oa ps.length oc]]) (by simp [results, Try.results80, go_sem, *]) rfl (Fin.out _ _ _ _ L7.out (mem_snoc_all (P := fun (p : Cmp × Value) => FineC 1000004 p.1) (x := (⟨x0, x1, x2, x3, x4, x5, x6, fb⟩, .slice ab fb.length cb)) Hfine.out (fine_mono Hfi.out)) (by rw [List.length_append, ← Hn.out]; simp; omega) T7.out D7.out Hr7.out (by omega))
    have hj1b : (j == 1) = false := by simpa using hj1
    by_cases hj2 : j = 2
    · subst hj2
      go_wp2_with fail
      refine (reader_one R (q1 + 1) w3.heap.size 3 [-1, 3] _ (hr3.alloc _) (heap_new w3 _ _) (by have := hr3.lt; omega) (by decide) (by decide) (by omega)).mono ?_
      rintro e w5 ⟨m, hm, rfl, hr5, hg5⟩
      have L5 := Lib.hid ((L3.out.below (ba (Below.refl _ _) (.cells ([-1, 3].map ivN).toArray 3))).gb hg5 (by omega))
      have T5 := Lib.hid ((T3.out.below (ba (Below.refl _ _) (.cells ([-1, 3].map ivN).toArray 3))).gb hg5 (by omega))
      have D5 := Lib.hid ((D3.out.alloc (.cells ([-1, 3].map ivN).toArray 3)).step hg5)
      have E5 := Lib.hid ((E3.out.alloc (.cells ([-1, 3].map ivN).toArray 3)).step hg5)
      have t0 : w5.cell? ⟨w.heap.size, 0, none⟩ = some (.slice none 0 0) := D5.out.1.2 0
      have tf : w5.frozen? ⟨w.heap.size, 0, none⟩ = false := D5.out.2.1 0
      have t1 : w5.cell? ⟨X, 0, none⟩ = some (.slice oa ps.length oc) := E5.out.1.2 0
      clear c0 c1 c2 c3 c4 c5 c6 c7 z0 z1 z2 z3 z4 z5 z6 z7 u0 uf v0 hg5 hm
      have hrow := L5.out.1
      rw [← Hn.out] at hrow
      obtain ⟨⟨c0, c1, c2, c3, c4, c5, c6, c7⟩, z0, z1, z2, z3, z4, z5, z6, z7⟩ := own8 hrow 0 hql
      rw [← Hp.out] at c0 c1 c2 c3 c4 c5 c6 c7
      dsimp only at c0 c1 c2 c3 c4 c5 c6 c7
      simp only [Nat.zero_mul, Nat.zero_add] at c0 c1 c2 c3 c4 c5 c6 c7 z0 z1 z2 z3 z4 z5 z6 z7
      have L6 := Lib.hid (RowsC8.put Hn.out.symm L5.out 0 3 hql (by omega) (.int .i64 m) (⟨x0, x1, x2, m, x4, x5, x6, fb⟩, .slice ab fb.length cb) (by rw [← Hp.out]; rfl) (by rw [← Hp.out]) (by rw [← Hp.out]))
      simp only [Nat.zero_mul, Nat.zero_add] at L6
      have T6 := Lib.hid (show OwnFils (w5.setCell ⟨g, 3, none⟩ (.int .i64 m)) (w.heap.size + 1) (.slice oa ps.length oc) ps from T5.out.set_box (fun b hb => by rcases hb with hb | ⟨p, hp, hb⟩; exact fun e => own_types (T := 53) (T' := 55) (by decide) L5.out.1 T5.out.1 (by rw [e]; rfl) hb; exact fun e => own_types (T := 53) (T' := 124) (by decide) L5.out.1 (T5.out.2.1 p hp) (by rw [e]; rfl) hb) _)
      clear hrow
      go_wp2_with fail
      go_region
      go_wp2_with fail
      exact bodyPost_ret (v := .tuple #[.slice (some ⟨g, 0, none⟩) n lc, .agg #[.slice oa ps.length oc]]) (by simp [results, Try.results80, go_sem, *]) rfl (Fin.out _ _ _ _ L6.out (mem_set_all (P := fun (p : Cmp × Value) => FineC 1000004 p.1) Hfine.out ⟨Hfi.out.1, Hfi.out.2.1, by dsimp only; omega, by dsimp only; omega⟩) (by rw [List.length_set, ← Hn.out]; omega) T6.out (D5.out.other hgw (by omega) _ _) (hr5.set (by dsimp only; omega) _) (by omega))
    have hj2b : (j == 2) = false := by simpa using hj2
    go_wp2_with fail
    go_region
    go_wp2_with fail
    exact bodyPost_ret (v := .tuple #[.slice (some ⟨g, 0, none⟩) n lc, .agg #[.slice oa ps.length oc]]) (by simp [results, Try.results80, go_sem, *]) rfl (Fin.out _ _ _ qs L3.out Hfine.out (by rw [← Hn.out]; omega) T3.out D3.out hr3 (by omega))

/-! ### The functions that draw stores for the laws. -/
/-- A store that a draw for a law answers. -/
def StoreD (w w' : World) (lv : Value) (qs : List (Cmp × Value)) : Prop := RowsC8 w' w.heap.size lv qs ∧ (∀ p ∈ qs, FineC 1000004 p.1) ∧ qs.length ≤ 11
/-- A tree of own files that a draw for a law answers. -/
def TreeO (w w' : World) (v : Value) (ps : List (Fil × Value)) : Prop := OwnFils w' w.heap.size v ps ∧ ShortT 8 (ps.map (·.1)) ∧ ps.length ≤ 10 ∧ (∀ p ∈ ps, p.1.body.length ≤ 4)
set_option maxRecDepth 100000 in
set_option maxHeartbeats 800000 in
theorem spec_DrawValidStore (a : Option Addr) (n cap : Nat) (w : World) (hc : Code w w.heap.size a n cap) :
    Calls Try.prog 30 #[.slice a n cap] w fun e w' => ∃ lv qs, e = .returned lv ∧ StoreD w w' lv qs ∧ Below w.heap.size w w' := by
  go_enter Try.func30, Try.ntmps30
  go_wp2_with fail
  refine (spec_newReader a n cap _ hc).mono ?_
  rintro e w1 ⟨rfl, hr, hb⟩
  have hz := hb.size
  have hRlt := hr.lt
  go_wp2_with fail
  refine (spec_anyStore _ 0 _ hr (by omega)).mono ?_
  rintro e w2 ⟨lv, qs, tv, ps, rfl, hlist, hfine, hl, htree, _, _, _, q2, hq2, hr2, hg2⟩
  obtain ⟨la, lc, rfl⟩ := hlist.len
  obtain ⟨oa, oc, rfl⟩ := len1D htree
  have HL2 := Lib.hid hlist
  have Hfine := Lib.hid hfine
  have B2 := Lib.hid (show Below w.heap.size w w2 from below_gb hb hz (Nat.le_refl _) hg2)
  clear hlist hfine hg2 htree
  generalize hql : qs.length = ql at *
  go_wp2_with fail
  go_ret
  refine ⟨_, qs, rfl, ⟨?_, Hfine.out, by omega⟩, by have h := B2.out; (repeat (with_reducible first | exact Below.refl _ _ | assumption | refine ba ?_ _ | refine bd ?_ | refine bdN ?_ _ | refine bs ?_ (by first | exact Nat.le_refl _ | (dsimp only; omega) | (simp; done)) _ | refine bt ?_ (by assumption)))⟩
  exact (HL2.out.below (ba (Below.refl _ _) _)).mono hz
set_option maxRecDepth 100000 in
set_option maxHeartbeats 800000 in
theorem spec_DrawWrongFiles (a : Option Addr) (n cap : Nat) (w : World) (hc : Code w w.heap.size a n cap) :
    Calls Try.prog 48 #[.slice a n cap] w fun e w' => ∃ lv qs v ps, e = .returned (.tuple #[lv, .agg #[v]]) ∧ StoreD w w' lv qs ∧ TreeO w w' v ps ∧ Below w.heap.size w w' := by
  go_enter Try.func48, Try.ntmps48
  go_wp2_with fail
  refine (spec_newReader a n cap _ (code_alloc hc _)).mono ?_
  rintro e w1 ⟨rfl, hr, hb⟩
  have hz := hb.size
  have B1 := Lib.hid ((Boxed.start w #[.slice none 0 0] 33).step hb)
  have hz1 : w.heap.size + 1 ≤ w1.heap.size := by simp at hz; omega
  simp only [World.size_alloc] at hr hz ⊢
  have hRlt := hr.lt
  clear hb
  go_wp2_with fail
  refine (spec_anyStore _ 0 _ hr (by omega)).mono ?_
  rintro e w2 ⟨lv, qs, tv, ps, rfl, hlist, hfine, hl, htree, hsh, hp10, hb4, q2, hq2, hr2, hg2⟩
  obtain ⟨la, lc, rfl⟩ := hlist.len
  obtain ⟨oa, oc, rfl⟩ := len1D htree
  have HL2 := Lib.hid hlist
  have HT2 := Lib.hid htree
  have Hfine := Lib.hid hfine
  have Hsh := Lib.hid hsh
  have Hb4 := Lib.hid hb4
  have B2 := Lib.hid (show Below (w.heap.size + 1) (w.alloc (.cells #[.slice none 0 0] 33)) w2 from below_gb (by have := B1.out; unfold Boxed at this; simpa using this) hz1 (Nat.le_refl _) hg2)
  have hz2 := hg2.size
  clear hlist hfine hg2 htree hsh hb4 B1
  have X2 := Lib.hid (show Boxed w #[.slice none 0 0] 33 w2 from by unfold Boxed; simpa using B2.out)
  have x0 : w2.cell? ⟨w.heap.size, 0, none⟩ = some (.slice none 0 0) := X2.out.cell 0
  have xf : w2.frozen? ⟨w.heap.size, 0, none⟩ = false := by
    have := X2.out.frozen (p := ⟨w.heap.size, 0, none⟩) (by simp)
    rw [this]; simp [go_sem]
  generalize hql : qs.length = ql at *
  generalize hpn : ps.length = pn at *
  go_wp2_with fail
  refine bodyPost_ret (v := .tuple #[.slice la ql lc, .agg #[.slice oa pn oc]]) (by simp [results, Try.results48, go_sem, *]) rfl ⟨_, qs, _, ps, rfl, ⟨((HL2.out.mono hz1).set_low (by dsimp only; omega) _).mono (by omega), Hfine.out, by omega⟩, ⟨((HT2.out.mono hz1).set_low (by dsimp only; omega) _).mono (by omega), Hsh.out, by omega, Hb4.out⟩, ?_⟩
  have h3 := X2.out.below
  (repeat (with_reducible first | exact Below.refl _ _ | assumption | refine ba ?_ _ | refine bd ?_ | refine bdN ?_ _ | refine bs ?_ (by first | exact Nat.le_refl _ | (dsimp only; omega) | (simp; done)) _ | refine bt ?_ (by assumption)))
theorem RowsC8.set_box {w : World} {B : Nat} {v : Value} {ps : List (Cmp × Value)} (h : RowsC8 w B v ps) {p : Addr} (hp : ∀ b, (v.ownBlock = some b ∨ ∃ q ∈ ps, q.2.ownBlock = some b) → b ≠ p.block) (u : Value) : RowsC8 (w.setCell p u) B v ps :=
  ⟨owns_set_otherD h.1 (fun b hb => hp b (.inl hb)) u, fun q hq => owns_set_otherD (h.2.1 q hq) (fun b hb => hp b (.inr ⟨q, hq, hb⟩)) u, trivial⟩
theorem six_ofQ {w wr : World} {c0 c1 c2 c3 c4 c5 : Value} {T : TypeId} (h : Boxed w #[c0, c1, c2, c3, c4, c5] T wr) :
    wr.cell? ⟨w.heap.size, 0, none⟩ = some c0 ∧ wr.cell? ⟨w.heap.size, 1, none⟩ = some c1 ∧ wr.cell? ⟨w.heap.size, 2, none⟩ = some c2 ∧ wr.cell? ⟨w.heap.size, 3, none⟩ = some c3 ∧ wr.cell? ⟨w.heap.size, 4, none⟩ = some c4 ∧ wr.cell? ⟨w.heap.size, 5, none⟩ = some c5 :=
  ⟨h.cell 0, h.cell 1, h.cell 2, h.cell 3, h.cell 4, h.cell 5⟩
theorem box_freeQ {w wr : World} {cs : Array Value} {T : TypeId} (h : Boxed w cs T wr) (i : Nat) : wr.frozen? ⟨w.heap.size, i, none⟩ = false := by
  have := h.frozen (p := ⟨w.heap.size, i, none⟩) (by simp)
  rw [this]; simp [go_sem]
set_option maxRecDepth 100000 in
set_option maxHeartbeats 4000000 in
theorem spec_DrawLoadBody (a : Option Addr) (n cap : Nat) (w : World) (hc : Code w w.heap.size a n cap) :
    Calls Try.prog 39 #[.slice a n cap] w fun e w' => ∃ lv qs f bv m, e = .returned (.tuple #[lv, filV (f, bv), .int .i64 m]) ∧ StoreD w w' lv qs ∧ w'.ownsRow w.heap.size 124 5 bv f.body.length (f.body.flatMap stmCells) ∧ ShortF 8 f ∧ f.body.length ≤ 4 ∧ Below w.heap.size w w' := by
  go_enter Try.func39, Try.ntmps39
  go_wp2_with fail
  refine (spec_newReader a n cap _ (code_alloc hc _)).mono ?_
  rintro e w1 ⟨rfl, hr, hb⟩
  have hz := hb.size
  rw [show (w.alloc (.cells #[.int .i64 0, .string (⟨#[]⟩ : ByteArray), .string (⟨#[]⟩ : ByteArray), .bool false, .int .i64 0, .slice none 0 0] 55)).heap.size = w.heap.size + 1 by simp] at hr
  have hz1 : w.heap.size + 1 ≤ w1.heap.size := by simp at hz; omega
  have Hb1 := Lib.hid (show Below (w.heap.size + 1) (w.alloc (.cells #[.int .i64 0, .string (⟨#[]⟩ : ByteArray), .string (⟨#[]⟩ : ByteArray), .bool false, .int .i64 0, .slice none 0 0] 55)) w1 from by simpa using hb)
  have hRlt := hr.lt
  simp only [World.size_alloc]
  clear hb hz
  go_wp2_with fail
  refine (spec_anyStore _ 0 _ hr (by omega)).mono ?_
  rintro e w2 ⟨lv, qs, tv, ps, rfl, hlist, hfine, hl, htree, hsh, hp10, hb4, q2, hq2, hr2, hg2⟩
  obtain ⟨la, lc, rfl⟩ := hlist.len
  obtain ⟨oa, oc, rfl⟩ := len1D htree
  have L2 := Lib.hid (hlist.below (ba (Below.refl _ _) (.cells #[.slice oa ps.length oc] 33)))
  have T2 := Lib.hid (htree.below (ba (Below.refl _ _) (.cells #[.slice oa ps.length oc] 33)))
  have Hfine := Lib.hid hfine
  have Hsh := Lib.hid (shortT_pairs.1 hsh)
  have Hb4 := Lib.hid hb4
  have hz2 := hg2.size
  have X2 : Dst w1 (w.heap.size + 1) w2.heap.size #[.slice oa ps.length oc] (w2.alloc (.cells #[.slice oa ps.length oc] 33)) := by
    obtain ⟨h1, h2, h3, h4, h5⟩ := Dst.start (w := w2) hr2.lt #[.slice oa ps.length oc] 33
    exact ⟨h1, h2, gb_trans hg2 h3, h4, by omega⟩
  have HX2 := Lib.hid X2
  have hr2' := hr2.alloc (.cells #[.slice oa ps.length oc] 33)
  have hR2 := hr2.lt
  obtain ⟨n0, hn0⟩ : ∃ n0, n0 = ps.length := ⟨_, rfl⟩
  obtain ⟨ql, hql⟩ : ∃ ql, ql = qs.length := ⟨_, rfl⟩
  have Hn0 := Lib.hid hn0
  have Hql := Lib.hid hql
  rw [← hn0] at L2 T2 HX2 hr2' hp10 ⊢
  rw [← hql] at L2 hl ⊢
  have Hlow := Lib.hid (fun p (hp : p ∈ ps) b (hb : p.2.ownBlock = some b) => (owns_block (htree.2.1 p hp) hb).2)
  have HlowL := Lib.hid (fun b (hb : (Value.slice la ql lc).ownBlock = some b ∨ ∃ q ∈ qs, q.2.ownBlock = some b) => (show b < w2.heap.size by rcases hb with hb | ⟨q, hq, hb⟩; exact (owns_block hlist.1 (by rw [← hql]; exact hb)).2; exact (owns_block (hlist.2.1 q hq) hb).2))
  clear hlist hfine htree hsh hb4 hg2 X2 hr hr2 hn0 hql
  go_wp2_with fail
  refine (spec_anyFile _ q2 _ hr2' (by omega)).mono ?_
  rintro e w3 ⟨⟨fr, fp, fn, fi, fst, fb⟩, bv, rfl, hown, hsf, hl4, q3, hq3, hr3, hg3⟩
  unfold filV
  dsimp only at hown hl4 ⊢
  obtain ⟨ab, cb, rfl⟩ := owns_shape hown
  have hz3 : w2.heap.size + 1 ≤ w3.heap.size := by have := hg3.size; simpa using this
  have L3 := Lib.hid ((L2.out.gb hg3 (by omega)).below (ba (Below.refl _ _) (.cells #[.int .i64 fr, .string (mk fp), .string (mk fn), .bool fi, .int .i64 fst, .slice ab fb.length cb] 55)))
  have T3 := Lib.hid ((T2.out.gb hg3 (by omega)).below (ba (Below.refl _ _) (.cells #[.int .i64 fr, .string (mk fp), .string (mk fn), .bool fi, .int .i64 fst, .slice ab fb.length cb] 55)))
  have X3 := Lib.hid ((HX2.out.step hg3).alloc (.cells #[.int .i64 fr, .string (mk fp), .string (mk fn), .bool fi, .int .i64 fst, .slice ab fb.length cb] 55))
  have Y3 : Dst w1 (w.heap.size + 1) w3.heap.size #[.int .i64 fr, .string (mk fp), .string (mk fn), .bool fi, .int .i64 fst, .slice ab fb.length cb] (w3.alloc (.cells #[.int .i64 fr, .string (mk fp), .string (mk fn), .bool fi, .int .i64 fst, .slice ab fb.length cb] 55)) := by
    obtain ⟨h1, h2, h3, h4, h5⟩ := Dst.start (w := w3) hr3.lt #[.int .i64 fr, .string (mk fp), .string (mk fn), .bool fi, .int .i64 fst, .slice ab fb.length cb] 55
    exact ⟨h1, h2, gb_trans (HX2.out.step hg3).2.2.1 h3, h4, by omega⟩
  have HY3 := Lib.hid Y3
  have Bd3 := Lib.hid (owns_below (owns_mono hown (show w1.heap.size ≤ _ by simp; omega)) (ba (Below.refl _ _) (.cells #[.int .i64 fr, .string (mk fp), .string (mk fn), .bool fi, .int .i64 fst, .slice ab fb.length cb] 55)))
  have hr3' := hr3.alloc (.cells #[.int .i64 fr, .string (mk fp), .string (mk fn), .bool fi, .int .i64 fst, .slice ab fb.length cb] 55)
  have Hsf := Lib.hid hsf
  clear hown hsf hg3 L2 T2 HX2 Y3 hr2' hr3
  obtain ⟨Y, hY⟩ : ∃ Y, Y = w3.heap.size := ⟨_, rfl⟩
  obtain ⟨X, hX⟩ : ∃ X, X = w2.heap.size := ⟨_, rfl⟩
  obtain ⟨w4, hw4⟩ : ∃ w4, w4 = w3.alloc (.cells #[.int .i64 fr, .string (mk fp), .string (mk fn), .bool fi, .int .i64 fst, .slice ab fb.length cb] 55) := ⟨_, rfl⟩
  rw [← hw4] at L3 T3 X3 HY3 Bd3 hr3'
  rw [← hX] at X3 hz3 hz2 hR2 Hlow HlowL
  rw [← hY] at HY3 hz3
  have HW4 := Lib.hid hw4
  have HYs := Lib.hid hY
  have HXs := Lib.hid hX
  have x0 : w4.cell? ⟨X, 0, none⟩ = some (.slice oa n0 oc) := X3.out.1.2 0
  have hXY : X ≠ Y := by omega
  have hYX : Y ≠ X := by omega
  clear hw4 hY hX
  go_upto_region 4 with fail
  rw [← HW4.out, ← HYs.out, ← HXs.out]
  by_cases h0 : n0 = 0
  · subst h0
    go_upto_region 6 with fail
    have Lt := Lib.hid L3.out
    have Bt := Lib.hid Bd3.out
    have Yt := Lib.hid HY3.out
    have Gt := Lib.hid HY3.out.2.2.1
    have hrt := hr3'
    obtain ⟨y0, y1, y2, y3, y4, y5⟩ := Dst.cells6 Yt.out
    have hYlt := Yt.out.1.1
    have hRt := hrt.lt
    go_region_law (first
      | (go_simp; go_at_call 89; refine (reader_one _ q3 w4.heap.size 3 [0, 1, 2, 3] _ (hrt.drewJ.alloc _) (heap_new w4.drew _ _) (by have := hRt; omega) (by decide) (by decide) (by omega)).mono ?_; rintro e w9 ⟨m, hm, rfl, hr9, hg9⟩; have Y9 := Lib.hid ((Yt.out.drewJ.alloc (.cells ([0, 1, 2, 3].map ivN).toArray 3)).step hg9); have G9 := Lib.hid Y9.out.2.2.1; have L9 := Lib.hid ((Lt.out.drewJ.below (ba (Below.refl _ _) (.cells ([0, 1, 2, 3].map ivN).toArray 3))).gb hg9 (by omega)); have B9 := Lib.hid ((owns_below Bt.out (ba (bd (Below.refl _ _)) (.cells ([0, 1, 2, 3].map ivN).toArray 3))).kept hg9 (.inr (fun e => by have h := (owns_block Bt.out e).1; omega))); obtain ⟨r0, r1, r2, r3, r4, r5⟩ := Dst.cells6 Y9.out; have X9 := Lib.hid (show Boxed w #[.int .i64 0, .string (⟨#[]⟩ : ByteArray), .string (⟨#[]⟩ : ByteArray), .bool false, .int .i64 0, .slice none 0 0] 55 w9 from by unfold Boxed; simpa using (below_gb Hb1.out (by omega) (by omega) G9.out)); obtain ⟨s0, s1, s2, s3, s4, s5⟩ := six_ofQ X9.out; have sf0 := box_freeQ X9.out 0; have sf1 := box_freeQ X9.out 1; have sf2 := box_freeQ X9.out 2; have sf3 := box_freeQ X9.out 3; have sf4 := box_freeQ X9.out 4; have sf5 := box_freeQ X9.out 5; clear hg9 hr9 hm))
    all_goals
      go_wp2_with fail
      refine bodyPost_ret (v := .tuple #[.slice la ql lc, filV (⟨fr, fp, fn, fi, fst, fb⟩, (.slice ab fb.length cb)), .int .i64 m]) (by simp [results, Try.results39, go_sem, filV, *]) rfl ⟨_, qs, ⟨fr, fp, fn, fi, fst, fb⟩, (.slice ab fb.length cb), m, rfl, ⟨?_, Hfine.out, by have := Hql.out; omega⟩, ?_, Hsf.out, hl4, ?_⟩
      · have h3 := L9.out
        refine RowsC8.mono (B := w1.heap.size) ?_ (by omega)
        repeat (first | with_reducible exact h3 | with_reducible refine RowsC8.set_low ?_ (by dsimp only; omega) _)
      · have h3 := B9.out
        refine owns_mono (B := w1.heap.size) ?_ (by omega)
        repeat (first | with_reducible exact h3 | with_reducible refine owns_set_low ?_ (by dsimp only; omega) _)
      · have h3 := X9.out.below
        (repeat (with_reducible first | exact Below.refl _ _ | assumption | refine ba ?_ _ | refine bd ?_ | refine bdN ?_ _ | refine bs ?_ (by first | exact Nat.le_refl _ | (dsimp only; omega) | (simp; done)) _ | refine bt ?_ (by assumption)))
  · have h0i : (0 : Int) < (n0 : Int) := by omega
    go_wp2_with fail
    refine (reader_pick _ q3 4 _ hr3' (by omega) (by omega)).mono ?_
    rintro e w5 ⟨j, rfl, hj0, hj, hr5, hg5⟩
    have L5 := Lib.hid (L3.out.gb hg5 (by omega))
    have T5 := Lib.hid (T3.out.gb hg5 (by omega))
    have X5 := Lib.hid (X3.out.step hg5)
    have Y5 := Lib.hid (HY3.out.step hg5)
    have Bd5 := Lib.hid (Bd3.out.kept hg5 (.inr (fun e => by have h := (owns_block Bd3.out e).1; omega)))
    have hz5 := hg5.size
    clear hg5 hj L3 T3 X3 HY3 Bd3 hr3' x0
    have x0 : w5.cell? ⟨X, 0, none⟩ = some (.slice oa n0 oc) := X5.out.1.2 0
    by_cases hj1 : 0 < j
    · go_wp2_with fail
      go_region_law (first
        | (go_simp; go_at_call 86; refine (reader_pick _ (q3 + 1) (n0 : Int) _ hr5.drewJ (by omega) (by omega)).mono ?_; rintro e w6 ⟨i, rfl, hi0, hi, hr6, hg6⟩; obtain ⟨m, rfl⟩ := Int.eq_ofNat_of_zero_le hi0; have hm : m < n0 := (by rcases hi with h | h <;> omega); have L6 := Lib.hid (L5.out.drewJ.gb hg6 (by omega)); have T6 := Lib.hid (T5.out.drewJ.gb hg6 (by omega)); have X6 := Lib.hid (X5.out.drewJ.step hg6); have Y6 := Lib.hid (Y5.out.drewJ.step hg6); have Hr6 := Lib.hid hr6; have z0 : w6.cell? ⟨X, 0, none⟩ = some (.slice oa n0 oc) := X6.out.1.2 0; have hmp : m < ps.length := (by rw [← Hn0.out]; exact hm); obtain ⟨g, cap', e1, hg, hg2⟩ := T6.out.1.form (by omega); simp only [Value.slice.injEq] at e1; obtain ⟨rfl, hnn, rfl⟩ := e1; clear hnn; have hrow6 := T6.out.1; rw [← Hn0.out] at hrow6; obtain ⟨⟨k0, k1, k2, k3, k4, k5⟩, _⟩ := own6 hrow6 m hmp; have hsf6 := Hsh.out _ (List.getElem_mem hmp); have hl6 := Hb4.out _ (List.getElem_mem hmp); have hbd6 := T6.out.2.1 _ (List.getElem_mem hmp); have Hlw6 := Lib.hid (Hlow.out _ (List.getElem_mem hmp)); obtain ⟨p, hp⟩ : ∃ p, p = ps[m] := ⟨_, rfl⟩; rw [← hp] at k0 k1 k2 k3 k4 k5 hsf6 hl6 hbd6 Hlw6; clear hp hrow6; obtain ⟨⟨ar, ap, an, ai, ast, af⟩, av⟩ := p; dsimp only at k0 k1 k2 k3 k4 k5 hsf6 hl6 hbd6 Hlw6; obtain ⟨ab6, cb6, hav⟩ := owns_shape hbd6; subst hav; have Hbd6 := Lib.hid hbd6; have Hsf6 := Lib.hid hsf6; obtain ⟨j0, j1, j2, j3, j4, j5⟩ := Dst.cells6 Y6.out; have jf0 := Y6.out.2.1 0; have jf1 := Y6.out.2.1 1; have jf2 := Y6.out.2.1 2; have jf3 := Y6.out.2.1 3; have jf4 := Y6.out.2.1 4; have jf5 := Y6.out.2.1 5; have hg1 : 0 ≤ (m : Int) := (by omega); have hg3 : (m : Int) < (n0 : Int) := (by omega); clear hbd6 hsf6 hg6 hr6 hi))
      all_goals
        go_upto_region 6 with fail
        obtain ⟨w7, hw7⟩ : ∃ w7, w7 = ((((((w6.setCell ⟨Y, 0, none⟩ (.int .i64 ar)).setCell ⟨Y, 1, none⟩ (.string (mk ap))).setCell ⟨Y, 2, none⟩ (.string (mk an))).setCell ⟨Y, 3, none⟩ (.bool ai)).setCell ⟨Y, 4, none⟩ (.int .i64 ast)).setCell ⟨Y, 5, none⟩ (.slice ab6 af.length cb6)) := ⟨_, rfl⟩
        have Lt := Lib.hid (show RowsC8 w7 w1.heap.size (.slice la ql lc) qs by
          rw [hw7]
          have h3 := L6.out
          repeat (first | with_reducible exact h3 | with_reducible refine RowsC8.set_box ?_ (fun b hb => by have := HlowL.out b hb; dsimp only; omega) _))
        have Bt := Lib.hid (show w7.ownsRow w1.heap.size 124 5 (.slice ab6 af.length cb6) af.length (af.flatMap stmCells) by
          rw [hw7]
          have h3 := Hbd6.out
          repeat (first | with_reducible exact h3 | with_reducible refine owns_set_otherD ?_ (fun b hb => by have := Hlw6.out b hb; dsimp only; omega) _))
        have Yt := Lib.hid (show Dst w1 (w.heap.size + 1) Y #[.int .i64 ar, .string (mk ap), .string (mk an), .bool ai, .int .i64 ast, .slice ab6 af.length cb6] w7 by
          rw [hw7]
          have h := (((((Dst.put Y6.out 0 (by simp) (.int .i64 ar)).put 1 (by simp) (.string (mk ap))).put 2 (by simp) (.string (mk an))).put 3 (by simp) (.bool ai)).put 4 (by simp) (.int .i64 ast)).put 5 (by simp) (.slice ab6 af.length cb6)
          simpa using h)
        have Gt := Lib.hid Yt.out.2.2.1
        have hrt : Rd w7 (w.heap.size + 1) (q3 + 1 + 1) := by
          rw [hw7]
          have h3 := Hr6.out
          repeat (first | with_reducible exact h3 | with_reducible refine Rd.set ?_ (by dsimp only; omega) _)
        clear k0 k1 k2 k3 k4 k5 j0 j1 j2 j3 j4 j5 jf0 jf1 jf2 jf3 jf4 jf5 z0 x0
        rw [← hw7]
        clear hw7
        obtain ⟨y0, y1, y2, y3, y4, y5⟩ := Dst.cells6 Yt.out
        have hYlt := Yt.out.1.1
        have hRt := hrt.lt
        go_region_law (first
          | (go_simp; go_at_call 89; refine (reader_one _ (q3 + 1 + 1) w7.heap.size 3 [0, 1, 2, 3] _ (hrt.drewJ.alloc _) (heap_new w7.drew _ _) (by have := hRt; omega) (by decide) (by decide) (by omega)).mono ?_; rintro e w9 ⟨m, hm, rfl, hr9, hg9⟩; have Y9 := Lib.hid ((Yt.out.drewJ.alloc (.cells ([0, 1, 2, 3].map ivN).toArray 3)).step hg9); have G9 := Lib.hid Y9.out.2.2.1; have L9 := Lib.hid ((Lt.out.drewJ.below (ba (Below.refl _ _) (.cells ([0, 1, 2, 3].map ivN).toArray 3))).gb hg9 (by omega)); have B9 := Lib.hid ((owns_below Bt.out (ba (bd (Below.refl _ _)) (.cells ([0, 1, 2, 3].map ivN).toArray 3))).kept hg9 (.inr (fun e => by have h := (owns_block Bt.out e).1; omega))); obtain ⟨r0, r1, r2, r3, r4, r5⟩ := Dst.cells6 Y9.out; have X9 := Lib.hid (show Boxed w #[.int .i64 0, .string (⟨#[]⟩ : ByteArray), .string (⟨#[]⟩ : ByteArray), .bool false, .int .i64 0, .slice none 0 0] 55 w9 from by unfold Boxed; simpa using (below_gb Hb1.out (by omega) (by omega) G9.out)); obtain ⟨s0, s1, s2, s3, s4, s5⟩ := six_ofQ X9.out; have sf0 := box_freeQ X9.out 0; have sf1 := box_freeQ X9.out 1; have sf2 := box_freeQ X9.out 2; have sf3 := box_freeQ X9.out 3; have sf4 := box_freeQ X9.out 4; have sf5 := box_freeQ X9.out 5; clear hg9 hr9 hm))
        all_goals
          go_wp2_with fail
          refine bodyPost_ret (v := .tuple #[.slice la ql lc, filV (⟨ar, ap, an, ai, ast, af⟩, (.slice ab6 af.length cb6)), .int .i64 m]) (by simp [results, Try.results39, go_sem, filV, *]) rfl ⟨_, qs, ⟨ar, ap, an, ai, ast, af⟩, (.slice ab6 af.length cb6), m, rfl, ⟨?_, Hfine.out, by have := Hql.out; omega⟩, ?_, Hsf6.out, hl6, ?_⟩
          · have h3 := L9.out
            refine RowsC8.mono (B := w1.heap.size) ?_ (by omega)
            repeat (first | with_reducible exact h3 | with_reducible refine RowsC8.set_low ?_ (by dsimp only; omega) _)
          · have h3 := B9.out
            refine owns_mono (B := w1.heap.size) ?_ (by omega)
            repeat (first | with_reducible exact h3 | with_reducible refine owns_set_low ?_ (by dsimp only; omega) _)
          · have h3 := X9.out.below
            (repeat (with_reducible first | exact Below.refl _ _ | assumption | refine ba ?_ _ | refine bd ?_ | refine bdN ?_ _ | refine bs ?_ (by first | exact Nat.le_refl _ | (dsimp only; omega) | (simp; done)) _ | refine bt ?_ (by assumption)))
    · go_upto_region 6 with fail
      have Lt := Lib.hid L5.out
      have Bt := Lib.hid Bd5.out
      have Yt := Lib.hid Y5.out
      have Gt := Lib.hid Y5.out.2.2.1
      have hrt := hr5
      obtain ⟨y0, y1, y2, y3, y4, y5⟩ := Dst.cells6 Yt.out
      have hYlt := Yt.out.1.1
      have hRt := hrt.lt
      go_region_law (first
        | (go_simp; go_at_call 89; refine (reader_one _ (q3 + 1) w5.heap.size 3 [0, 1, 2, 3] _ (hrt.drewJ.alloc _) (heap_new w5.drew _ _) (by have := hRt; omega) (by decide) (by decide) (by omega)).mono ?_; rintro e w9 ⟨m, hm, rfl, hr9, hg9⟩; have Y9 := Lib.hid ((Yt.out.drewJ.alloc (.cells ([0, 1, 2, 3].map ivN).toArray 3)).step hg9); have G9 := Lib.hid Y9.out.2.2.1; have L9 := Lib.hid ((Lt.out.drewJ.below (ba (Below.refl _ _) (.cells ([0, 1, 2, 3].map ivN).toArray 3))).gb hg9 (by omega)); have B9 := Lib.hid ((owns_below Bt.out (ba (bd (Below.refl _ _)) (.cells ([0, 1, 2, 3].map ivN).toArray 3))).kept hg9 (.inr (fun e => by have h := (owns_block Bt.out e).1; omega))); obtain ⟨r0, r1, r2, r3, r4, r5⟩ := Dst.cells6 Y9.out; have X9 := Lib.hid (show Boxed w #[.int .i64 0, .string (⟨#[]⟩ : ByteArray), .string (⟨#[]⟩ : ByteArray), .bool false, .int .i64 0, .slice none 0 0] 55 w9 from by unfold Boxed; simpa using (below_gb Hb1.out (by omega) (by omega) G9.out)); obtain ⟨s0, s1, s2, s3, s4, s5⟩ := six_ofQ X9.out; have sf0 := box_freeQ X9.out 0; have sf1 := box_freeQ X9.out 1; have sf2 := box_freeQ X9.out 2; have sf3 := box_freeQ X9.out 3; have sf4 := box_freeQ X9.out 4; have sf5 := box_freeQ X9.out 5; clear hg9 hr9 hm))
      all_goals
        go_wp2_with fail
        refine bodyPost_ret (v := .tuple #[.slice la ql lc, filV (⟨fr, fp, fn, fi, fst, fb⟩, (.slice ab fb.length cb)), .int .i64 m]) (by simp [results, Try.results39, go_sem, filV, *]) rfl ⟨_, qs, ⟨fr, fp, fn, fi, fst, fb⟩, (.slice ab fb.length cb), m, rfl, ⟨?_, Hfine.out, by have := Hql.out; omega⟩, ?_, Hsf.out, hl4, ?_⟩
        · have h3 := L9.out
          refine RowsC8.mono (B := w1.heap.size) ?_ (by omega)
          repeat (first | with_reducible exact h3 | with_reducible refine RowsC8.set_low ?_ (by dsimp only; omega) _)
        · have h3 := B9.out
          refine owns_mono (B := w1.heap.size) ?_ (by omega)
          repeat (first | with_reducible exact h3 | with_reducible refine owns_set_low ?_ (by dsimp only; omega) _)
        · have h3 := X9.out.below
          (repeat (with_reducible first | exact Below.refl _ _ | assumption | refine ba ?_ _ | refine bd ?_ | refine bdN ?_ _ | refine bs ?_ (by first | exact Nat.le_refl _ | (dsimp only; omega) | (simp; done)) _ | refine bt ?_ (by assumption)))
end Go.Proofs.Ytomdmkhgkaalnaa
