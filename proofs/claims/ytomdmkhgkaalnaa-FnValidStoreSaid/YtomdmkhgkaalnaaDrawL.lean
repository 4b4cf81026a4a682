/- The function that draws a store that may not be valid, with its tree, and draws over it. -/
import Derived.Test.YtomdmkhgkaalnaaDrawJ
import Derived.Test.YtomdmkhgkaalnaaDrawG
import Derived.Deep.RegionLaw
set_option linter.unusedVariables false
set_option linter.unusedSimpArgs false
namespace Go.Proofs.Ytomdmkhgkaalnaa
open Go.RowKit Go.Proofs.Ytomdmkhgkaalnaa.Nm

theorem RowsC8.gb {w w' : World} {B R : Nat} {v : Value} {ps : List (Cmp × Value)} (h : RowsC8 w B v ps) (hg : w.grownBy w' (some R)) (hR : R < B) : RowsC8 w' B v ps :=
  ⟨owns_heap h.1 (fun b hb => hg.block b (owns_block h.1 hb).2 (fun e => by have h1 := (owns_block h.1 hb).1; have := Option.some.inj e; omega)),
   fun p hp => owns_heap (h.2.1 p hp) (fun b hb => hg.block b (owns_block (h.2.1 p hp) hb).2 (fun e => by have h1 := (owns_block (h.2.1 p hp) hb).1; have := Option.some.inj e; omega)), trivial⟩
theorem RowsC8.drewJ {w : World} {B : Nat} {v : Value} {ps : List (Cmp × Value)} (h : RowsC8 w B v ps) : RowsC8 w.drew B v ps := h.below ⟨rfl, rfl, rfl, Nat.le_refl _, fun _ _ => rfl⟩
theorem RowsC8.set_low {w : World} {B : Nat} {v : Value} {ps : List (Cmp × Value)} (h : RowsC8 w B v ps) {p : Addr} (hp : p.block < B) (u : Value) : RowsC8 (w.setCell p u) B v ps := ⟨owns_set_low h.1 hp u, fun q hq => owns_set_low (h.2.1 q hq) hp u, trivial⟩
/-- A box of a tree is put, which is none of a store's blocks. -/
theorem box_neL {w : World} {B e s n X : Nat} {v : Value} {xs : List Value} {cs : Array Value} {T : TypeId} {r : Nat × Nat} (hT : e ≠ T) (h : w.ownsRow B e s v n xs) (hX : w.heap[X]? = some (.cells cs T r)) : ∀ b, v.ownBlock = some b → b ≠ X := by
  rcases h.2 with ⟨rfl, _⟩ | ⟨g, cap, cur, rfl, _, hg, _⟩
  · intro b hb; cases hb
  · intro b hb
    cases hb
    rintro rfl
    rw [hg] at hX
    cases hX
    exact hT rfl
/-- Files stay while a block of none of them is written. -/
theorem OwnFils.set_box {w : World} {B : Nat} {v : Value} {ps : List (Fil × Value)} (h : OwnFils w B v ps) {p : Addr} (hp : ∀ b, (v.ownBlock = some b ∨ ∃ q ∈ ps, q.2.ownBlock = some b) → b ≠ p.block) (u : Value) : OwnFils (w.setCell p u) B v ps :=
  ⟨owns_set_otherD h.1 (fun b hb => hp b (.inl hb)) u, h.2.heap (fun b _ _ ⟨q, hq, hb⟩ => Below.heap_setCell w p u b (hp b (.inr ⟨q, hq, hb⟩)))⟩
/-- One cell of an entry of a store is written, which keeps its body. -/
theorem RowsC8.put {w : World} {B g n cap : Nat} {ps : List (Cmp × Value)} (hn : ps.length = n) (h : RowsC8 w B (.slice (some ⟨g, 0, none⟩) n cap) ps) (i j : Nat) (hi : i < ps.length) (hj : j < 8) (u : Value) (q : Cmp × Value) (hc : (cmpCells ps[i]).set j u = cmpCells q)
    (hq : q.2 = ps[i].2) (hb : q.1.body = ps[i].1.body) : RowsC8 (w.setCell ⟨g, i * 8 + j, none⟩ u) B (.slice (some ⟨g, 0, none⟩) n cap) (ps.set i q) := by
  subst hn
  have hne : ∀ {m : Nat} {xs : List Value} {v : Value}, w.ownsRow B 124 5 v m xs → ∀ b, v.ownBlock = some b → b ≠ g := fun {m xs v} hv b hb e => by
    subst e; exact own_types (T := 53) (T' := 124) (by decide) h.1 hv rfl hb
  refine ⟨?_, fun p hp => ?_, trivial⟩
  · have h1 := (h.1.stored (i * 8 + j) u).1
    rw [fm_set1 ps i j q u hi hj cmpCells_len hc] at h1
    rw [List.length_set]; exact h1
  · rcases List.mem_or_eq_of_mem_set hp with hp | rfl
    · exact owns_set_otherD (h.2.1 p hp) (hne (h.2.1 p hp)) u
    · rw [hq, hb]
      exact owns_set_otherD (h.2.1 _ (List.getElem_mem hi)) (hne (h.2.1 _ (List.getElem_mem hi))) u
/-- One more entry, which lies among them already. -/
theorem cmps_twice {w w7 : World} {B : Nat} {v v7 : Value} {ps : List (Cmp × Value)} {q : Cmp × Value} (h : RowsC8 w B v ps) (hq : q ∈ ps) (hg : w.grownBy w7 v.ownBlock)
    (h7 : w7.ownsRow B 53 8 v7 (ps.length + 1) (ps.flatMap cmpCells ++ cmpCells q)) : RowsC8 w7 B v7 (ps ++ [q]) := by
  refine ⟨by simpa using h7, fun p hp => ?_, trivial⟩
  have hp' : p ∈ ps := by
    rcases List.mem_append.1 hp with hp | hp
    · exact hp
    · simp at hp; subst hp; exact hq
  exact owns_heap (h.2.1 p hp') (fun b hb => hg.block b (owns_block (h.2.1 p hp') hb).2 (fun e => own_types (T := 53) (T' := 124) (by decide) h.1 (h.2.1 p hp') e.symm hb))
theorem fine_mono {c : Cmp} (h : FineC 1000003 c) : FineC 1000004 c := ⟨h.1, h.2.1, h.2.2.1, by have := h.2.2.2; omega⟩
/-- What anyStore comes to: a store, whose entries may share a body, and a tree. -/
def DrawStore (R q c : Nat) (w : World) (e : Ending) (w' : World) : Prop :=
  ∃ lv qs tv ps, e = .returned (.tuple #[lv, .agg #[tv]]) ∧ RowsC8 w' w.heap.size lv qs ∧ (∀ p ∈ qs, FineC 1000004 p.1) ∧ qs.length ≤ 11 ∧ OwnFils w' w.heap.size tv ps ∧ ShortT 8 (ps.map (·.1)) ∧ ps.length ≤ 10 ∧ (∀ p ∈ ps, p.1.body.length ≤ 4) ∧ ∃ q', q' ≤ q + c ∧ Rd w' R q' ∧ w.grownBy w' (some R)
set_option maxRecDepth 100000 in
set_option maxHeartbeats 8000000 in
theorem spec_anyStore (R q : Nat) (w : World) (hr : Rd w R q) (hq : q ≤ 190000) :
    Calls Try.prog 80 #[.pointer (some ⟨R, 0, none⟩)] w (DrawStore R q 1212 w) := by
  obtain ⟨i0, hi, hz0, hz1, hz2⟩ := info_parts infoCmp
  have Hi := Lib.hid hi
  have Hz0 := Lib.hid hz0
  have Hz1 := Lib.hid hz1
  have Hz2 := Lib.hid hz2
  clear hi hz0 hz1 hz2
  have hR := hr.lt
  go_enter Try.func80, Try.ntmps80
  go_wp2_with fail
  have d0 := Dst.start hR #[.slice none 0 0] 33
  refine (spec_someStore R q _ (hr.alloc _) (by omega)).mono ?_
  rintro e w1 ⟨lv, qs, tv, ps, rfl, hlist, hfine, hl10, htree, hsh, hp10, hb4, q1, hq1, hr1, hg1⟩
  obtain ⟨la, lc, rfl⟩ := hlist.len
  obtain ⟨oa, oc, rfl⟩ := len1D htree
  have Hfine0 := Lib.hid hfine
  have Hfine := Lib.hid (fun p (hp : p ∈ qs) => fine_mono (hfine p hp))
  have Hsh := Lib.hid hsh
  have Hb4 := Lib.hid hb4
  have Hlow := Lib.hid (fun b (hb : (Value.slice la qs.length lc).ownBlock = some b) => (owns_block hlist.1 hb))
  have L1 := Lib.hid (hlist.mono (B' := w.heap.size + 1) (by simp))
  have T1 := Lib.hid (htree.mono (B' := w.heap.size + 1) (by simp))
  have D1 := Lib.hid (d0.step hg1)
  have hR1 := hr1.lt
  have hz1 : w.heap.size + 1 ≤ w1.heap.size := by have := hg1.size; simpa using this
  clear hlist hfine htree hsh hb4 hg1 d0
  have E1 : Dst w R w1.heap.size #[.slice oa ps.length oc] (w1.alloc (.cells #[.slice oa ps.length oc] 33)) := by
    obtain ⟨h1, h2, h3, h4, h5⟩ := Dst.start (w := w1) hR1 #[.slice oa ps.length oc] 33
    exact ⟨h1, h2, gb_trans D1.out.2.2.1 h3, h4, by omega⟩
  have L2 := Lib.hid (L1.out.rows.below (ba (Below.refl _ _) (.cells #[.slice oa ps.length oc] 33)))
  have T2 := Lib.hid (T1.out.below (ba (Below.refl _ _) (.cells #[.slice oa ps.length oc] 33)))
  have D2 := Lib.hid (D1.out.alloc (.cells #[.slice oa ps.length oc] 33))
  have E2 := Lib.hid E1
  have Hr2 := Lib.hid (hr1.alloc (.cells #[.slice oa ps.length oc] 33))
  clear L1 T1 D1 E1 hr1 hr
  obtain ⟨W, hW⟩ : ∃ W, W = w1.alloc (.cells #[.slice oa ps.length oc] 33) := ⟨_, rfl⟩
  have hWs : W.heap.size = w1.heap.size + 1 := by rw [hW]; simp
  rw [← hW] at L2 T2 D2 E2 Hr2
  have HW := Lib.hid hW
  clear hW
  obtain ⟨X, hX⟩ : ∃ X, X = w1.heap.size := ⟨_, rfl⟩
  have HX := Lib.hid hX
  rw [← hX] at E2 hWs hz1 hR1 Hlow
  have hXw : w.heap.size ≠ X := by omega
  have hXw' : X ≠ w.heap.size := by omega
  clear hX
  have Fin := Lib.hid (show ∀ (w' : World) (q' : Nat) (lv : Value) (rs : List (Cmp × Value)), RowsC8 w' (w.heap.size + 1) lv rs → (∀ p ∈ rs, FineC 1000004 p.1) → rs.length ≤ 11 → OwnFils w' (w.heap.size + 1) (.slice oa ps.length oc) ps → Dst w R w.heap.size #[.slice none 0 0] w' → Rd w' R q' → q' ≤ q + 1212 →
      DrawStore R q 1212 w (.returned (.tuple #[lv, .agg #[.slice oa ps.length oc]])) (w'.setCell ⟨w.heap.size, 0, none⟩ (.slice oa ps.length oc)).drew from fun w' q' lv rs h1 h2 h3 h4 h5 h6 h7 =>
    ⟨_, rs, _, ps, rfl, ((h1.set_low (p := ⟨w.heap.size, 0, none⟩) (by dsimp only; omega) (.slice oa ps.length oc)).drewJ).mono (by omega), h2, h3, ((h4.set_low (p := ⟨w.heap.size, 0, none⟩) (by dsimp only; omega) (.slice oa ps.length oc)).drewJ).mono (by omega), Hsh.out, hp10, Hb4.out, q', h7, (h6.set (p := ⟨w.heap.size, 0, none⟩) (by dsimp only; omega) (.slice oa ps.length oc)).drewJ, gb_trans (gb_set h5.2.2.1 (p := ⟨w.heap.size, 0, none⟩) (by dsimp only; omega) (.slice oa ps.length oc)) ⟨rfl, rfl, rfl, Nat.le_refl _, fun _ _ _ => rfl⟩⟩)
  have x0 : W.cell? ⟨w.heap.size, 0, none⟩ = some (.slice none 0 0) := D2.out.1.2 0
  have xf : W.frozen? ⟨w.heap.size, 0, none⟩ = false := D2.out.2.1 0
  have y0 : W.cell? ⟨X, 0, none⟩ = some (.slice oa ps.length oc) := E2.out.1.2 0
  obtain ⟨n, hn⟩ : ∃ n, n = qs.length := ⟨_, rfl⟩
  rw [← hn] at L2 hl10 Hlow ⊢
  have Hn := Lib.hid hn
  clear hn
  by_cases h0 : n = 0
  · subst h0
    go_wp2_with fail
    rw [← HW.out]
    rw [← HX.out]
    go_wp2_with fail
    go_region
    go_wp2_with fail
    exact bodyPost_ret (v := .tuple #[.slice la 0 lc, .agg #[.slice oa ps.length oc]]) (by simp [results, Try.results80, go_sem, *]) rfl (Fin.out _ _ _ qs L2.out Hfine.out (by have := Hn.out; omega) T2.out D2.out Hr2.out (by omega))
  · have hql : 0 < qs.length := by have := Hn.out; omega
    obtain ⟨g, cap, e1, hg, hg2⟩ := L2.out.1.form hql
    simp only [Value.slice.injEq] at e1
    obtain ⟨rfl, hnn, rfl⟩ := e1
    clear hnn
    have hgl := Hlow.out g rfl
    have h0i : (0 : Int) < (n : Int) := by omega
    have hgX : g ≠ X := by omega
    have hXg : X ≠ g := by omega
    have hgw : g ≠ w.heap.size := by omega
    have hwg : w.heap.size ≠ g := by omega
    have hr2 := Hr2.out
    go_wp2_with fail
    rw [← HW.out]
    rw [← HX.out]
    refine (reader_pick R q1 _ _ hr2 (by omega) (by omega)).mono ?_
    rintro e w3 ⟨j, rfl, hj0, hj, hr3, hg3⟩
    have L3 := Lib.hid (L2.out.gb hg3 (by omega))
    have T3 := Lib.hid (T2.out.gb hg3 (by omega))
    have D3 := Lib.hid (D2.out.step hg3)
    have E3 := Lib.hid (E2.out.step hg3)
    have hz3 := hg3.size
    clear hg3 L2 T2 D2 E2 hr2 Hr2 x0 xf y0
    have u0 : w3.cell? ⟨w.heap.size, 0, none⟩ = some (.slice none 0 0) := D3.out.1.2 0
    have uf : w3.frozen? ⟨w.heap.size, 0, none⟩ = false := D3.out.2.1 0
    have v0 : w3.cell? ⟨X, 0, none⟩ = some (.slice oa ps.length oc) := E3.out.1.2 0
    have hrow := L3.out.1
    rw [← Hn.out] at hrow
    obtain ⟨⟨c0, c1, c2, c3, c4, c5, c6, c7⟩, z0, z1, z2, z3, z4, z5, z6, z7⟩ := own8 hrow 0 hql
    have hfi := Hfine0.out _ (List.getElem_mem hql)
    obtain ⟨ab, cb, hbv⟩ := owns_shape (L3.out.2.1 _ (List.getElem_mem hql))
    obtain ⟨p, hp⟩ : ∃ p, p = qs[0] := ⟨_, rfl⟩
    rw [← hp] at c0 c1 c2 c3 c4 c5 c6 c7 hfi hbv
    have Hp := Lib.hid hp
    clear hp hrow
    obtain ⟨⟨x0, x1, x2, x3, x4, x5, x6, fb⟩, bv⟩ := p
    dsimp only at c0 c1 c2 c3 c4 c5 c6 c7 hfi hbv
    subst hbv
    simp only [Nat.zero_mul, Nat.zero_add] at c0 c1 c2 c3 c4 c5 c6 c7 z0 z1 z2 z3 z4 z5 z6 z7
    have Hfi := Lib.hid hfi
    have hx6 := hfi.2.2
    dsimp only at hx6
    clear hfi
    by_cases hj0' : j = 0
    · subst hj0'
      have hw6 : IntKind.i64.wrap (x6 + 1) = x6 + 1 := by rw [IntKind.wrap_i64]; omega
      have L4 := Lib.hid (RowsC8.put Hn.out.symm L3.out 0 6 hql (by omega) (.int .i64 (x6 + 1)) (⟨x0, x1, x2, x3, x4, x5, x6 + 1, fb⟩, .slice ab fb.length cb) (by rw [← Hp.out]; rfl) (by rw [← Hp.out]) (by rw [← Hp.out]))
      simp only [Nat.zero_mul, Nat.zero_add] at L4
      have T4 := Lib.hid (show OwnFils (w3.setCell ⟨g, 6, none⟩ (.int .i64 (x6 + 1))) (w.heap.size + 1) (.slice oa ps.length oc) ps from T3.out.set_box (fun b hb => by rcases hb with hb | ⟨p, hp, hb⟩; exact fun e => own_types (T := 53) (T' := 55) (by decide) L3.out.1 T3.out.1 (by rw [e]; rfl) hb; exact fun e => own_types (T := 53) (T' := 124) (by decide) L3.out.1 (T3.out.2.1 p hp) (by rw [e]; rfl) hb) _)
      go_wp2_with fail
      go_region
      go_wp2_with fail
      exact bodyPost_ret (v := .tuple #[.slice (some ⟨g, 0, none⟩) n lc, .agg #[.slice oa ps.length oc]]) (by simp [results, Try.results80, go_sem, *]) rfl (Fin.out _ _ _ _ L4.out (mem_set_all (P := fun (p : Cmp × Value) => FineC 1000004 p.1) Hfine.out ⟨Hfi.out.1, Hfi.out.2.1, by dsimp only; omega, by dsimp only; omega⟩) (by rw [List.length_set, ← Hn.out]; omega) T4.out (D3.out.other hgw (by omega) _ _) (hr3.set (by dsimp only; omega) _) (by omega))
    have hj0b : (j == 0) = false := by simpa using hj0'
    by_cases hj1 : j = 1
    · subst hj1
      go_wp2_with (at_builtin; refine wpList_append_own _ rfl _ _ 28 rfl (w.heap.size + 1) 53 i0 _ 8 88 Try.underlying28 Hi.out Hz0.out Hz1.out Hz2.out rfl (by decide) _ n _ rfl (by have h := L3.out.1; rw [← Hn.out] at h; exact h.alloc _) ⟨_, 0, none⟩ 1 1 (cmpCells (⟨x0, x1, x2, x3, x4, x5, x6, fb⟩, .slice ab fb.length cb)) rfl rfl ?_ (cmp_one _ ⟨_, _, _, rfl⟩) (by unfold maxLen; omega) (by omega) (by simp; omega) ?_; (exact ct_cells _ (cmpCells (⟨x0, x1, x2, x3, x4, x5, x6, fb⟩, .slice ab fb.length cb)).toArray _ _ (by first | rfl | simp)); intro v7 w7 hown7 hg7 hnil7; obtain ⟨a7, c7', hv7⟩ := owns_shape hown7; subst hv7; have hge7 : ∀ b, (Value.slice (some ⟨g, 0, none⟩) n lc).ownBlock = some b → b = g := (fun b hb => (Option.some.inj hb).symm); have L7 := Lib.hid (cmps_twice (v7 := .slice a7 (n + 1) c7') (q := (⟨x0, x1, x2, x3, x4, x5, x6, fb⟩, .slice ab fb.length cb)) (L3.out.below (ba (Below.refl _ _) _)) (by rw [Hp.out]; exact List.getElem_mem hql) hg7 (by rw [← Hn.out]; exact hown7)); have T7 := Lib.hid ((T3.out.below (ba (Below.refl _ _) _)).besideC (L3.out.1.alloc _) hg7); have D7 := Lib.hid (Dst.keepD (D3.out.alloc _) hg7 (by have := D3.out.1.1; simp; omega) (fun b hb => by have := hge7 b hb; omega) (fun b hb => by have := hge7 b hb; omega)); have E7 := Lib.hid (Dst.keepD (E3.out.alloc _) hg7 (by have := E3.out.1.1; simp; omega) (fun b hb => by have := hge7 b hb; omega) (fun b hb => by have := hge7 b hb; omega)); have Hr7 := Lib.hid ((hr3.alloc (.cells (cmpCells ((⟨x0, x1, x2, x3, x4, x5, x6, fb⟩ : Cmp), Value.slice ab fb.length cb)).toArray 53)).keep (fun j hj => hg7.block j (by simp; omega) (fun e => by have := hge7 j e.symm; omega))); have t0 : w7.cell? ⟨w.heap.size, 0, none⟩ = some (.slice none 0 0) := D7.out.1.2 0; have tf : w7.frozen? ⟨w.heap.size, 0, none⟩ = false := D7.out.2.1 0; have t1 : w7.cell? ⟨X, 0, none⟩ = some (.slice oa ps.length oc) := E7.out.1.2 0; clear hown7 hg7 hnil7)
      go_region
      go_wp2_with fail
      exact bodyPost_ret (v := .tuple #[.slice a7 (n + 1) c7', .agg #[.slice oa ps.length oc]]) (by simp [results, Try.results80, go_sem, *]) rfl (Fin.out _ _ _ _ L7.out (mem_snoc_all (P := fun (p : Cmp × Value) => FineC 1000004 p.1) (x := (⟨x0, x1, x2, x3, x4, x5, x6, fb⟩, .slice ab fb.length cb)) Hfine.out (fine_mono Hfi.out)) (by rw [List.length_append, ← Hn.out]; simp; omega) T7.out D7.out Hr7.out (by omega))
    have hj1b : (j == 1) = false := by simpa using hj1
    by_cases hj2 : j = 2
    · subst hj2
      go_wp2_with fail
      refine (reader_one R (q1 + 1) w3.heap.size 3 [-1, 3] _ (hr3.alloc _) (heap_new w3 _ _) (by have := hr3.lt; omega) (by decide) (by decide) (by omega)).mono ?_
      rintro e w5 ⟨m, hm, rfl, hr5, hg5⟩
      have L5 := Lib.hid ((L3.out.below (ba (Below.refl _ _) (.cells ([-1, 3].map ivN).toArray 3))).gb hg5 (by omega))
      have T5 := Lib.hid ((T3.out.below (ba (Below.refl _ _) (.cells ([-1, 3].map ivN).toArray 3))).gb hg5 (by omega))
      have D5 := Lib.hid ((D3.out.alloc (.cells ([-1, 3].map ivN).toArray 3)).step hg5)
      have E5 := Lib.hid ((E3.out.alloc (.cells ([-1, 3].map ivN).toArray 3)).step hg5)
      have t0 : w5.cell? ⟨w.heap.size, 0, none⟩ = some (.slice none 0 0) := D5.out.1.2 0
      have tf : w5.frozen? ⟨w.heap.size, 0, none⟩ = false := D5.out.2.1 0
      have t1 : w5.cell? ⟨X, 0, none⟩ = some (.slice oa ps.length oc) := E5.out.1.2 0
      clear c0 c1 c2 c3 c4 c5 c6 c7 z0 z1 z2 z3 z4 z5 z6 z7 u0 uf v0 hg5 hm
      have hrow := L5.out.1
      rw [← Hn.out] at hrow
      obtain ⟨⟨c0, c1, c2, c3, c4, c5, c6, c7⟩, z0, z1, z2, z3, z4, z5, z6, z7⟩ := own8 hrow 0 hql
      rw [← Hp.out] at c0 c1 c2 c3 c4 c5 c6 c7
      dsimp only at c0 c1 c2 c3 c4 c5 c6 c7
      simp only [Nat.zero_mul, Nat.zero_add] at c0 c1 c2 c3 c4 c5 c6 c7 z0 z1 z2 z3 z4 z5 z6 z7
      have L6 := Lib.hid (RowsC8.put Hn.out.symm L5.out 0 3 hql (by omega) (.int .i64 m) (⟨x0, x1, x2, m, x4, x5, x6, fb⟩, .slice ab fb.length cb) (by rw [← Hp.out]; rfl) (by rw [← Hp.out]) (by rw [← Hp.out]))
      simp only [Nat.zero_mul, Nat.zero_add] at L6
      have T6 := Lib.hid (show OwnFils (w5.setCell ⟨g, 3, none⟩ (.int .i64 m)) (w.heap.size + 1) (.slice oa ps.length oc) ps from T5.out.set_box (fun b hb => by rcases hb with hb | ⟨p, hp, hb⟩; exact fun e => own_types (T := 53) (T' := 55) (by decide) L5.out.1 T5.out.1 (by rw [e]; rfl) hb; exact fun e => own_types (T := 53) (T' := 124) (by decide) L5.out.1 (T5.out.2.1 p hp) (by rw [e]; rfl) hb) _)
      clear hrow
      go_wp2_with fail
      go_region
      go_wp2_with fail
      exact bodyPost_ret (v := .tuple #[.slice (some ⟨g, 0, none⟩) n lc, .agg #[.slice oa ps.length oc]]) (by simp [results, Try.results80, go_sem, *]) rfl (Fin.out _ _ _ _ L6.out (mem_set_all (P := fun (p : Cmp × Value) => FineC 1000004 p.1) Hfine.out ⟨Hfi.out.1, Hfi.out.2.1, by dsimp only; omega, by dsimp only; omega⟩) (by rw [List.length_set, ← Hn.out]; omega) T6.out (D5.out.other hgw (by omega) _ _) (hr5.set (by dsimp only; omega) _) (by omega))
    have hj2b : (j == 2) = false := by simpa using hj2
    go_wp2_with fail
    go_region
    go_wp2_with fail
    exact bodyPost_ret (v := .tuple #[.slice (some ⟨g, 0, none⟩) n lc, .agg #[.slice oa ps.length oc]]) (by simp [results, Try.results80, go_sem, *]) rfl (Fin.out _ _ _ qs L3.out Hfine.out (by rw [← Hn.out]; omega) T3.out D3.out hr3 (by omega))
end Go.Proofs.Ytomdmkhgkaalnaa
