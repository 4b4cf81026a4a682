/- The function that draws a store with its tree: whatever the code, what is compiled in it is fine, in memory of its own. -/
import Derived.Test.YtomdmkhgkaalnaaDrawW
import Derived.Test.YtomdmkhgkaalnaaCompile
import Derived.Test.YtomdmkhgkaalnaaCTree
import Derived.Deep.RegionLaw
set_option linter.unusedVariables false
set_option linter.unusedSimpArgs false
namespace Go.Proofs.Ytomdmkhgkaalnaa
open Go.RowKit Go.Proofs.Ytomdmkhgkaalnaa.Nm

theorem fm_set1 {α : Type} {c : α → List Value} {m : Nat} (L : List α) (i j : Nat) (p : α) (u : Value) (hi : i < L.length) (hj : j < m) (hc : ∀ x, (c x).length = m) (h : (c L[i]).set j u = c p) : (L.flatMap c).set (i * m + j) u = (L.set i p).flatMap c := by
  have hA := fm_take_len c m L i hi hc
  rw [fm_split c L i hi, fm_put c L i p hi, ← h, set_mid _ _ _ (i * m) j _ hA (by rw [hc]; exact hj)]
/-- One cell of a file of one's own is written, which keeps its body or gets another one of its own. -/
theorem OwnFils.put {w : World} {B g cap : Nat} {ps : List (Fil × Value)} (h : OwnFils w B (.slice (some ⟨g, 0, none⟩) ps.length cap) ps) (i j : Nat) (hi : i < ps.length) (hj : j < 6) (u : Value) (q : Fil × Value) (hc : (filCells ps[i]).set j u = filCells q)
    (hb : w.ownsRow B 124 5 q.2 q.1.body.length (q.1.body.flatMap stmCells)) (ha : ∀ k (hk : k < ps.length), k ≠ i → ∀ b, ps[k].2.ownBlock = some b → q.2.ownBlock ≠ some b) :
    OwnFils (w.setCell ⟨g, i * 6 + j, none⟩ u) B (.slice (some ⟨g, 0, none⟩) ps.length cap) (ps.set i q) := by
  have hne : ∀ {m : Nat} {xs : List Value} {v : Value}, w.ownsRow B 124 5 v m xs → ∀ b, v.ownBlock = some b → b ≠ g := fun {m xs v} hv b hb e => by
    subst e; exact own_types (T := 55) (T' := 124) (by decide) h.1 hv rfl hb
  refine ⟨?_, fun p hp => ?_, ?_⟩
  · have h1 := (h.1.stored (i * 6 + j) u).1
    rw [fm_set1 ps i j q u hi hj filCells_len hc] at h1
    rw [List.length_set]; exact h1
  · rcases List.mem_or_eq_of_mem_set hp with hp | rfl
    · exact owns_set_otherD (h.2.1 p hp) (hne (h.2.1 p hp)) u
    · exact owns_set_otherD hb (hne hb) u
  · rw [List.pairwise_iff_getElem]
    intro a b ha' hb' hab x hx hx'
    rw [List.length_set] at ha' hb'
    have hp := List.pairwise_iff_getElem.1 h.2.2 a b ha' hb' hab x
    rw [List.getElem_set] at hx hx'
    split at hx <;> split at hx'
    · omega
    · rename_i e1 e2; exact ha b hb' (by omega) x hx' hx
    · rename_i e1 e2; exact ha a ha' (by omega) x hx hx'
    · exact hp hx hx'
/-- A file of one's own gets another body of one's own. -/
theorem put_body {w : World} {B g n cap : Nat} {ps : List (Fil × Value)} (hn : ps.length = n) (h : OwnFils w B (.slice (some ⟨g, 0, none⟩) n cap) ps) (i : Nat) (hi : i < ps.length) {fr fst : Int} {fp fn : Bs} {fi : Bool} {fb ss : List Stm} {bv v : Value} (hp : ((⟨fr, fp, fn, fi, fst, fb⟩ : Fil), bv) = ps[i])
    (hb : w.ownsRow B 124 5 v ss.length (ss.flatMap stmCells)) (ha : ∀ p ∈ ps, ∀ b, p.2.ownBlock = some b → v.ownBlock ≠ some b) :
    OwnFils (w.setCell ⟨g, i * 6 + 5, none⟩ v) B (.slice (some ⟨g, 0, none⟩) n cap) (ps.set i (⟨fr, fp, fn, fi, fst, ss⟩, v)) := by
  subst hn
  exact h.put i 5 hi (by omega) v (⟨fr, fp, fn, fi, fst, ss⟩, v) (by rw [← hp]; rfl) hb (fun k hk _ => ha _ (List.getElem_mem hk))
/-- A file of one's own gets another stamp. -/
theorem put_stamp {w : World} {B g n cap : Nat} {ps : List (Fil × Value)} (hn : ps.length = n) (h : OwnFils w B (.slice (some ⟨g, 0, none⟩) n cap) ps) (i : Nat) (hi : i < ps.length) {fr fst : Int} {fp fn : Bs} {fi : Bool} {fb : List Stm} {bv : Value} (hp : ((⟨fr, fp, fn, fi, fst, fb⟩ : Fil), bv) = ps[i]) (st : Int) :
    OwnFils (w.setCell ⟨g, i * 6 + 4, none⟩ (.int .i64 st)) B (.slice (some ⟨g, 0, none⟩) n cap) (ps.set i (⟨fr, fp, fn, fi, st, fb⟩, bv)) := by
  subst hn
  refine h.put i 4 hi (by omega) _ (⟨fr, fp, fn, fi, st, fb⟩, bv) (by rw [← hp]; rfl) (by have e := h.2.1 _ (List.getElem_mem hi); rw [← hp] at e; exact e) (fun k hk hne b hb hb2 => ?_)
  have hpw := List.pairwise_iff_getElem.1 h.2.2
  have hb2' : ps[i].2.ownBlock = some b := by rw [← hp]; exact hb2
  rcases Nat.lt_or_gt_of_ne hne with hlt | hlt
  · exact hpw k i hk hi hlt b hb hb2'
  · exact hpw i k hi hk hlt b hb2' hb
theorem OwnCmpBodies.gb {w w' : World} {B R : Nat} {ps : List (Cmp × Value)} (h : OwnCmpBodies w B ps) (hg : w.grownBy w' (some R)) (hR : R < B) : OwnCmpBodies w' B ps :=
  h.heap (fun b hB hlt _ => hg.block b hlt (fun e => by have := Option.some.inj e; omega))
theorem OwnCmps.gb {w w' : World} {B R : Nat} {v : Value} {ps : List (Cmp × Value)} (h : OwnCmps w B v ps) (hg : w.grownBy w' (some R)) (hR : R < B) : OwnCmps w' B v ps :=
  ⟨owns_heap h.1 (fun b hb => hg.block b (owns_block h.1 hb).2 (fun e => by have h1 := (owns_block h.1 hb).1; have := Option.some.inj e; omega)), h.2.gb hg hR⟩
theorem OwnCmps.drewJ {w : World} {B : Nat} {v : Value} {ps : List (Cmp × Value)} (h : OwnCmps w B v ps) : OwnCmps w.drew B v ps := h.below ⟨rfl, rfl, rfl, Nat.le_refl _, fun _ _ => rfl⟩
theorem OwnFils.drewJ {w : World} {B : Nat} {v : Value} {ps : List (Fil × Value)} (h : OwnFils w B v ps) : OwnFils w.drew B v ps := h.below ⟨rfl, rfl, rfl, Nat.le_refl _, fun _ _ => rfl⟩
theorem Rd.drewJ {w : World} {R q : Nat} (h : Rd w R q) : Rd w.drew R q := h.keep (fun _ _ => rfl)
theorem Dst.drewJ {w w1 : World} {R X : Nat} {cs : Array Value} (h : Dst w R X cs w1) : Dst w R X cs w1.drew := h.step ⟨rfl, rfl, rfl, Nat.le_refl _, fun _ _ _ => rfl⟩
/-- Files stay while a store grows. -/
theorem OwnFils.besideC {w w7 : World} {B B' m : Nat} {v lv : Value} {xs : List Value} {ps : List (Fil × Value)} (h : OwnFils w B v ps) (hl : w.ownsRow B' 53 8 lv m xs) (hg : w.grownBy w7 lv.ownBlock) : OwnFils w7 B v ps :=
  ⟨owns_heap h.1 (fun b hb => hg.block b (owns_block h.1 hb).2 (fun e => own_types (T := 53) (T' := 55) (by decide) hl h.1 e.symm hb)),
   h.2.heap (fun b _ hlt ⟨p, hp, hpb⟩ => hg.block b hlt (fun e => own_types (T := 53) (T' := 124) (by decide) hl (h.2.1 p hp) e.symm hpb))⟩
/-- What is compiled of a drawn file. -/
def FineC (M : Int) (c : Cmp) : Prop := ShortC 20 c ∧ c.body.length ≤ 4 ∧ 0 ≤ c.hash ∧ c.hash ≤ M
theorem modName_short {f : Fil} (h : ShortF 8 f) : (modName f).length ≤ 20 := by
  have := modName_len f
  have h1 := h.1
  have h2 := h.2.1
  omega
theorem fine_compiled {f : Fil} {m : Int} (h : ShortF 8 f) (hl : f.body.length ≤ 4) (hok : okBody f.body = true) : FineC 1000003 (compiled f m) :=
  ⟨⟨modName_short h, fun s hs => ⟨by have := (h.2.2 s hs).1; omega, by have := (h.2.2 s hs).2; omega⟩⟩, hl, (hashOf_bd hok).1, by have := (hashOf_bd hok).2; show hashOf f.body ≤ 1000003; omega⟩
/-- One more of what is compiled, with a body of its own, in a call that draws. -/
theorem cmps_snocD {wr W w7 : World} {B R : Nat} {ov v7 : Value} {qs : List (Cmp × Value)} {q : Cmp × Value} (h : OwnCmps wr B ov qs) (hg4 : wr.grownBy W (some R)) (hR : R < B) (hB : B ≤ wr.heap.size)
    (hq : W.ownsRow wr.heap.size 124 5 q.2 q.1.body.length (q.1.body.flatMap stmCells)) (hg : W.grownBy w7 ov.ownBlock)
    (h7 : w7.ownsRow B 53 8 v7 (qs.length + 1) (qs.flatMap cmpCells ++ cmpCells q)) : OwnCmps w7 B v7 (qs ++ [q]) := by
  refine ⟨by simpa using h7, ?_⟩
  have hW := h.gb hg4 hR
  have h1 : OwnCmpBodies W B (qs ++ [q]) := by
    refine ⟨fun p hp => ?_, ?_⟩
    · rcases List.mem_append.1 hp with hp | hp
      · exact hW.2.1 p hp
      · simp at hp; subst hp; exact owns_mono hq hB
    · rw [List.pairwise_append]
      refine ⟨h.2.2, by simp, fun p hp x hx b hpb => ?_⟩
      simp at hx; subst hx
      intro hxb
      have e1 := owns_block (h.2.1 p hp) hpb
      have e2 := owns_block hq hxb
      omega
  exact h1.heap (fun b _ hlt ⟨p, hp, hpb⟩ => hg.block b hlt (fun e => own_types (T := 53) (T' := 124) (by decide) hW.1 (h1.1 p hp) e.symm hpb))
/-- What someStore comes to: a store and a tree. -/
def DrawStore0 (R q c : Nat) (w : World) (e : Ending) (w' : World) : Prop :=
  ∃ lv qs tv ps, e = .returned (.tuple #[lv, .agg #[tv]]) ∧ OwnCmps w' w.heap.size lv qs ∧ (∀ p ∈ qs, FineC 1000003 p.1) ∧ qs.length ≤ 10 ∧ OwnFils w' w.heap.size tv ps ∧ ShortT 8 (ps.map (·.1)) ∧ ps.length ≤ 10 ∧ (∀ p ∈ ps, p.1.body.length ≤ 4) ∧ ∃ q', q' ≤ q + c ∧ Rd w' R q' ∧ w.grownBy w' (some R)
theorem mem_set_all {α : Type} {P : α → Prop} {l : List α} {i : Nat} {x : α} (h : ∀ p ∈ l, P p) (hx : P x) : ∀ p ∈ l.set i x, P p := fun p hp => by
  rcases List.mem_or_eq_of_mem_set hp with hp | rfl
  · exact h p hp
  · exact hx
theorem mem_snoc_all {α : Type} {P : α → Prop} {l : List α} {x : α} (h : ∀ p ∈ l, P p) (hx : P x) : ∀ p ∈ l ++ [x], P p := fun p hp => by
  rcases List.mem_append.1 hp with hp | hp
  · exact h p hp
  · simp at hp; subst hp; exact hx
theorem shortT_pairs {B : Nat} {ps : List (Fil × Value)} : ShortT B (ps.map (·.1)) ↔ ∀ p ∈ ps, ShortF B p.1 :=
  ⟨fun h p hp => h _ (List.mem_map.2 ⟨p, hp, rfl⟩), fun h f hf => by obtain ⟨p, hp, rfl⟩ := List.mem_map.1 hf; exact h p hp⟩
theorem step_append_ownJ {P : Program} {ops : Array Oper} {o : Oper} {a : Act} {w : World} {K : Act → World → Prop} {Q : Exit → Act → World → Prop} {E : Prop} (hgd : o.guard = none) (s x : Operand) (t : TypeId)
    (ho : o.op = .call { callee := .builtin .append, args := #[s, x], argTypes := #[t, t] })
    (base : Nat) (e : TypeId) (i : TypeInfo) (z : Value) (size bytes : Nat) (ht : P.underlying t = some (.slice e)) (hi : P.info? e = some i) (hz : i.zero = some z)
    (hsize : i.size = size) (hby : i.bytes = bytes) (hzs : z.cells.size = size) (hsz : 0 < size)
    (v : Value) (n : Nat) (xs : List Value) (hs : a.eval s = v) (hown : w.ownsRow base e size v n xs)
    (ad : Addr) (m c : Nat) (news : List Value) (hx : a.eval x = .slice (some ad) m c) (hl : news.length = m * size) (hnews : ∀ j u, news[j]? = some u → w.cell? (ad.add j) = some u) (h1 : ∀ u ∈ news, u.oneCell' = true)
    (h63 : n + m ≤ maxLen) (hbytes : (n + m) * bytes ≤ 140737488355328) (hbase : base ≤ w.heap.size)
    (h : ∀ v' w', w'.ownsRow base e size v' (n + m) (xs ++ news) → w.grownBy w' v.ownBlock → K (a.put o.dst v') w') :
    if Region.wanted o (yielded ops a.tmps) = true then Oper.wp P o a w K Q else E := by
  have hw : Region.wanted o (yielded ops a.tmps) = true := by simp [Region.wanted, hgd]
  rw [if_pos hw]
  exact wp_append_own w s x t ho base e i z size bytes ht hi hz hsize hby hzs hsz v n xs hs hown ad m c news hx hl hnews h1 h63 hbytes hbase (fun v' w' a b _ => h v' w' a b)

set_option maxRecDepth 100000 in
set_option maxHeartbeats 4000000 in
theorem spec_someStore (R q : Nat) (w : World) (hr : Rd w R q) (hq : q ≤ 200000) :
    Calls Try.prog 127 #[.pointer (some ⟨R, 0, none⟩)] w (DrawStore0 R q 1210 w) := by
  obtain ⟨i0, hi, hz0, hz1, hz2⟩ := info_parts infoCmp
  have Hi := Lib.hid hi
  have Hz0 := Lib.hid hz0
  have Hz1 := Lib.hid hz1
  have Hz2 := Lib.hid hz2
  clear hi hz0 hz1 hz2
  have hR := hr.lt
  go_enter Try.func127, Try.ntmps127
  go_wp2_with fail
  have d0 := Dst.start hR #[.slice none 0 0] 33
  refine (spec_someTreeK R q _ (hr.alloc _) (by omega)).mono ?_
  rintro e w1 ⟨v, ps, rfl, hokt, hown1, hsh, hl10, hb4, q1, hq1, hr1, hg1⟩
  obtain ⟨oa, oc, rfl⟩ := len1D hown1
  have Hokt := Lib.hid hokt
  have Hsh := Lib.hid hsh
  have Hb4 := Lib.hid hb4
  have Hown1 := Lib.hid (hown1.mono (B' := w.heap.size + 1) (by simp))
  have D1 := Lib.hid (d0.step hg1)
  have hR1 := hr1.lt
  have hz1 : w.heap.size + 1 ≤ w1.heap.size := by have := hg1.size; simpa using this
  clear hown1 hsh hb4 hg1 d0 hokt
  have E1 : Dst w R w1.heap.size #[.slice oa ps.length oc] (w1.alloc (.cells #[.slice oa ps.length oc] 33)) := by
    obtain ⟨h1, h2, h3, h4, h5⟩ := Dst.start (w := w1) hR1 #[.slice oa ps.length oc] 33
    exact ⟨h1, h2, gb_trans D1.out.2.2.1 h3, h4, by omega⟩
  have Hown2 := Lib.hid (Hown1.out.below (ba (Below.refl _ _) (.cells #[.slice oa ps.length oc] 33)))
  have D2 := Lib.hid (D1.out.alloc (.cells #[.slice oa ps.length oc] 33))
  have E2 := Lib.hid E1
  have Hr2 := Lib.hid (hr1.alloc (.cells #[.slice oa ps.length oc] 33))
  have Hlow := Lib.hid (fun b (hb : (Value.slice oa ps.length oc).ownBlock = some b) => (owns_block Hown1.out.1 hb).2)
  clear Hown1 D1 E1 hr1 hr
  obtain ⟨W, hW⟩ : ∃ W, W = w1.alloc (.cells #[.slice oa ps.length oc] 33) := ⟨_, rfl⟩
  have hWs : W.heap.size = w1.heap.size + 1 := by rw [hW]; simp
  rw [← hW] at Hown2 D2 E2 Hr2
  have HW := Lib.hid hW
  clear hW
  obtain ⟨X, hX⟩ : ∃ X, X = w1.heap.size := ⟨_, rfl⟩
  have HX := Lib.hid hX
  rw [← hX] at E2 hWs hz1 hR1 Hlow
  have hXw : w.heap.size ≠ X := by omega
  have hXw' : X ≠ w.heap.size := by omega
  clear hX
  have Hlist := Lib.hid (show OwnCmps (W.alloc (.cells #[] 53)) (X + 1) (.slice (some ⟨X + 1, 0, none⟩) 0 0) [] from ⟨by have h := World.ownsRow_made (e := 53) (size := 8) (base := W.heap.size) W #[] 0 (by omega) (by unfold maxLen; omega) rfl; rw [hWs] at h; exact h, OwnCmpBodies.nil _ _⟩)
  have D3 := Lib.hid (D2.out.alloc (.cells #[] 53))
  have E3 := Lib.hid (E2.out.alloc (.cells #[] 53))
  have Hr3 := Lib.hid (Hr2.out.alloc (.cells #[] 53))
  have Hown3 := Lib.hid (Hown2.out.below (ba (Below.refl _ _) (.cells #[] 53)))
  clear D2 E2 Hr2 Hown2
  have Hin := Lib.hid (fun f hf => okTree_in Hokt.out (f := f) hf)
  have Hsf := Lib.hid (shortT_pairs.1 Hsh.out)
  obtain ⟨n, hn⟩ : ∃ n, n = ps.length := ⟨_, rfl⟩
  rw [← hn] at E3 Hown3 hl10 HW Hlow ⊢
  have Hn := Lib.hid hn
  clear hn
  go_wp2_with fail
  rw [← HW.out]
  rw [← HX.out]
  go_loopw [5, 6] (fun ov iv wr => ∃ (k : Nat) (qs : List (Cmp × Value)) (q2 : Nat), iv = .int .i64 k ∧ k ≤ n ∧ qs.length ≤ k ∧ q2 ≤ q + 610 + 2 * k ∧ (∀ p ∈ qs, FineC 1000003 p.1) ∧ OwnCmps wr (X + 1) ov qs ∧ OwnFils wr (w.heap.size + 1) (.slice oa n oc) ps ∧ Dst w R w.heap.size #[.slice none 0 0] wr ∧ Dst w R X #[.slice oa n oc] wr ∧ Rd wr R q2) (fun _ iv _ => n - (intOf iv).toNat)
  case atStart => exact ⟨0, [], q1, rfl, by omega, by simp, by omega, (fun p hp => by cases hp), Hlist.out, Hown3.out, D3.out, E3.out, Hr3.out⟩
  case round =>
    obtain ⟨k, qs, q2, rfl, hk, hqk, hq2, hfine, hlist, htree, hd, he, hrd⟩ := hrel
    obtain ⟨la, lc, rfl⟩ := hlist.len
    have Hfine := Lib.hid hfine
    have Hlist2 := Lib.hid hlist
    have Htree := Lib.hid htree
    have Hd := Lib.hid hd
    have He := Lib.hid he
    have hRr := hrd.lt
    have x0 : wr.cell? ⟨X, 0, none⟩ = some (.slice oa n oc) := he.1.2 0
    have hXr := he.1.1
    clear hfine hlist htree hd he Hlist Hown3 D3 E3 Hr3
    by_cases hlt : k < n
    · go_wp2_with fail
      refine (reader_pick R q2 _ _ hrd (by omega) (by omega)).mono ?_
      rintro e w4 ⟨j, rfl, hj0, hj, hr4, hg4⟩
      have List4 := Lib.hid (Hlist2.out.gb hg4 (by omega))
      have Tree4 := Lib.hid (Htree.out.gb hg4 (by omega))
      have D4 := Lib.hid (Hd.out.step hg4)
      have E4 := Lib.hid (He.out.step hg4)
      have hz4 := hg4.size
      have y0 : w4.cell? ⟨X, 0, none⟩ = some (.slice oa n oc) := E4.out.1.2 0
      have hltp : k < ps.length := by rw [← Hn.out]; exact hlt
      clear hg4 hj x0 Hlist2 Htree Hd He hrd
      by_cases hj1 : 0 < j
      · obtain ⟨g, cap, e1, hg, hg2⟩ := Tree4.out.1.form (by omega)
        simp only [Value.slice.injEq] at e1
        obtain ⟨rfl, hnn, rfl⟩ := e1
        clear hnn
        have hrow4 := Tree4.out.1
        rw [← Hn.out] at hrow4
        obtain ⟨⟨c0, c1, c2, c3, c4, c5⟩, _⟩ := own6 hrow4 k hltp
        have Hk8 := Lib.hid (Hsf.out _ (List.getElem_mem hltp))
        have hl4 := Hb4.out _ (List.getElem_mem hltp)
        have Hokf := Lib.hid (Hin.out _ (List.mem_map.2 ⟨_, List.getElem_mem hltp, rfl⟩))
        obtain ⟨p, hp⟩ : ∃ p, p = ps[k] := ⟨_, rfl⟩
        rw [← hp] at c0 c1 c2 c3 c4 c5 Hk8 hl4 Hokf
        have Hp := Lib.hid hp
        clear hp hrow4
        obtain ⟨⟨fr, fp, fn, fi, fst, fb⟩, bv⟩ := p
        dsimp only at c0 c1 c2 c3 c4 c5 Hk8 hl4 Hokf
        have hbod := Tree4.out.2.1 _ (List.getElem_mem hltp)
        rw [← Hp.out] at hbod
        obtain ⟨ab, cb, hbv⟩ := owns_shape hbod
        dsimp only at hbv
        subst hbv
        have Hobody := Lib.hid (show okBody fb = true from okFil_body Hokf.out)
        have hk1 : (k : Int) < (n : Int) := by omega
        have hk0 : (0 : Int) ≤ (k : Int) := by omega
        clear hbod
        go_wp2_with fail
        go_region_law (first
          | (go_simp; go_at_call 86; refine (reader_pick R (q2 + 1) 3 _ hr4.drewJ (by omega) (by omega)).mono ?_; rintro e w5 ⟨m, rfl, hm0, hm, hr5, hg5⟩; have List5 := Lib.hid (List4.out.drewJ.gb hg5 (by omega)); have Tree5 := Lib.hid (Tree4.out.drewJ.gb hg5 (by omega)); have D5 := Lib.hid (D4.out.drewJ.step hg5); have E5 := Lib.hid (E4.out.drewJ.step hg5); have Hr5 := Lib.hid hr5; have z0 : w5.cell? ⟨X, 0, none⟩ = some (.slice (some ⟨g, 0, none⟩) n oc) := E5.out.1.2 0; have hz5 : w4.heap.size ≤ w5.heap.size := (by have := hg5.size; simpa using this); have hrow5 := Tree5.out.1; rw [← Hn.out] at hrow5; obtain ⟨⟨k0, k1, k2, k3, k4, k5⟩, _⟩ := own6 hrow5 k hltp; rw [← Hp.out] at k0 k1 k2 k3 k4 k5; dsimp only at k0 k1 k2 k3 k4 k5; have Hbod5 := Tree5.out.2.1 _ (List.getElem_mem hltp); rw [← Hp.out] at Hbod5; have HB5 := Lib.hid Hbod5; clear hrow5 Hbod5 hg5 hr5 hm)
          | (go_simp; go_at_call 85; refine (spec_compiled fr fst fp fn fi _ fb m 0 _ (owns_mono HB5.out (Nat.zero_le _)) (shortF_mono (by omega) Hk8.out) (by omega) Hobody.out).mono ?_; rintro e w6 ⟨v6, rfl, hown6, hb6⟩; unfold compiled at hown6 ⊢; dsimp only at hown6 ⊢; obtain ⟨a6, c6, hv6⟩ := owns_shape hown6; subst hv6; have Hown6 := Lib.hid hown6; have Hb6 := Lib.hid hb6; have List6 := Lib.hid (List5.out.below hb6); have Tree6 := Lib.hid (Tree5.out.below hb6); have D6 := Lib.hid (D5.out.step (gb_below hb6 _)); have E6 := Lib.hid (E5.out.step (gb_below hb6 _)); have Hr6 := Lib.hid (Hr5.out.below hb6 Hr5.out.lt); have hz6 := hb6.size; clear hown6 hb6)
          | (refine step_append_ownJ rfl (.tmp 21) (.tmp 30) 28 rfl (X + 1) 53 i0 _ 8 88 Try.underlying28 Hi.out Hz0.out Hz1.out Hz2.out rfl (by decide) (.slice la qs.length lc) qs.length _ (by simp [Act.eval, Act.put]) (List6.out.1.alloc _) ⟨w6.heap.size, 0, none⟩ 1 1 (cmpCells ((⟨fr, modName ⟨fr, fp, fn, fi, fst, fb⟩, fi, m, fst, (sizeSum fb : Nat), hashOf fb, fb⟩ : Cmp), Value.slice a6 fb.length c6)) (by simp [Act.eval, Act.put]) rfl (ct_cells _ (cmpCells ((⟨fr, modName ⟨fr, fp, fn, fi, fst, fb⟩, fi, m, fst, (sizeSum fb : Nat), hashOf fb, fb⟩ : Cmp), Value.slice a6 fb.length c6)).toArray _ _ (by first | rfl | simp)) (cmp_one _ ⟨_, _, _, rfl⟩) (by unfold maxLen; omega) (by omega) (by simp; omega) ?_; intro v7 w7 hown7 hg7; obtain ⟨a7, c7, hv7⟩ := owns_shape hown7; subst hv7; have hge7 : ∀ b, (Value.slice la qs.length lc).ownBlock = some b → X + 1 ≤ b := (fun b hb => (owns_block List6.out.1 hb).1); have Hx7 := Lib.hid (cmps_snocD (q := ((⟨fr, modName ⟨fr, fp, fn, fi, fst, fb⟩, fi, m, fst, (sizeSum fb : Nat), hashOf fb, fb⟩ : Cmp), Value.slice a6 fb.length c6)) List5.out (gb_below (ba Hb6.out _) (some R)) (by omega) (by omega) (Hown6.out.alloc _) hg7 hown7); have Tree7 := Lib.hid ((Tree6.out.below (ba (Below.refl _ _) _)).besideC (List6.out.1.alloc _) hg7); have D7 := Lib.hid (Dst.keepD (D6.out.alloc _) hg7 (by have := D6.out.1.1; simp; omega) (fun b hb => by have := hge7 b hb; omega) (fun b hb => by have := hge7 b hb; omega)); have E7 := Lib.hid (Dst.keepD (E6.out.alloc _) hg7 (by have := E6.out.1.1; simp; omega) (fun b hb => by have := hge7 b hb; omega) (fun b hb => by have := hge7 b hb; omega)); have Hr7 := Lib.hid ((Hr6.out.alloc (.cells (cmpCells ((⟨fr, modName ⟨fr, fp, fn, fi, fst, fb⟩, fi, m, fst, (sizeSum fb : Nat), hashOf fb, fb⟩ : Cmp), Value.slice a6 fb.length c6)).toArray 53)).keep (fun j hj => hg7.block j (by simp; omega) (fun e => by have := hge7 j e.symm; omega))); clear hown7 hg7))
        all_goals
          go_wp2_with fail
          go_roundw
          case rel =>
            refine ⟨k + 1, qs ++ [((⟨fr, modName ⟨fr, fp, fn, fi, fst, fb⟩, fi, m, fst, (sizeSum fb : Nat), hashOf fb, fb⟩ : Cmp), Value.slice a6 fb.length c6)], q2 + 1 + 1, by go_num, by omega, by simp; omega, by omega, mem_snoc_all Hfine.out (fine_compiled (f := ⟨fr, fp, fn, fi, fst, fb⟩) Hk8.out hl4 Hobody.out), Hx7.out, Tree7.out, D7.out, E7.out, Hr7.out⟩
          case measure => simp [intOf]; omega
      · go_wp2_with fail
        go_roundw
        case rel => exact ⟨k + 1, qs, q2 + 1, by go_num, by omega, by omega, by omega, Hfine.out, List4.out, Tree4.out, D4.out, E4.out, hr4⟩
        case measure => simp [intOf]; omega
    · have hkn : k = n := by omega
      have hq2b : q2 ≤ q + 610 + 20 := by omega
      have hqs10 : qs.length ≤ 10 := by omega
      have hlt2 : ¬ ((k : Int) < (n : Int)) := by omega
      clear hkn
      go_wp2_with fail
      clear x0 hlt2 hlt hk hXr hRr
      go_loopw [7] (fun iv wr => ∃ (k : Nat) (ps' : List (Fil × Value)) (q3 : Nat), iv = .int .i64 k ∧ k ≤ n ∧ ps'.length = n ∧ q3 ≤ q + 630 + 52 * k ∧ (∀ p ∈ ps', ShortF 8 p.1) ∧ (∀ p ∈ ps', p.1.body.length ≤ 4) ∧ OwnCmps wr (X + 1) (.slice la qs.length lc) qs ∧ OwnFils wr (w.heap.size + 1) (.slice oa n oc) ps' ∧ Dst w R w.heap.size #[.slice none 0 0] wr ∧ Dst w R X #[.slice oa n oc] wr ∧ Rd wr R q3) (fun iv _ => n - (intOf iv).toNat)
      case atStart => exact ⟨0, ps, q2, rfl, by omega, Hn.out.symm, by omega, Hsf.out, Hb4.out, Hlist2.out, Htree.out, Hd.out, He.out, hrd⟩
      case round =>
        obtain ⟨k, ps', q3, rfl, hk, hpn, hq3, hsf, hbl, hlist, htree, hd, he, hrd⟩ := hrel
        have Hpn := Lib.hid hpn
        have Hsf' := Lib.hid hsf
        have Hbl := Lib.hid hbl
        have Hlist := Lib.hid hlist
        have Htree' := Lib.hid htree
        have Hd' := Lib.hid hd
        have He' := Lib.hid he
        have hRr := hrd.lt
        have x0 : wr.cell? ⟨X, 0, none⟩ = some (.slice oa n oc) := he.1.2 0
        have hXr := he.1.1
        clear hpn hsf hbl hlist htree hd he Hlist2 Htree Hd He
        by_cases hlt : k < n
        · go_wp2_with fail
          refine (reader_pick R q3 _ _ hrd (by omega) (by omega)).mono ?_
          rintro e w4 ⟨j, rfl, hj0, hj, hr4, hg4⟩
          have List4 := Lib.hid (Hlist.out.gb hg4 (by omega))
          have Tree4 := Lib.hid (Htree'.out.gb hg4 (by omega))
          have D4 := Lib.hid (Hd'.out.step hg4)
          have E4 := Lib.hid (He'.out.step hg4)
          have hz4 := hg4.size
          have y0 : w4.cell? ⟨X, 0, none⟩ = some (.slice oa n oc) := E4.out.1.2 0
          have hltp : k < ps'.length := by rw [Hpn.out]; exact hlt
          obtain ⟨g, cap, e1, hg, hg2⟩ := Tree4.out.1.form (by omega)
          simp only [Value.slice.injEq] at e1
          obtain ⟨rfl, hnn, rfl⟩ := e1
          have hglt := (Tree4.out.1.lt g rfl).2
          have hglow : g < X := Hlow.out g rfl
          clear hnn
          clear hg4 hj x0 Hlist Htree' Hd' He' hrd
          have hrow4 := Tree4.out.1
          rw [Hpn.out] at hrow4
          obtain ⟨⟨c0, c1, c2, c3, c4, c5⟩, cf0, cf1, cf2, cf3, cf4, cf5⟩ := own6 hrow4 k hltp
          obtain ⟨p, hp⟩ : ∃ p, p = ps'[k] := ⟨_, rfl⟩
          rw [← hp] at c0 c1 c2 c3 c4 c5
          have Hp := Lib.hid hp
          clear hp hrow4
          obtain ⟨⟨fr, fp, fn, fi, fst, fb⟩, bv⟩ := p
          dsimp only at c0 c1 c2 c3 c4 c5
          have hk1 : (k : Int) < (n : Int) := by omega
          have hk0 : (0 : Int) ≤ (k : Int) := by omega
          have hgX : g ≠ X := by omega
          have hgw : g ≠ w.heap.size := by omega
          have hRg : R < g := by omega
          have hXg : X ≠ g := by omega
          have hwg : w.heap.size ≠ g := by omega
          by_cases hj0' : j = 0
          · subst hj0'
            go_wp2_with fail
            go_region_law (first
              | (go_simp; go_at_call 87; refine (spec_someBody R (q3 + 1) _ hr4.drewJ (by omega)).mono ?_; rintro e w5 ⟨bv5, ss5, rfl, hown5, hsh5, hl5, q5, hq5, hr5, hg5⟩; obtain ⟨ba5, bc5, hbv5⟩ := owns_shape hown5; subst hbv5; have List5 := Lib.hid (List4.out.drewJ.gb hg5 (by omega)); have Tree5 := Lib.hid (Tree4.out.drewJ.gb hg5 (by omega)); have D5 := Lib.hid (D4.out.drewJ.step hg5); have E5 := Lib.hid (E4.out.drewJ.step hg5); have Hr5 := Lib.hid hr5; have z0 : w5.cell? ⟨X, 0, none⟩ = some (.slice (some ⟨g, 0, none⟩) n oc) := E5.out.1.2 0; have hz5 : w4.heap.size ≤ w5.heap.size := (by have := hg5.size; simpa using this); have hrow5 := Tree5.out.1; rw [Hpn.out] at hrow5; obtain ⟨⟨k0, k1, k2, k3, k4, k5⟩, kf0, kf1, kf2, kf3, kf4, kf5⟩ := own6 hrow5 k hltp; rw [← Hp.out] at k0 k1 k2 k3 k4 k5; dsimp only at k0 k1 k2 k3 k4 k5; have hbod5 := Tree5.out.2.1 _ (List.getElem_mem hltp); rw [← Hp.out] at hbod5; have Fsh5 := Lib.hid (show ShortF 8 (⟨fr, fp, fn, fi, fst, ss5⟩ : Fil) from (by have h := Hsf'.out _ (List.getElem_mem hltp); rw [← Hp.out] at h; exact ⟨h.1, h.2.1, hsh5⟩)); have Tree6 := Lib.hid (put_body Hpn.out Tree5.out k hltp Hp.out (owns_mono hown5 (by simp; omega)) (fun p hp b hb hb2 => by have e1 := (owns_block (Tree4.out.2.1 p hp) hb).2; have e2 := (owns_block hown5 hb2).1; simp at e2; omega)); clear hrow5 hbod5 hg5 hr5 hown5 hsh5))
            all_goals
              go_wp2_with fail
              go_roundw
              case rel => exact ⟨k + 1, ps'.set k (⟨fr, fp, fn, fi, fst, ss5⟩, .slice ba5 ss5.length bc5), q5, by go_num, by omega, by rw [List.length_set]; exact Hpn.out, by omega, mem_set_all Hsf'.out (Fsh5.out), mem_set_all Hbl.out hl5, List5.out.set_low (by dsimp only; omega) _, Tree6.out, D5.out.other hgw (by omega) _ _, E5.out.other hgX (by omega) _ _, Hr5.out.set (by dsimp only; omega) _⟩
              case measure => simp [intOf]; omega
          · have hj0b : (j == 0) = false := by simpa using hj0'
            by_cases hj1 : j = 1
            · subst hj1
              go_wp2_with fail
              go_region_law (first
                | (go_simp; go_at_call 87; refine (spec_someBody R (q3 + 1) _ hr4.drewJ (by omega)).mono ?_; rintro e w5 ⟨bv5, ss5, rfl, hown5, hsh5, hl5, q5, hq5, hr5, hg5⟩; obtain ⟨ba5, bc5, hbv5⟩ := owns_shape hown5; subst hbv5; have List5 := Lib.hid (List4.out.drewJ.gb hg5 (by omega)); have Tree5 := Lib.hid (Tree4.out.drewJ.gb hg5 (by omega)); have D5 := Lib.hid (D4.out.drewJ.step hg5); have E5 := Lib.hid (E4.out.drewJ.step hg5); have Hr5 := Lib.hid hr5; have z0 : w5.cell? ⟨X, 0, none⟩ = some (.slice (some ⟨g, 0, none⟩) n oc) := E5.out.1.2 0; have hz5 : w4.heap.size ≤ w5.heap.size := (by have := hg5.size; simpa using this); have hrow5 := Tree5.out.1; rw [Hpn.out] at hrow5; obtain ⟨⟨k0, k1, k2, k3, k4, k5⟩, kf0, kf1, kf2, kf3, kf4, kf5⟩ := own6 hrow5 k hltp; rw [← Hp.out] at k0 k1 k2 k3 k4 k5; dsimp only at k0 k1 k2 k3 k4 k5; have hbod5 := Tree5.out.2.1 _ (List.getElem_mem hltp); rw [← Hp.out] at hbod5; have Fsh5 := Lib.hid (show ShortF 8 (⟨fr, fp, fn, fi, fst, ss5⟩ : Fil) from (by have h := Hsf'.out _ (List.getElem_mem hltp); rw [← Hp.out] at h; exact ⟨h.1, h.2.1, hsh5⟩)); have Tree6 := Lib.hid (put_body Hpn.out Tree5.out k hltp Hp.out (owns_mono hown5 (by simp; omega)) (fun p hp b hb hb2 => by have e1 := (owns_block (Tree4.out.2.1 p hp) hb).2; have e2 := (owns_block hown5 hb2).1; simp at e2; omega)); clear hrow5 hbod5 hg5 hr5 hown5 hsh5))
              all_goals
                obtain ⟨w6, hw6⟩ : ∃ w6, w6 = w5.setCell ⟨g, k * 6 + 5, none⟩ (.slice ba5 ss5.length bc5) := ⟨_, rfl⟩
                have List6 := Lib.hid (show OwnCmps w6 (X + 1) (.slice la qs.length lc) qs by rw [hw6]; exact List5.out.set_low (by dsimp only; omega) _)
                have D6 := Lib.hid (show Dst w R w.heap.size #[.slice none 0 0] w6 by rw [hw6]; exact D5.out.other hgw (by omega) _ _)
                have E6 := Lib.hid (show Dst w R X #[.slice (some ⟨g, 0, none⟩) n oc] w6 by rw [hw6]; exact E5.out.other hgX (by omega) _ _)
                have hr6 : Rd w6 R q5 := by rw [hw6]; exact Hr5.out.set (by dsimp only; omega) _
                obtain ⟨ts, tree7, hl7, sf7, bl7, hk7, hp7⟩ : ∃ ts, OwnFils w6 (w.heap.size + 1) (.slice (some ⟨g, 0, none⟩) n oc) ts ∧ ts.length = n ∧ (∀ p ∈ ts, ShortF 8 p.1) ∧ (∀ p ∈ ts, p.1.body.length ≤ 4) ∧ ∃ hk : k < ts.length, ((⟨fr, fp, fn, fi, fst, ss5⟩ : Fil), Value.slice ba5 ss5.length bc5) = ts[k] :=
                  ⟨ps'.set k (⟨fr, fp, fn, fi, fst, ss5⟩, .slice ba5 ss5.length bc5), by rw [hw6]; exact Tree6.out, by rw [List.length_set]; exact Hpn.out, mem_set_all Hsf'.out Fsh5.out, mem_set_all Hbl.out hl5, by rw [List.length_set]; exact hltp, by rw [List.getElem_set_self]⟩
                have Tree7 := Lib.hid tree7
                have Sf7 := Lib.hid sf7
                have Bl7 := Lib.hid bl7
                have Hp7 := Lib.hid hp7
                have Fsh7 := Lib.hid (show ∀ st, ShortF 8 (⟨fr, fp, fn, fi, st, ss5⟩ : Fil) from fun st => ⟨Fsh5.out.1, Fsh5.out.2.1, Fsh5.out.2.2⟩)
                clear k0 k1 k2 k3 k4 k5 kf0 kf1 kf2 kf3 kf4 kf5 z0 tree7 sf7 bl7 hp7
                rw [← hw6]
                have Hl7 := Lib.hid hl7
                have z0 : w6.cell? ⟨X, 0, none⟩ = some (.slice (some ⟨g, 0, none⟩) n oc) := E6.out.1.2 0
                have hrow6 := Tree7.out.1
                rw [hl7] at hrow6
                obtain ⟨⟨k0, k1, k2, k3, k4, k5⟩, kf0, kf1, kf2, kf3, kf4, kf5⟩ := own6 hrow6 k hk7
                rw [← Hp7.out] at k0 k1 k2 k3 k4 k5
                dsimp only at k0 k1 k2 k3 k4 k5
                clear hrow6 hw6 hl7
                go_wp2_with fail
                go_region_law (first
                  | (go_simp; go_at_call 86; refine (reader_pick R q5 100 _ hr6.drewJ (by omega) (by omega)).mono ?_; rintro e w8 ⟨st8, rfl, hst0, hst, hr8, hg8⟩; have List8 := Lib.hid (List6.out.drewJ.gb hg8 (by omega)); have Tree8 := Lib.hid (Tree7.out.drewJ.gb hg8 (by omega)); have D8 := Lib.hid (D6.out.drewJ.step hg8); have E8 := Lib.hid (E6.out.drewJ.step hg8); have Hr8 := Lib.hid hr8; have u0 : w8.cell? ⟨X, 0, none⟩ = some (.slice (some ⟨g, 0, none⟩) n oc) := E8.out.1.2 0; have hrow8 := Tree8.out.1; rw [Hl7.out] at hrow8; obtain ⟨⟨m0, m1, m2, m3, m4, m5⟩, mf0, mf1, mf2, mf3, mf4, mf5⟩ := own6 hrow8 k hk7; rw [← Hp7.out] at m0 m1 m2 m3 m4 m5; dsimp only at m0 m1 m2 m3 m4 m5; have Tree9 := Lib.hid (put_stamp Hl7.out Tree8.out k hk7 Hp7.out st8); clear hrow8 hg8 hr8 hst))
                all_goals
                  go_wp2_with fail
                  go_roundw
                  case rel => exact ⟨k + 1, ts.set k (⟨fr, fp, fn, fi, st8, ss5⟩, .slice ba5 ss5.length bc5), q5 + 1, by go_num, by omega, by rw [List.length_set]; exact Hl7.out, by omega, mem_set_all Sf7.out (Fsh7.out _), mem_set_all Bl7.out hl5, List8.out.set_low (by dsimp only; omega) _, Tree9.out, D8.out.other hgw (by omega) _ _, E8.out.other hgX (by omega) _ _, Hr8.out.set (by dsimp only; omega) _⟩
                  case measure => simp [intOf]; omega
            · have hj1b : (j == 1) = false := by simpa using hj1
              go_wp2_with fail
              go_roundw
              case rel => exact ⟨k + 1, ps', q3 + 1, by go_num, by omega, Hpn.out, by omega, Hsf'.out, Hbl.out, List4.out, Tree4.out, D4.out, E4.out, hr4⟩
              case measure => simp [intOf]; omega
        · have z0 : wr.cell? ⟨w.heap.size, 0, none⟩ = some (.slice none 0 0) := Hd'.out.1.2 0
          have zf0 : wr.frozen? ⟨w.heap.size, 0, none⟩ = false := Hd'.out.2.1 0
          have hlt2 : ¬ ((k : Int) < (n : Int)) := by omega
          have Hqn := Lib.hid hqs10
          clear hqs10
          generalize hql : qs.length = ql at *
          have Hql := Lib.hid hql
          clear hql
          go_wp2_with fail
          go_region
          go_wp2_with fail
          refine bodyPost_ret (v := .tuple #[.slice la ql lc, .agg #[.slice oa n oc]]) (by simp [results, Try.results127, go_sem, *]) rfl ⟨_, qs, _, ps', rfl, ((Hlist.out.set_low (p := ⟨w.heap.size, 0, none⟩) (by dsimp only; omega) (.slice oa n oc)).drewJ).mono (by omega), Hfine.out, by rw [Hql.out]; exact Hqn.out, ((Htree'.out.set_low (p := ⟨w.heap.size, 0, none⟩) (by dsimp only; omega) (.slice oa n oc)).drewJ).mono (by omega), shortT_pairs.2 Hsf'.out, by rw [Hpn.out]; omega, Hbl.out, q3, by omega, (hrd.set (p := ⟨w.heap.size, 0, none⟩) (by dsimp only; omega) (.slice oa n oc)).drewJ, gb_trans (gb_set He'.out.2.2.1 (p := ⟨w.heap.size, 0, none⟩) (by dsimp only; omega) (.slice oa n oc)) ⟨rfl, rfl, rfl, Nat.le_refl _, fun _ _ _ => rfl⟩⟩
end Go.Proofs.Ytomdmkhgkaalnaa
