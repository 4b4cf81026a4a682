/- The function that draws a tree that may not be valid: whatever the code, it answers a short one, in rows made by the call. -/
import Derived.Test.YtcmnldomcpjlcaaGreatDrawW
import Derived.Deep.RegionLaw
import Derived.Deep.AppendLies
set_option linter.unusedVariables false
set_option linter.unusedSimpArgs false
namespace Go.Proofs.YtcmnldomcpjlcaaGreat
open Go.RowKit Go.Proofs.YtcmnldomcpjlcaaGreat.Nm

/-- The slice v is a row of files from block B on, and so are their bodies; two of them may share one. -/
def RowsB (w : World) (B : Nat) (v : Value) (ps : List (Fil × Value)) : Prop :=
  w.ownsRow B 79 6 v ps.length (ps.flatMap filCells) ∧ ∀ p ∈ ps, w.ownsRow B 118 5 p.2 p.1.body.length (p.1.body.flatMap stmCells)
theorem RowsB.of {w : World} {B : Nat} {v : Value} {ps : List (Fil × Value)} (h : OwnFils w B v ps) : RowsB w B v ps := ⟨h.1, h.2.1⟩
theorem RowsB.mono {w : World} {B B' : Nat} {v : Value} {ps : List (Fil × Value)} (h : RowsB w B v ps) (hB : B' ≤ B) : RowsB w B' v ps := ⟨owns_mono h.1 hB, fun p hp => owns_mono (h.2 p hp) hB⟩
theorem RowsB.below {w w' : World} {B : Nat} {v : Value} {ps : List (Fil × Value)} (h : RowsB w B v ps) (hb : Below w.heap.size w w') : RowsB w' B v ps := ⟨owns_below h.1 hb, fun p hp => owns_below (h.2 p hp) hb⟩
theorem RowsB.gb {w w' : World} {B R : Nat} {v : Value} {ps : List (Fil × Value)} (h : RowsB w B v ps) (hg : w.grownBy w' (some R)) (hR : R < B) : RowsB w' B v ps :=
  ⟨owns_heap h.1 (fun b hb => hg.block b (owns_block h.1 hb).2 (fun e => by have h1 := (owns_block h.1 hb).1; have := Option.some.inj e; omega)),
   fun p hp => owns_heap (h.2 p hp) (fun b hb => hg.block b (owns_block (h.2 p hp) hb).2 (fun e => by have h1 := (owns_block (h.2 p hp) hb).1; have := Option.some.inj e; omega))⟩
theorem RowsB.set_low {w : World} {B : Nat} {v : Value} {ps : List (Fil × Value)} (h : RowsB w B v ps) {p : Addr} (hp : p.block < B) (u : Value) : RowsB (w.setCell p u) B v ps := ⟨owns_set_low h.1 hp u, fun q hq => owns_set_low (h.2 q hq) hp u⟩
theorem RowsB.fils {w : World} {B : Nat} {v : Value} {ps : List (Fil × Value)} (h : RowsB w B v ps) : FilsIn w (fun _ => True) v (ps.map (·.1)) := FilsIn.of_owns h.1 (fun _ _ => trivial) (fun p hp => StmsIn.of_owns (h.2 p hp) (fun _ _ => trivial))
theorem RowsB.len {w : World} {B : Nat} {v : Value} {ps : List (Fil × Value)} (h : RowsB w B v ps) : ∃ a cap, v = .slice a ps.length cap := owns_shape h.1
/-- A file's row is no body's. -/
theorem RowsB.apart {w : World} {B : Nat} {v : Value} {ps : List (Fil × Value)} (h : RowsB w B v ps) {p : Fil × Value} (hp : p ∈ ps) {b : Nat} (hb : v.ownBlock = some b) : p.2.ownBlock ≠ some b :=
  own_types (T := 79) (T' := 118) (by decide) h.1 (h.2 p hp) hb
/-- One more file, which lies among them already. -/
theorem rows_twice {w w7 : World} {B : Nat} {v v7 : Value} {ps : List (Fil × Value)} {q : Fil × Value} (h : RowsB w B v ps) (hq : q ∈ ps) (hg : w.grownBy w7 v.ownBlock)
    (h7 : w7.ownsRow B 79 6 v7 (ps.length + 1) (ps.flatMap filCells ++ filCells q)) : RowsB w7 B v7 (ps ++ [q]) := by
  refine ⟨by simpa using h7, fun p hp => ?_⟩
  have hp' : p ∈ ps := by
    rcases List.mem_append.1 hp with hp | hp
    · exact hp
    · simp at hp; subst hp; exact hq
  exact owns_heap (h.2 p hp') (fun b hb => hg.block b (owns_block (h.2 p hp') hb).2 (fun e => h.apart hp' e.symm hb))
/-- What a function that draws a tree comes to. -/
def DrawTree (R q c : Nat) (w : World) (e : Ending) (w' : World) : Prop :=
  ∃ (v : Value) (ps : List (Fil × Value)), e = .returned (.agg #[v]) ∧ RowsB w' w.heap.size v ps ∧ ShortT 8 (ps.map (·.1)) ∧ ps.length ≤ 11 ∧ (∀ p ∈ ps, p.1.body.length ≤ 5) ∧ ∃ q', q' ≤ q + c ∧ Rd w' R q' ∧ w.grownBy w' (some R)
theorem mem_cons_all {α : Type} {P : α → Prop} {q : α} {tl : List α} {p : α} (h1 : P q) (h2 : ∀ p ∈ tl, P p) (h3 : p ∈ q :: tl) : P p := by
  rcases List.mem_cons.1 h3 with rfl | h3
  · exact h1
  · exact h2 _ h3
theorem Rd.drew {w : World} {R q : Nat} (h : Rd w R q) : Rd w.drew R q := h.keep (fun _ _ => rfl)
theorem Dst.drew {w w1 : World} {R X : Nat} {cs : Array Value} (h : Dst w R X cs w1) : Dst w R X cs w1.drew := h.step ⟨rfl, rfl, rfl, Nat.le_refl _, fun _ _ _ => rfl⟩
theorem OwnFils.drew {w : World} {B : Nat} {v : Value} {ps : List (Fil × Value)} (h : OwnFils w B v ps) : OwnFils w.drew B v ps := h.below ⟨rfl, rfl, rfl, Nat.le_refl _, fun _ _ => rfl⟩
/-- A block with cells of another type is none of a row's. -/
theorem box_ne {w : World} {B e s n X : Nat} {v : Value} {xs : List Value} {cs : Array Value} {T : TypeId} {r : Nat × Nat} (hT : e ≠ T) (h : w.ownsRow B e s v n xs) (hX : w.heap[X]? = some (.cells cs T r)) : ∀ b, v.ownBlock = some b → b ≠ X := by
  rcases h.2 with ⟨rfl, _⟩ | ⟨g, cap, cur, rfl, _, hg, _⟩
  · intro b hb; cases hb
  · intro b hb
    cases hb
    rintro rfl
    rw [hg] at hX
    cases hX
    exact hT rfl
theorem RowsB.set_box {w : World} {B X i : Nat} {v : Value} {ps : List (Fil × Value)} {cs : Array Value} {r : Nat × Nat} (h : RowsB w B v ps) (hX : w.heap[X]? = some (.cells cs 31 r)) (u : Value) : RowsB (w.setCell ⟨X, i, none⟩ u) B v ps :=
  ⟨owns_set_otherD h.1 (box_ne (by decide) h.1 hX) u, fun p hp => owns_set_otherD (h.2 p hp) (box_ne (by decide) (h.2 p hp) hX) u⟩
theorem row_block {w : World} {B e s g c n : Nat} {xs : List Value} (h : w.ownsRow B e s (.slice (some ⟨g, 0, none⟩) n c) n xs) : ∃ cur r, w.heap[g]? = some (.cells cur e r) := by
  rcases h.2 with ⟨h1, _⟩ | ⟨g', cap, cur, h1, _, hg, _⟩
  · cases h1
  · simp only [Value.slice.injEq, Option.some.injEq, Addr.mk.injEq] at h1
    obtain ⟨⟨rfl, _⟩, _⟩ := h1
    exact ⟨cur, _, hg⟩
/-- One field of the first file is written. -/
theorem rows_put {w : World} {B g c k : Nat} {p0 : Fil × Value} {tl : List (Fil × Value)} (h : RowsB w B (.slice (some ⟨g, 0, none⟩) (tl.length + 1) c) (p0 :: tl)) {f : Fil} (hb : f.body = p0.1.body) (u : Value) (hk : k < 6) (hc : (filCells p0).set k u = filCells (f, p0.2)) :
    RowsB (w.setCell ⟨g, k, none⟩ u) B (.slice (some ⟨g, 0, none⟩) (tl.length + 1) c) ((f, p0.2) :: tl) := by
  obtain ⟨cur, r, hg⟩ := row_block h.1
  have hother : ∀ p ∈ p0 :: tl, (w.setCell ⟨g, k, none⟩ u).ownsRow B 118 5 p.2 p.1.body.length (p.1.body.flatMap stmCells) := fun p hp => owns_set_otherD (h.2 p hp) (box_ne (by decide) (h.2 p hp) hg) u
  refine ⟨?_, fun p hp => ?_⟩
  · have h1 := (h.1.stored k u).1
    rw [List.flatMap_cons, List.set_append_left _ _ (by rw [filCells_len]; exact hk), hc] at h1
    simpa using h1
  · rcases List.mem_cons.1 hp with rfl | hp
    · have := hother p0 (List.mem_cons_self ..)
      dsimp only
      rw [hb]; exact this
    · exact hother p (List.mem_cons_of_mem _ hp)
/-- The body of the first file has grown. -/
theorem rows_body {w w7 : World} {B g c : Nat} {p0 : Fil × Value} {tl : List (Fil × Value)} (h : OwnFils w B (.slice (some ⟨g, 0, none⟩) (tl.length + 1) c) (p0 :: tl)) {f : Fil} {v7 : Value} (hg : w.grownBy w7 p0.2.ownBlock)
    (h7 : w7.ownsRow B 118 5 v7 f.body.length (f.body.flatMap stmCells)) (hc : (filCells p0).set 5 v7 = filCells (f, v7)) :
    RowsB (w7.setCell ⟨g, 5, none⟩ v7) B (.slice (some ⟨g, 0, none⟩) (tl.length + 1) c) ((f, v7) :: tl) := by
  have hrow : w7.ownsRow B 79 6 (.slice (some ⟨g, 0, none⟩) (tl.length + 1) c) (tl.length + 1) ((p0 :: tl).flatMap filCells) :=
    owns_heap h.1 (fun b hb => hg.block b (owns_block h.1 hb).2 (fun e => own_types (T := 79) (T' := 118) (by decide) h.1 (h.2.1 p0 (List.mem_cons_self ..)) hb e.symm))
  obtain ⟨cur, r, hgb⟩ := row_block hrow
  refine ⟨?_, fun p hp => ?_⟩
  · have h1 := (hrow.stored 5 v7).1
    rw [List.flatMap_cons, List.set_append_left _ _ (by rw [filCells_len]; omega), hc] at h1
    simpa using h1
  · rcases List.mem_cons.1 hp with rfl | hp
    · exact owns_set_otherD h7 (box_ne (by decide) h7 hgb) v7
    · have hpw := List.pairwise_cons.1 h.2.2
      have hq := h.2.1 p (List.mem_cons_of_mem _ hp)
      have hq7 : w7.ownsRow B 118 5 p.2 p.1.body.length (p.1.body.flatMap stmCells) := owns_heap hq (fun b hb => hg.block b (owns_block hq hb).2 (fun e => hpw.1 p hp b e.symm hb))
      exact owns_set_otherD hq7 (box_ne (by decide) hq7 hgb) v7
theorem row_kept {w w7 : World} {B : Nat} {v : Value} {p0 : Fil × Value} {tl : List (Fil × Value)} (h : OwnFils w B v (p0 :: tl)) (hg : w.grownBy w7 p0.2.ownBlock) : w7.ownsRow B 79 6 v (tl.length + 1) ((p0 :: tl).flatMap filCells) :=
  owns_heap h.1 (fun b hb => hg.block b (owns_block h.1 hb).2 (fun e => own_types (T := 79) (T' := 118) (by decide) h.1 (h.2.1 p0 (List.mem_cons_self ..)) hb e.symm))
theorem step_append_ownD {P : Program} {ops : Array Oper} {o : Oper} {a : Act} {w : World} {K : Act → World → Prop} {Q : Exit → Act → World → Prop} {E : Prop} (hgd : o.guard = none) (s x : Operand) (t : TypeId)
    (ho : o.op = .call { callee := .builtin .append, args := #[s, x], argTypes := #[t, t] })
    (base : Nat) (e : TypeId) (i : TypeInfo) (z : Value) (size bytes : Nat) (ht : P.underlying t = some (.slice e)) (hi : P.info? e = some i) (hz : i.zero = some z)
    (hsize : i.size = size) (hby : i.bytes = bytes) (hzs : z.cells.size = size) (hsz : 0 < size)
    (v : Value) (n : Nat) (xs : List Value) (hs : a.eval s = v) (hown : w.ownsRow base e size v n xs)
    (ad : Addr) (m c : Nat) (news : List Value) (hx : a.eval x = .slice (some ad) m c) (hl : news.length = m * size) (hnews : ∀ j u, news[j]? = some u → w.cell? (ad.add j) = some u) (h1 : ∀ u ∈ news, u.oneCell' = true)
    (h63 : n + m ≤ maxLen) (hbytes : (n + m) * bytes ≤ 140737488355328) (hbase : base ≤ w.heap.size)
    (h : ∀ v' w', w'.ownsRow base e size v' (n + m) (xs ++ news) → w.grownBy w' v.ownBlock → K (a.put o.dst v') w') :
    if Region.wanted o (yielded ops a.tmps) = true then Oper.wp P o a w K Q else E := by
  have hw : Region.wanted o (yielded ops a.tmps) = true := by simp [Region.wanted, hgd]
  rw [if_pos hw]
  exact wp_append_own w s x t ho base e i z size bytes ht hi hz hsize hby hzs hsz v n xs hs hown ad m c news hx hl hnews h1 h63 hbytes hbase (fun v' w' a b _ => h v' w' a b)
set_option maxRecDepth 100000 in
set_option maxHeartbeats 16000000 in
theorem spec_anyTree (R q : Nat) (w : World) (hr : Rd w R q) (hq : q ≤ 200000) :
    Calls Tryz.prog 128 #[.pointer (some ⟨R, 0, none⟩)] w (DrawTree R q 612 w) := by
  obtain ⟨i0, hi, hz0, hz1, hz2⟩ := info_parts infoFil
  obtain ⟨i1, hi1, hy0, hy1, hy2⟩ := info_parts infoStm
  have Hi := Lib.hid hi
  have Hz0 := Lib.hid hz0
  have Hz1 := Lib.hid hz1
  have Hz2 := Lib.hid hz2
  have Hi1 := Lib.hid hi1
  have Hy0 := Lib.hid hy0
  have Hy1 := Lib.hid hy1
  have Hy2 := Lib.hid hy2
  clear hi hz0 hz1 hz2 hi1 hy0 hy1 hy2
  have hR := hr.lt
  go_enter Tryz.func128, Tryz.ntmps128
  go_wp2_with fail
  have d0 := Dst.start hR #[.slice none 0 0] 31
  refine (spec_someTree R q _ (hr.alloc _) (by omega)).mono ?_
  rintro e w1 ⟨v, ps, rfl, hown1, hsh, hl10, hb4, q1, hq1, hr1, hg1⟩
  obtain ⟨oa, oc, rfl⟩ := len1D hown1
  have Hsh := Lib.hid hsh
  have Hb4 := Lib.hid hb4
  have Hown1 := Lib.hid (hown1.mono (B' := w.heap.size + 1) (by simp))
  have D1 := Lib.hid (d0.step hg1)
  have hR1 := hr1.lt
  have hz1 : w.heap.size + 1 ≤ w1.heap.size := by have := hg1.size; simpa using this
  clear hown1 hsh hb4 hg1 d0
  have hRX : R < w1.heap.size := by omega
  have E1 : Dst w R w1.heap.size #[.slice oa ps.length oc] (w1.alloc (.cells #[.slice oa ps.length oc] 31)) := by
    obtain ⟨h1, h2, h3, h4, h5⟩ := Dst.start (w := w1) hR1 #[.slice oa ps.length oc] 31
    exact ⟨h1, h2, gb_trans D1.out.2.2.1 h3, h4, by omega⟩
  have hX0 : w1.heap.size ≠ w.heap.size := by omega
  have Hown2 := Lib.hid (Hown1.out.below (ba (Below.refl _ _) (.cells #[.slice oa ps.length oc] 31)))
  have D2 := Lib.hid (D1.out.alloc (.cells #[.slice oa ps.length oc] 31))
  have Hlt := Lib.hid (fun b (hb : (Value.slice oa ps.length oc).ownBlock = some b) => (owns_block Hown1.out.1 hb))
  have hr2 := hr1.alloc (.cells #[.slice oa ps.length oc] 31)
  have HX2 := Lib.hid (heap_new w1 #[.slice oa ps.length oc] 31)
  have y0 : (w1.alloc (.cells #[.slice oa ps.length oc] 31)).cell? ⟨w1.heap.size, 0, none⟩ = some (.slice oa ps.length oc) := E1.1.2 0
  cases ps with
  | nil =>
    have x0 : (w1.alloc (.cells #[.slice oa 0 oc] 31)).cell? ⟨w.heap.size, 0, none⟩ = some (.slice none 0 0) := D2.out.1.2 0
    have xf : (w1.alloc (.cells #[.slice oa 0 oc] 31)).frozen? ⟨w.heap.size, 0, none⟩ = false := D2.out.2.1 0
    go_wp2_with fail
    refine bodyPost_ret (v := .agg #[.slice oa 0 oc]) (by simp [results, Tryz.results128, go_sem, *]) rfl ⟨_, [], rfl, ?_, Hsh.out, by simp, (fun p hp => by cases hp), q1, by omega, hr2.set (by dsimp only; omega) _, gb_set D2.out.2.2.1 (by dsimp only; omega) _⟩
    exact ((RowsB.of Hown2.out).set_low (by dsimp only; omega) _).mono (by omega)
  | cons p0 tl =>
    obtain ⟨⟨fr, fp, fn, fi, fst, fb⟩, bv⟩ := p0
    have hlen : ((((⟨fr, fp, fn, fi, fst, fb⟩ : Fil), bv) :: tl).length : Int) = (tl.length : Int) + 1 := by simp
    have hs0 := Lib.hid (Hsh.out _ (List.mem_cons_self ..))
    have Hst := Lib.hid (fun f (hf : f ∈ tl.map (·.1)) => Hsh.out f (List.mem_cons_of_mem _ hf))
    have hb0 : fb.length ≤ 4 := Hb4.out _ (List.mem_cons_self ..)
    have Hbt := Lib.hid (fun p (hp : p ∈ tl) => Hb4.out p (List.mem_cons_of_mem _ hp))
    simp only [List.length_cons] at hl10
    obtain ⟨g, cap, e1, hg, hg2⟩ := Hown1.out.1.form (by simp)
    simp only [Value.slice.injEq] at e1
    obtain ⟨rfl, _, rfl⟩ := e1
    have hgr := Hlt.out g rfl
    go_wp2_with fail
    refine (reader_pick R q1 _ _ hr2 (by omega) (by omega)).mono ?_
    rintro e w3 ⟨j, rfl, hj0, hj, hr3, hg3⟩
    have HX3 := Lib.hid (show w3.heap[w1.heap.size]? = some (.cells #[.slice (some ⟨g, 0, none⟩) (tl.length + 1) oc] 31 (0, 0)) by rw [hg3.block _ (by simp) (fun e => by have := Option.some.inj e; omega)]; exact HX2.out)
    have E3 := Lib.hid (E1.step hg3)
    have D3 := Lib.hid (D2.out.step hg3)
    have Hown3 := Lib.hid (Hown2.out.gb hg3 (by omega))
    have hR3 := hr3.lt
    have hz3 : w1.heap.size + 1 ≤ w3.heap.size := by have := hg3.size; simpa using this
    clear hg3 E1 D2 Hown2 hr2 D1 y0 HX2 Hown1 Hsh Hb4 Hlt
    obtain ⟨X, hX⟩ : ∃ X, X = w1.heap.size := ⟨_, rfl⟩
    rw [← hX] at HX3 E3 hz3 hgr hRX ⊢
    have hXw : w.heap.size ≠ X := by omega
    have hXw' : X ≠ w.heap.size := by omega
    have hgX : g ≠ X := by omega
    have hXg : X ≠ g := by omega
    have hgw : g ≠ w.heap.size := by omega
    have hwg : w.heap.size ≠ g := by omega
    have hRg : R ≠ g := by omega
    have hX3 : X < w3.heap.size := by omega
    have hg3' : g < w3.heap.size := by omega
    have hw3' : w.heap.size < w3.heap.size := by omega
    clear hX hz1 hX0 hR1
    simp only [List.length_cons] at E3 Hown3 HX3 ⊢
    obtain ⟨sa, sc, hbv⟩ := owns_shape (Hown3.out.2.1 _ (List.mem_cons_self ..))
    dsimp only at hbv
    subst hbv
    have y0 : w3.cell? ⟨X, 0, none⟩ = some (.slice (some ⟨g, 0, none⟩) (tl.length + 1) oc) := E3.out.1.2 0
    have yf : w3.frozen? ⟨X, 0, none⟩ = false := E3.out.2.1 0
    have x0 : w3.cell? ⟨w.heap.size, 0, none⟩ = some (.slice none 0 0) := D3.out.1.2 0
    have xf : w3.frozen? ⟨w.heap.size, 0, none⟩ = false := D3.out.2.1 0
    obtain ⟨⟨c0, c1, c2, c3, c4, c5⟩, cf0, cf1, cf2, cf3, cf4, cf5⟩ := own6 Hown3.out.1 0 (by simp)
    simp only [Nat.zero_mul, Nat.zero_add, List.getElem_cons_zero] at c0 c1 c2 c3 c4 c5 cf0 cf1 cf2 cf3 cf4 cf5
    have Hx := Lib.hid (RowsB.of Hown3.out)
    by_cases h0 : j = 0
    · subst h0
      have Hod := Lib.hid (Hown3.out.drew)
      go_wp2_with fail
      go_region_law (first
        | (refine step_append_ownD rfl (.tmp 15) (.tmp 20) 29 rfl (w.heap.size + 1) 79 i0 _ 6 80 Tryz.underlying29 Hi.out Hz0.out Hz1.out Hz2.out rfl (by decide) (.slice (some ⟨g, 0, none⟩) (tl.length + 1) oc) (tl.length + 1) _ (by simp [Act.eval, Act.put]) (Hod.out.1.alloc _) ⟨w3.heap.size, 0, none⟩ 1 1 (filCells ((⟨fr, fp, fn, fi, fst, fb⟩ : Fil), .slice sa fb.length sc)) (by simp [Act.eval, Act.put]) rfl (new_cellsD _ (filCells ((⟨fr, fp, fn, fi, fst, fb⟩ : Fil), .slice sa fb.length sc)).toArray _ _ (by first | rfl | simp)) (fun x hx => by simp [filCells] at hx; rcases hx with rfl | rfl | rfl | rfl | rfl | rfl <;> rfl) (by unfold maxLen; omega) (by omega) (by simp; omega) ?_; intro v7 w7 hown7 hg7; obtain ⟨a7, c7, hv7⟩ := owns_shape hown7; subst hv7; have hge7 : ∀ b, (Value.slice (some ⟨g, 0, none⟩) (tl.length + 1) oc).ownBlock = some b → b = g := (fun b hb => (Option.some.inj hb).symm); have HR7 := Lib.hid (rows_twice (q := ((⟨fr, fp, fn, fi, fst, fb⟩ : Fil), .slice sa fb.length sc)) (((RowsB.of Hod.out).below (ba (Below.refl _ _) _))) (List.mem_cons_self ..) hg7 (by simpa using hown7)); have HE7 := Lib.hid (Dst.keepD (E3.out.drew.alloc _) hg7 (by simp; omega) (fun b hb => by have := hge7 b hb; omega) (fun b hb => by have := hge7 b hb; omega)); have HD7 := Lib.hid (Dst.keepD (D3.out.drew.alloc _) hg7 (by simp; omega) (fun b hb => by have := hge7 b hb; omega) (fun b hb => by have := hge7 b hb; omega)); have HX7 := Lib.hid (hg7.block X (by simp; omega) (fun e => hXg (hge7 X e.symm))); have Hr7 := Lib.hid ((hr3.drew.alloc (.cells (filCells ((⟨fr, fp, fn, fi, fst, fb⟩ : Fil), .slice sa fb.length sc)).toArray 79)).keep (fun j hj => hg7.block j (by simp; omega) (fun e => by have := hge7 j e.symm; omega))); have z0 : w7.cell? ⟨X, 0, none⟩ = some (.slice (some ⟨g, 0, none⟩) (tl.length + 1) oc) := HE7.out.1.2 0; have zf : w7.frozen? ⟨X, 0, none⟩ = false := HE7.out.2.1 0; have z1 : w7.cell? ⟨w.heap.size, 0, none⟩ = some (.slice none 0 0) := HD7.out.1.2 0; have zf1 : w7.frozen? ⟨w.heap.size, 0, none⟩ = false := HD7.out.2.1 0; clear hown7 hg7))
      all_goals
        go_wp2_with fail
        refine bodyPost_ret (v := .agg #[.slice a7 (tl.length + 1 + 1) c7]) (by simp [results, Tryz.results128, go_sem, z1, hXw, hXw']) rfl ⟨_, _, rfl, (((HR7.out.set_box (HX7.out.trans ((Below.heap_alloc w3 _ X hX3).trans HX3.out)) _).set_low (by dsimp only; omega) _).mono (by omega)), ?_, by simp; omega, ?_, q1 + 1, by omega, (Hr7.out.set (by dsimp only; omega) _).set (by dsimp only; omega) _, gb_set (gb_set HD7.out.2.2.1 (by dsimp only; omega) _) (by dsimp only; omega) _⟩
        · intro f hf
          rw [List.map_append] at hf
          rcases List.mem_append.1 hf with hf | hf
          · rcases List.mem_cons.1 hf with rfl | hf
            · exact hs0.out
            · exact Hst.out f hf
          · simp at hf; subst hf; exact hs0.out
        · intro p hp
          rcases List.mem_append.1 hp with hp | hp
          · exact mem_cons_all (P := fun p => p.1.body.length ≤ 5) (by dsimp only; omega) (fun p hp => Nat.le_succ_of_le (Hbt.out p hp)) hp
          · simp at hp; subst hp; dsimp only; omega
    have h0b : (j == 0) = false := by simpa using h0
    by_cases h1 : j = 1
    · subst h1
      go_wp2_with fail
      go_region_law (first
        | (go_simp; go_at_call 139; refine (reader_one R (q1 + 1) w3.heap.size 3 [-1, 3] _ (hr3.drew.alloc _) (heap_new w3.drew _ _) (by omega) (by decide) (by decide) (by omega)).mono ?_; rintro e w4 ⟨x, hx, rfl, hr4, hg4⟩; have D4 := Lib.hid ((D3.out.drew.alloc _).step hg4); have E4 := Lib.hid ((E3.out.drew.alloc _).step hg4); have H4 := Lib.hid ((RowsB.of ((Hown3.out.drew).below (ba (Below.refl _ _) _))).gb hg4 (by omega)); have HX4 := Lib.hid (hg4.block X (by simp; omega) (fun e => by have := Option.some.inj e; omega)); have Hr4 := Lib.hid hr4; have z0 : w4.cell? ⟨X, 0, none⟩ = some (.slice (some ⟨g, 0, none⟩) (tl.length + 1) oc) := E4.out.1.2 0; have z1 : w4.cell? ⟨w.heap.size, 0, none⟩ = some (.slice none 0 0) := D4.out.1.2 0; have zf1 : w4.frozen? ⟨w.heap.size, 0, none⟩ = false := D4.out.2.1 0; obtain ⟨⟨k0, k1, k2, k3, k4, k5⟩, kf0, kf1, kf2, kf3, kf4, kf5⟩ := own6 H4.out.1 0 (by simp); simp only [Nat.zero_mul, Nat.zero_add, List.getElem_cons_zero] at k0 k1 k2 k3 k4 k5 kf0 kf1 kf2 kf3 kf4 kf5; clear hg4 hr4 hx))
      all_goals
        go_wp2_with fail
        refine bodyPost_ret (v := .agg #[.slice (some ⟨g, 0, none⟩) (tl.length + 1) oc]) (by simp [results, Tryz.results128, go_sem, z1, hXw, hXw', hgw, hwg]) rfl ⟨_, ((⟨x, fp, fn, fi, fst, fb⟩ : Fil), .slice sa fb.length sc) :: tl, rfl, (((rows_put H4.out (f := ⟨x, fp, fn, fi, fst, fb⟩) rfl (.int .i64 x) (by omega) rfl).set_low (by dsimp only; omega) _).mono (by omega)), ?_, by simp; omega, ?_, q1 + 1 + 1, by omega, (Hr4.out.set (by dsimp only; omega) _).set (by dsimp only; omega) _, gb_set (gb_set D4.out.2.2.1 (by dsimp only; omega) _) (by dsimp only; omega) _⟩
        · intro f hf
          rcases List.mem_cons.1 hf with rfl | hf
          · exact ⟨hs0.out.1, hs0.out.2.1, hs0.out.2.2⟩
          · exact Hst.out f hf
        · exact fun p hp => mem_cons_all (P := fun p => p.1.body.length ≤ 5) (by dsimp only; omega) (fun p hp => Nat.le_succ_of_le (Hbt.out p hp)) hp
    have h1b : (j == 1) = false := by simpa using h1
    by_cases h2 : j = 2
    · subst h2
      go_wp2_with fail
      go_region_law (first
        | (go_simp; go_at_call 139; refine (reader_one R (q1 + 1) w3.heap.size 3 [-1, 100] _ (hr3.drew.alloc _) (heap_new w3.drew _ _) (by omega) (by decide) (by decide) (by omega)).mono ?_; rintro e w4 ⟨x, hx, rfl, hr4, hg4⟩; have D4 := Lib.hid ((D3.out.drew.alloc _).step hg4); have E4 := Lib.hid ((E3.out.drew.alloc _).step hg4); have H4 := Lib.hid ((RowsB.of ((Hown3.out.drew).below (ba (Below.refl _ _) _))).gb hg4 (by omega)); have HX4 := Lib.hid (hg4.block X (by simp; omega) (fun e => by have := Option.some.inj e; omega)); have Hr4 := Lib.hid hr4; have z0 : w4.cell? ⟨X, 0, none⟩ = some (.slice (some ⟨g, 0, none⟩) (tl.length + 1) oc) := E4.out.1.2 0; have z1 : w4.cell? ⟨w.heap.size, 0, none⟩ = some (.slice none 0 0) := D4.out.1.2 0; have zf1 : w4.frozen? ⟨w.heap.size, 0, none⟩ = false := D4.out.2.1 0; obtain ⟨⟨k0, k1, k2, k3, k4, k5⟩, kf0, kf1, kf2, kf3, kf4, kf5⟩ := own6 H4.out.1 0 (by simp); simp only [Nat.zero_mul, Nat.zero_add, List.getElem_cons_zero] at k0 k1 k2 k3 k4 k5 kf0 kf1 kf2 kf3 kf4 kf5; clear hg4 hr4 hx))
      all_goals
        go_wp2_with fail
        refine bodyPost_ret (v := .agg #[.slice (some ⟨g, 0, none⟩) (tl.length + 1) oc]) (by simp [results, Tryz.results128, go_sem, z1, hXw, hXw', hgw, hwg]) rfl ⟨_, ((⟨fr, fp, fn, fi, x, fb⟩ : Fil), .slice sa fb.length sc) :: tl, rfl, (((rows_put H4.out (f := ⟨fr, fp, fn, fi, x, fb⟩) rfl (.int .i64 x) (by omega) rfl).set_low (by dsimp only; omega) _).mono (by omega)), ?_, by simp; omega, ?_, q1 + 1 + 1, by omega, (Hr4.out.set (by dsimp only; omega) _).set (by dsimp only; omega) _, gb_set (gb_set D4.out.2.2.1 (by dsimp only; omega) _) (by dsimp only; omega) _⟩
        · intro f hf
          rcases List.mem_cons.1 hf with rfl | hf
          · exact ⟨hs0.out.1, hs0.out.2.1, hs0.out.2.2⟩
          · exact Hst.out f hf
        · exact fun p hp => mem_cons_all (P := fun p => p.1.body.length ≤ 5) (by dsimp only; omega) (fun p hp => Nat.le_succ_of_le (Hbt.out p hp)) hp
    have h2b : (j == 2) = false := by simpa using h2
    by_cases h3 : j = 3
    · subst h3
      have Hod := Lib.hid (Hown3.out.drew)
      have H3r := Lib.hid hr3
      clear c0 c1 c2 c3 c4 cf0 cf1 cf2 cf3 cf4 cf5 x0 xf yf hlen h0b h1b h2b hj0 hj hr1 hr hgX hRX hr3
      go_wp2_with fail
      go_region_law (first
        | (refine step_append_ownD rfl (.tmp 49) (.tmp 51) 77 rfl (w.heap.size + 1) 118 i1 _ 5 56 Tryz.underlying77 Hi1.out Hy0.out Hy1.out Hy2.out rfl (by decide) (.slice sa fb.length sc) fb.length _ (by simp [Act.eval, Act.put]) ((Hod.out.2.1 _ (List.mem_cons_self ..)).alloc _) ⟨w3.heap.size, 0, none⟩ 1 1 (stmCells ⟨9, [], 0, [], 0⟩) (by simp [Act.eval, Act.put]) rfl (new_cellsD _ (stmCells ⟨9, [], 0, [], 0⟩).toArray _ _ (by first | rfl | simp)) (fun x hx => by simp [stmCells] at hx; rcases hx with rfl | rfl | rfl | rfl | rfl <;> rfl) (by unfold maxLen; omega) (by omega) (by simp; omega) ?_; intro v7 w7 hown7 hg7; obtain ⟨a7, c7, hv7⟩ := owns_shape hown7; subst hv7; have hbd := (Hod.out.2.1 _ (List.mem_cons_self ..)); have hge7 : ∀ b, (Value.slice sa fb.length sc).ownBlock = some b → w.heap.size + 1 ≤ b ∧ b ≠ X := (fun b hb => ⟨(owns_block hbd hb).1, box_ne (by decide) hbd HX3.out b hb⟩); have HR7 := Lib.hid (rows_body (f := ⟨fr, fp, fn, fi, fst, fb ++ [⟨9, [], 0, [], 0⟩]⟩) (Hod.out.below (ba (Below.refl _ _) _)) hg7 (by simpa using hown7) rfl); have HO7 := Lib.hid (row_kept (Hod.out.below (ba (Below.refl _ _) _)) hg7); have HD7 := Lib.hid (Dst.keepD (D3.out.drew.alloc _) hg7 (by simp; omega) (fun b hb => by have := hge7 b hb; omega) (fun b hb => by have := hge7 b hb; omega)); have HE7 := Lib.hid (Dst.keepD (E3.out.drew.alloc _) hg7 (by simp; omega) (fun b hb => by have := hge7 b hb; omega) (fun b hb => by have := hge7 b hb; omega)); have Hr7 := Lib.hid ((H3r.out.drew.alloc (.cells (stmCells ⟨9, [], 0, [], 0⟩).toArray 118)).keep (fun j hj => hg7.block j (by simp; omega) (fun e => by have := hge7 j e.symm; omega))); have z0 : w7.cell? ⟨X, 0, none⟩ = some (.slice (some ⟨g, 0, none⟩) (tl.length + 1) oc) := HE7.out.1.2 0; have z1 : w7.cell? ⟨w.heap.size, 0, none⟩ = some (.slice none 0 0) := HD7.out.1.2 0; have zf1 : w7.frozen? ⟨w.heap.size, 0, none⟩ = false := HD7.out.2.1 0; obtain ⟨⟨k0, k1, k2, k3, k4, k5⟩, kf0, kf1, kf2, kf3, kf4, kf5⟩ := own6 HO7.out 0 (by simp); simp only [Nat.zero_mul, Nat.zero_add, List.getElem_cons_zero] at k0 k1 k2 k3 k4 k5 kf0 kf1 kf2 kf3 kf4 kf5; clear hown7 hg7 hbd hge7))
      all_goals
        go_wp2_with fail
        refine bodyPost_ret (v := .agg #[.slice (some ⟨g, 0, none⟩) (tl.length + 1) oc]) (by simp [results, Tryz.results128, go_sem, z1, hXw, hXw', hgw, hwg]) rfl ⟨_, _, rfl, ((HR7.out.set_low (by dsimp only; omega) _).mono (by omega)), ?_, by simp; omega, ?_, q1 + 1, by omega, (Hr7.out.set (by dsimp only; omega) _).set (by dsimp only; omega) _, gb_set (gb_set HD7.out.2.2.1 (by dsimp only; omega) _) (by dsimp only; omega) _⟩
        · intro f hf
          rcases List.mem_cons.1 hf with rfl | hf
          · refine ⟨hs0.out.1, hs0.out.2.1, fun s hs => ?_⟩
            rcases List.mem_append.1 hs with hs | hs
            · exact hs0.out.2.2 s hs
            · simp at hs; subst hs; exact ⟨by simp, by simp⟩
          · exact Hst.out f hf
        · exact fun p hp => mem_cons_all (P := fun p => p.1.body.length ≤ 5) (by dsimp only; simp; omega) (fun p hp => Nat.le_succ_of_le (Hbt.out p hp)) hp
    have h3b : (j == 3) = false := by simpa using h3
    go_wp2_with fail
    refine bodyPost_ret (v := .agg #[.slice (some ⟨g, 0, none⟩) (tl.length + 1) oc]) (by simp [results, Tryz.results128, go_sem, *]) rfl ⟨_, _, rfl, ((Hx.out.set_low (by dsimp only; omega) _).mono (by omega)), ?_, by simp; omega, ?_, q1 + 1, by omega, hr3.set (by dsimp only; omega) _, gb_set D3.out.2.2.1 (by dsimp only; omega) _⟩
    · intro f hf
      rcases List.mem_cons.1 hf with rfl | hf
      · exact hs0.out
      · exact Hst.out f hf
    · exact fun p hp => mem_cons_all (P := fun p => p.1.body.length ≤ 5) (by dsimp only; omega) (fun p hp => Nat.le_succ_of_le (Hbt.out p hp)) hp
end Go.Proofs.YtcmnldomcpjlcaaGreat
