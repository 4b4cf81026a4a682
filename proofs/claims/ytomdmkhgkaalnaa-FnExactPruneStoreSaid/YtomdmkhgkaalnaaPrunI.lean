/- Contract of the program's function that drops from a store what is of no file. -/
import Derived.Test.YtomdmkhgkaalnaaPrune
import Derived.Test.YtomdmkhgkaalnaaPut
import Derived.Lib.SliceRun
set_option linter.unusedVariables false
set_option linter.unusedSimpArgs false
namespace Go.Proofs.Ytomdmkhgkaalnaa
open Go.RowKit Go.Proofs.Ytomdmkhgkaalnaa.Nm
open Go.Sort (grow)

/-! ### Plain data. -/
/-- What is kept of a store, by the places that there are. -/
def keepP (S : List Pl) (p : Cmp × Value) : Bool := decide (srcPlace (cplace p.1) ∈ S)
theorem keep_setG {α : Type} {ys xs : List α} {m i : Nat} {q : α → Bool} (hm : m < i) (hi : i < xs.length) (hl : ys.length = xs.length) (h1 : ys.take m = (xs.take i).filter q) (h2 : ys.drop i = xs.drop i) (hq : q xs[i] = true) :
    (ys.set m xs[i]).take (m + 1) = (xs.take (i + 1)).filter q ∧ (ys.set m xs[i]).drop (i + 1) = xs.drop (i + 1) := by
  constructor
  · rw [filter_snoc' q xs i hi, if_pos hq, ← h1, List.take_succ_eq_append_getElem (by rw [List.length_set]; omega), List.take_set_of_le (by omega), List.getElem_set_self]
  · rw [List.drop_set_of_lt (by omega)]
    have := congrArg (List.drop 1) h2
    simpa [List.drop_drop] using this
theorem keep_notG {α : Type} {ys xs : List α} {m i : Nat} {q : α → Bool} (hi : i < xs.length) (h1 : ys.take m = (xs.take i).filter q) (h2 : ys.drop i = xs.drop i) (hq : q xs[i] = false) :
    ys.take m = (xs.take (i + 1)).filter q ∧ ys.drop (i + 1) = xs.drop (i + 1) := by
  constructor
  · rw [filter_snoc' q xs i hi, if_neg (by rw [hq]; simp), List.append_nil, h1]
  · have := congrArg (List.drop 1) h2
    simpa [List.drop_drop] using this
theorem keep_hereG {α : Type} {ys xs : List α} {i : Nat} (hi : i < xs.length) (hl : ys.length = xs.length) (h2 : ys.drop i = xs.drop i) : ys[i]'(by omega) = xs[i] := by
  have := congrArg (fun l => l[0]?) h2
  simp only [List.getElem?_drop, Nat.add_zero] at this
  rw [List.getElem?_eq_getElem (by omega), List.getElem?_eq_getElem hi] at this
  exact Option.some.inj this
theorem lastOf_lenC (p : Bs) : (lastOf p).length ≤ 3 := by
  unfold lastOf
  split
  · rename_i h; exact (vp_len (getLast_vp h)).2
  · simp
theorem parentOf_lenC (p : Bs) : (parentOf p).length ≤ p.length := by
  unfold parentOf
  split
  · exact parent_len p
  · simp
theorem okPl_src {x0 : Int} {x1 : Bs} {x2 : Bool} (h0 : 0 ≤ x0 ∧ x0 ≤ 2) (h1 : x1.length ≤ 8000000) : okPl (srcPlace (x0, x1, x2)) := by
  unfold srcPlace
  dsimp only
  have e1 := parentOf_lenC x1
  have e2 := lastOf_lenC x1
  split
  · exact ⟨h0, h1, by simp⟩
  · exact ⟨h0, by dsimp only; omega, by dsimp only; omega⟩
/-- The places of a valid tree tell just what is in it. -/
theorem keepP_is {t : List Fil} {p : Cmp × Value} (ht : okTree t = true) (hv : vn p.1.module = true) : keepP (dedup (t.map place)) p = inTree t p.1 := by
  unfold keepP inTree
  rw [Bool.eq_iff_iff, decide_eq_true_eq, mem_dedup, List.any_eq_true]
  have hok := (okTree_all ht).1
  constructor
  · intro h
    obtain ⟨f, hf, e⟩ := List.mem_map.1 h
    exact ⟨f, hf, by rw [decide_eq_true_eq]; exact ((srcPlace_is (p := cplace p.1) hv (List.all_eq_true.1 hok f hf)).1 e.symm).symm⟩
  · rintro ⟨f, hf, e⟩
    rw [decide_eq_true_eq] at e
    exact List.mem_map.2 ⟨f, hf, ((srcPlace_is (p := cplace p.1) hv (List.all_eq_true.1 hok f hf)).2 e.symm).symm⟩
theorem OwnCmpBodies.filter {w : World} {B : Nat} {ps : List (Cmp × Value)} (h : OwnCmpBodies w B ps) (q : Cmp × Value → Bool) : OwnCmpBodies w B (ps.filter q) :=
  ⟨fun p hp => h.1 p (List.mem_filter.1 hp).1, h.2.filter q⟩
theorem map_keep {t : List Fil} {ps : List (Cmp × Value)} (ht : okTree t = true) (hv : ∀ c ∈ ps.map (·.1), vn c.module = true) : (ps.filter (keepP (dedup (t.map place)))).map (·.1) = (ps.map (·.1)).filter (inTree t) := by
  rw [List.filter_map]
  congr 1
  exact List.filter_congr (fun p hp => keepP_is ht (hv _ (List.mem_map.2 ⟨p, hp, rfl⟩)))

theorem tell_of {ps : List (Cmp × Value)} (h : okStore (ps.map (·.1)) = true) : ∀ p ∈ ps, (0 ≤ p.1.root ∧ p.1.root ≤ 2) ∧ p.1.module.length ≤ 8000000 := fun p hp => by
  have h1 := (okStore_facts h).1 p.1 (List.mem_map.2 ⟨p, hp, rfl⟩)
  have h2 := vn_len (okCmp_vn h1)
  unfold okCmp inr at h1
  simp only [Bool.and_eq_true, decide_eq_true_eq] at h1
  exact ⟨by omega, by omega⟩
theorem owns_cellsP {B e size g n cap : Nat} : ∀ (vs : List Value) (o : Nat) (w : World) (xs : List Value), w.ownsRow B e size (.slice (some ⟨g, 0, none⟩) n cap) n xs → o + vs.length ≤ xs.length → (w.setCells g o vs).ownsRow B e size (.slice (some ⟨g, 0, none⟩) n cap) n (xs.take o ++ (vs ++ xs.drop (o + vs.length)))
  | [], o, w, xs, h, _ => by simpa [World.setCells] using h
  | u :: r, o, w, xs, h, hl => by
      have h1 := owns_cellsP r (o + 1) _ _ (h.stored o u).1 (by simp at hl ⊢; omega)
      have hlt : o < xs.length := by simp at hl; omega
      rw [World.setCells]
      have e1 : (xs.set o u).take (o + 1) = xs.take o ++ [u] := by
        rw [List.set_eq_take_append_cons_drop, if_pos hlt, List.take_append, List.length_take, Nat.min_eq_left (by omega), List.take_take, Nat.min_eq_right (by omega), show o + 1 - o = 1 by omega]
        rfl
      have e2 : (xs.set o u).drop (o + 1 + r.length) = xs.drop (o + (u :: r).length) := by
        rw [List.drop_set_of_lt (by omega)]
        simp; congr 1; omega
      rw [e1, e2] at h1
      simpa using h1
theorem owns_frontP {w : World} {B e size g n cap : Nat} {xs : List Value} (h : w.ownsRow B e size (.slice (some ⟨g, 0, none⟩) n cap) n xs) (i : Nat) (hi : i ≤ n) : w.ownsRow B e size (.slice (some ⟨g, 0, none⟩) i cap) i (xs.take (i * size)) := by
  have hm : i * size ≤ n * size := Nat.mul_le_mul_right _ hi
  refine ⟨by rw [List.length_take, h.1]; omega, .inr ?_⟩
  rcases h.2 with ⟨h', _⟩ | ⟨g', cap', cur, h', hb, hg, hnc, hcm, hcs, htake⟩
  · simp at h'
  · simp only [Value.slice.injEq, Option.some.injEq, Addr.mk.injEq, and_true, true_and] at h'
    obtain ⟨rfl, rfl⟩ := h'
    refine ⟨g, cap, cur, rfl, hb, hg, by omega, hcm, hcs, ?_⟩
    rw [← htake, List.take_take, Nat.min_eq_left hm]
theorem heap_setCellsP (b : Nat) : ∀ (vs : List Value) (o : Nat) (w : World) (x : Nat), x ≠ b → (w.setCells b o vs).heap[x]? = w.heap[x]?
  | [], _, _, _, _ => rfl
  | v :: r, o, w, x, h => by rw [World.setCells, heap_setCellsP b r _ _ x h]; exact Below.heap_setCell w _ v x h
theorem below_tailP {N g : Nat} (hg : N ≤ g) : ∀ (vs : List Value) (o : Nat) {a w : World}, Below N a w → Below N a (w.setCells g o vs)
  | [], _, _, _, h => h
  | u :: r, o, _, _, h => below_tailP hg r (o + 1) (h.setCell (p := ⟨g, o, none⟩) hg u)
/-! ### A slice of structs that is cleared. -/
theorem run_clear_cells {P : Program} (w : World) (t e ty : TypeId) (z : Value) (ht : P.underlying t = some (.slice e)) (hv : ∀ w, (zeroValue e).run P w = .ok z w) (b o n c k : Nat) (hn : 0 < n) (vs : List Value) (hvs : (Builtin.zeroCells z.cells n).toList = vs) (hl : vs.length = k)
    (h1 : ∀ v ∈ vs, v.oneCell' = true) (hc : ∀ j, j < k → (w.cell? ⟨b, o + j, none⟩).isSome = true) (hf : ∀ j, j < k → w.frozen? ⟨b, o + j, none⟩ = false) :
    (Builtin.clear_ #[t] ty #[.slice (some ⟨b, o, none⟩) n c]).run P w = .ok (.tuple #[]) (w.setCells b o vs) := by
  have hst := run_storeCells_cells (P := P) b o vs 0 w (by simpa [hl] using hc) (by simpa [hl] using hf) h1
  simp only [Nat.add_zero] at hst
  obtain ⟨m, rfl⟩ : ∃ m, n = m + 1 := ⟨n - 1, by omega⟩
  simp [Builtin.clear_, run_underlying ht, hv, hvs, hst]
theorem zeroCells_len (a : Array Value) (n : Nat) : (Builtin.zeroCells a n).toList.length = n * a.size := by simp [Builtin.zeroCells]
theorem cmpZero (w : World) : (zeroValue 53).run Try.prog w = .ok (.agg #[.int .i64 0, .string ByteArray.empty, .bool false, .int .i64 0, .int .i64 0, .int .i64 0, .int .i64 0, .slice none 0 0]) w := by kernel_rfl
theorem zero8_one (n : Nat) : ∀ v ∈ (Builtin.zeroCells (Value.agg #[.int .i64 0, .string ByteArray.empty, .bool false, .int .i64 0, .int .i64 0, .int .i64 0, .int .i64 0, .slice none 0 0]).cells n).toList, v.oneCell' = true := by
  intro v hv
  simp only [Builtin.zeroCells, Array.toList_map, List.mem_map] at hv
  obtain ⟨i, _, rfl⟩ := hv
  have hc : i % 8 = 0 ∨ i % 8 = 1 ∨ i % 8 = 2 ∨ i % 8 = 3 ∨ i % 8 = 4 ∨ i % 8 = 5 ∨ i % 8 = 6 ∨ i % 8 = 7 := by omega
  have e : (Value.agg #[.int .i64 0, .string ByteArray.empty, .bool false, .int .i64 0, .int .i64 0, .int .i64 0, .int .i64 0, .slice none 0 0]).cells.size = 8 := rfl
  rw [e]
  rcases hc with h | h | h | h | h | h | h | h <;> rw [h] <;> rfl

/-! ### The closure. -/
/-- The map that a closure has captured. -/
def MapAt (w : World) (B b n : Nat) (S : List Pl) : Prop := B < w.heap.size ∧ w.cell? ⟨B, 0, none⟩ = some (.map (some b)) ∧ PlMap w b n S
theorem MapAt.below {w w' : World} {B b n : Nat} {S : List Pl} (h : MapAt w B b n S) (hb : Below w.heap.size w w') : MapAt w' B b n S :=
  ⟨Nat.lt_of_lt_of_le h.1 hb.size, (hb.cell (p := ⟨B, 0, none⟩) h.1).trans h.2.1, h.2.2.below hb⟩
set_option maxRecDepth 100000 in
set_option maxHeartbeats 1000000 in
theorem impl_PruneStore1 (x0 : Int) (x1 : Bs) (x2 : Bool) (x3 x4 x5 x6 : Int) (bv : Value) (B b n : Nat) (S : List Pl) (w : World) (hp : MapAt w B b n S) (h0 : 0 ≤ x0 ∧ x0 ≤ 2) (hn : x1.length ≤ 8000000) :
    Calls Try.prog 67 #[.agg #[.int .i64 x0, .string (mk x1), .bool x2, .int .i64 x3, .int .i64 x4, .int .i64 x5, .int .i64 x6, bv], .pointer (some ⟨B, 0, none⟩)] w
      fun e w' => e = .returned (.bool (!decide (srcPlace (x0, x1, x2) ∈ S))) ∧ Below w.heap.size w w' := by
  have Hm := Lib.hid (fun W => impl_placeOfSource x0 x1 x2 x3 x4 x5 x6 bv W hn)
  have hok := okPl_src (x2 := x2) h0 hn
  obtain ⟨c, hcd⟩ : ∃ c, c = decide (srcPlace (x0, x1, x2) ∈ S) := ⟨_, rfl⟩
  rw [← hcd]
  have Hget := Lib.hid (fun (W : World) (hW : PlMap W b n S) => (show (Instr.lookup 86 (.map (some b)) (plVal (srcPlace (x0, x1, x2))) false).run Try.prog W = .ok (.bool c) W by rw [hcd]; exact hW.get _ hok))
  clear hcd hok
  obtain ⟨⟨sr, sp, sn, si⟩, hsp⟩ : ∃ s, s = srcPlace (x0, x1, x2) := ⟨_, rfl⟩
  rw [← hsp] at Hm Hget
  clear hsp
  obtain ⟨hB, hc, hpl⟩ := hp
  have Hpl := Lib.hid hpl
  unfold plVal at Hm Hget
  dsimp only at Hm Hget
  clear hpl
  go_enter Try.func67, Try.ntmps67
  go_wp2_with fail
  have hx := Boxed.start w #[.int .i64 x0, .string (mk x1), .bool x2, .int .i64 x3, .int .i64 x4, .int .i64 x5, .int .i64 x6, bv] 53
  obtain ⟨W1, hW1⟩ : ∃ W1, W1 = w.alloc (.cells #[.int .i64 x0, .string (mk x1), .bool x2, .int .i64 x3, .int .i64 x4, .int .i64 x5, .int .i64 x6, bv] 53) := ⟨_, rfl⟩
  rw [← hW1] at hx ⊢
  have hb := hx.below
  have k0 := cell_regrown (show W1.cell? ⟨w.heap.size, 0, none⟩ = some (.int .i64 x0) from hx.cell 0)
  have k1 := cell_regrown (show W1.cell? ⟨w.heap.size, 1, none⟩ = some (.string (mk x1)) from hx.cell 1)
  have k2 := cell_regrown (show W1.cell? ⟨w.heap.size, 2, none⟩ = some (.bool x2) from hx.cell 2)
  have k3 := cell_regrown (show W1.cell? ⟨w.heap.size, 3, none⟩ = some (.int .i64 x3) from hx.cell 3)
  have k4 := cell_regrown (show W1.cell? ⟨w.heap.size, 4, none⟩ = some (.int .i64 x4) from hx.cell 4)
  have k5 := cell_regrown (show W1.cell? ⟨w.heap.size, 5, none⟩ = some (.int .i64 x5) from hx.cell 5)
  have k6 := cell_regrown (show W1.cell? ⟨w.heap.size, 6, none⟩ = some (.int .i64 x6) from hx.cell 6)
  have k7 := cell_regrown (show W1.cell? ⟨w.heap.size, 7, none⟩ = some bv from hx.cell 7)
  have j1 := cell_regrown ((hb.cell (p := ⟨B, 0, none⟩) hB).trans hc)
  have Hb := Lib.hid hb
  have qL : ∀ d os, (Instr.lookup 86 (.map (some b)) (.agg #[.int .i64 sr, .string (mk sp), .string (mk sn), .bool si]) false).run Try.prog (grow (redrawn W1 d) os) = .ok (.bool c) (grow (redrawn W1 d) os) := fun d os =>
    Hget.out _ ((Hpl.out.below Hb.out).below (below_regrown W1 d os))
  clear hx hb hW1 hc
  have cP : ∀ d os, Calls Try.prog 68 #[.agg #[.int .i64 x0, .string (mk x1), .bool x2, .int .i64 x3, .int .i64 x4, .int .i64 x5, .int .i64 x6, bv]] (grow (redrawn W1 d) os) fun e w'' => e = .returned (.agg #[.int .i64 sr, .string (mk sp), .string (mk sn), .bool si]) ∧ ∃ p : Regrown, w'' = grow (redrawn W1 p.d) p.os := fun d os =>
    Calls.regrown_of (Hm.out (grow (redrawn W1 d) os))
  refine wp_region_quiet_below (by kernel_rfl) (by kernel_rfl) ?_
  repeat (go_big_quiet_step (exact cP _ _))
  refine wpQuiet_nil ?_
  intro _ hw'
  obtain ⟨⟨dq, osq⟩, hw2⟩ := hw'
  subst hw2
  have Hb7 := Lib.hid (bt Hb.out (below_regrown W1 dq osq))
  clear cP k0 k1 k2 k3 k4 k5 k6 k7 j1 qL
  go_wp2_with fail
  go_ret
  exact ⟨rfl, Hb7.out⟩

/-! ### The functions of slices. -/
/-- What a store's rows need, so that their places can be told. -/
def TellC (ps : List (Cmp × Value)) : Prop := ∀ p ∈ ps, (0 ≤ p.1.root ∧ p.1.root ≤ 2) ∧ p.1.module.length ≤ 8000000
set_option maxRecDepth 100000 in
set_option maxHeartbeats 1000000 in
theorem slices_IndexP (W : World) (B b n : Nat) (S : List Pl) (a : Option Addr) (ca : Nat) (xs : List (Cmp × Value)) (w : World) (hW : Below W.heap.size W w) (hmp : MapAt W B b n S) (ht : TellC xs)
    (hown : OwnCmps w W.heap.size (.slice a xs.length ca) xs) (hn : xs.length ≤ 1000000) :
    Calls Try.prog 122 #[.slice a xs.length ca, .func (.func 67) #[] #[.pointer (some ⟨B, 0, none⟩)]] w
      fun e w' => (∃ r : Nat, r ≤ xs.length ∧ e = .returned (.int .i64 (if r = xs.length then -1 else r)) ∧ (∀ j (h : j < xs.length), j < r → keepP S xs[j] = true) ∧ (∀ h : r < xs.length, keepP S xs[r] = false)) ∧ Below w.heap.size w w' := by
  have Hmp := Lib.hid hmp
  have HW := Lib.hid hW
  have Ht := Lib.hid ht
  have Hown := Lib.hid hown
  clear hmp hW ht hown
  go_enter Try.func122, Try.ntmps122
  go_wp2_with fail
  go_loopw [8] (fun iv wr => ∃ k : Nat, k ≤ xs.length ∧ iv = .int .i64 k ∧ Below w.heap.size w wr ∧ ∀ j (h : j < xs.length), j < k → keepP S xs[j] = true) (fun iv _ => xs.length - (intOf iv).toNat)
  case atStart => exact ⟨0, by omega, rfl, Below.refl _ _, fun i _ h => absurd h (by omega)⟩
  case round =>
    obtain ⟨k, hk, rfl, hbel, ha⟩ := hrel
    have Ha := Lib.hid ha
    clear ha
    by_cases hlt : k < xs.length
    · have Hbel := Lib.hid hbel
      have hrow := (Hown.out.below hbel).1
      obtain ⟨g, cap, e1, hg, hg2⟩ := hrow.form (by omega)
      simp only [Value.slice.injEq] at e1
      obtain ⟨rfl, _, rfl⟩ := e1
      obtain ⟨⟨c0, c1, c2, c3, c4, c5, c6, c7⟩, _⟩ := own8 hrow k hlt
      have htl := Ht.out _ (List.getElem_mem hlt)
      obtain ⟨ab, cb, hsh⟩ := owns_shape ((Hown.out.below hbel).2.1 _ (List.getElem_mem hlt))
      have Hn := Lib.hid (fun (h : keepP S xs[k] = true) j (hj : j < xs.length) (hjk : j < k + 1) => (by
        by_cases e : j = k
        · subst e; exact h
        · exact Ha.out j hj (by omega) : keepP S xs[j] = true))
      clear hrow hbel
      obtain ⟨p, hs⟩ : ∃ p, p = xs[k] := ⟨_, rfl⟩
      rw [← hs] at c0 c1 c2 c3 c4 c5 c6 c7 htl hsh
      have Hs := Lib.hid hs
      clear hs
      obtain ⟨⟨x0, x1, x2, x3, x4, x5, x6, fb⟩, bv⟩ := p
      dsimp only at c0 c1 c2 c3 c4 c5 c6 c7 htl hsh
      subst hsh
      obtain ⟨ht0, ht1⟩ := htl
      have Ht0 := Lib.hid ht0
      clear ht0
      cases hq : keepP S (⟨x0, x1, x2, x3, x4, x5, x6, fb⟩, .slice ab fb.length cb)
      · have Hq := Lib.hid hq
        have Hd := Lib.hid (show decide (srcPlace (x0, x1, x2) ∈ S) = false from hq)
        clear hq
        go_wp2_with (go_at_call 67; refine (impl_PruneStore1 _ _ _ _ _ _ _ _ B b n S _ (Hmp.out.below (bt HW.out (bt Hbel.out (by (repeat (with_reducible first | exact Below.refl _ _ | assumption | refine ba ?_ _ | refine bd ?_ | refine bdN ?_ _ | refine bs ?_ (by first | exact Nat.le_refl _ | (dsimp only; omega) | (simp; done)) _ | refine bt ?_ (by assumption))))))) Ht0.out ht1).mono ?_; rintro _ w6 ⟨rfl, hb6⟩; rw [Hd.out])
        go_ret
        refine ⟨⟨k, by omega, ?_, fun j h1 h2 => Ha.out j h1 h2, fun h => by rw [← Hs.out]; exact Hq.out⟩, bt Hbel.out (by (repeat (with_reducible first | exact Below.refl _ _ | assumption | refine ba ?_ _ | refine bd ?_ | refine bdN ?_ _ | refine bs ?_ (by first | exact Nat.le_refl _ | (dsimp only; omega) | (simp; done)) _ | refine bt ?_ (by assumption))))⟩
        rw [if_neg (by omega)]; rfl
      · have Hq := Lib.hid hq
        have Hd := Lib.hid (show decide (srcPlace (x0, x1, x2) ∈ S) = true from hq)
        clear hq
        go_wp2_with (go_at_call 67; refine (impl_PruneStore1 _ _ _ _ _ _ _ _ B b n S _ (Hmp.out.below (bt HW.out (bt Hbel.out (by (repeat (with_reducible first | exact Below.refl _ _ | assumption | refine ba ?_ _ | refine bd ?_ | refine bdN ?_ _ | refine bs ?_ (by first | exact Nat.le_refl _ | (dsimp only; omega) | (simp; done)) _ | refine bt ?_ (by assumption))))))) Ht0.out ht1).mono ?_; rintro _ w6 ⟨rfl, hb6⟩; rw [Hd.out])
        go_roundw
        case rel => exact ⟨k + 1, by omega, by go_num, bt Hbel.out (by (repeat (with_reducible first | exact Below.refl _ _ | assumption | refine ba ?_ _ | refine bd ?_ | refine bdN ?_ _ | refine bs ?_ (by first | exact Nat.le_refl _ | (dsimp only; omega) | (simp; done)) _ | refine bt ?_ (by assumption)))), Hn.out (by rw [← Hs.out]; exact Hq.out)⟩
        case measure => simp [intOf]; omega
    · obtain rfl : k = xs.length := by omega
      go_wp2_with fail
      go_ret
      exact ⟨⟨xs.length, Nat.le_refl _, by rw [if_pos rfl]; rfl, fun j h1 h2 => Ha.out j h1 h2, fun h => absurd h (by omega)⟩, hbel⟩
set_option maxRecDepth 100000 in
set_option maxHeartbeats 4000000 in
theorem slices_DeleteP (W : World) (B b n : Nat) (S : List Pl) (a : Option Addr) (ca : Nat) (xs : List (Cmp × Value)) (w : World) (hW : Below W.heap.size W w) (hmp : MapAt W B b n S) (ht : TellC xs)
    (hown : OwnCmps w W.heap.size (.slice a xs.length ca) xs) (hn : xs.length ≤ 1000000) :
    Calls Try.prog 65 #[.slice a xs.length ca, .func (.func 67) #[] #[.pointer (some ⟨B, 0, none⟩)]] w
      fun e w' => (∃ v', e = .returned v' ∧ OwnCmps w' W.heap.size v' (xs.filter (keepP S))) ∧ Below W.heap.size W w' := by
  have Hmp := Lib.hid hmp
  have HW := Lib.hid hW
  have Ht := Lib.hid ht
  have Hown := Lib.hid hown
  clear hmp hW ht hown
  by_cases hall : ∀ s ∈ xs, keepP S s = true
  · have Hall := Lib.hid hall
    clear hall
    go_enter Try.func65, Try.ntmps65
    go_wp2_with (go_at_call 122; refine (slices_IndexP W B b n S a ca xs _ HW.out Hmp.out Ht.out Hown.out hn).mono ?_; rintro _ w5 ⟨⟨r, hrn, rfl, hr1, hr2⟩, hb5⟩; have hre : r = xs.length := Classical.byContradiction (fun h => by have h1 := hr2 (by omega); rw [Hall.out _ (List.getElem_mem (by omega))] at h1; cases h1); rw [if_pos hre]; have Hb5 := Lib.hid (bt HW.out hb5); have Hown5 := Lib.hid (Hown.out.below hb5); clear hr1 hr2 hb5)
    go_ret
    exact ⟨⟨_, rfl, by rw [List.filter_eq_self.2 Hall.out]; exact Hown5.out⟩, Hb5.out⟩
  · have Hno := Lib.hid hall
    clear hall
    go_enter Try.func65, Try.ntmps65
    go_wp2_with (go_at_call 122; refine (slices_IndexP W B b n S a ca xs _ HW.out Hmp.out Ht.out Hown.out hn).mono ?_; rintro _ w5 ⟨⟨r, hrn, rfl, hr1, hr2⟩, hb5⟩; have hre : r < xs.length := Classical.byContradiction (fun h => Hno.out (fun s hs => by obtain ⟨j, hj, e⟩ := List.getElem_of_mem hs; rw [← e]; exact hr1 j hj (by omega))); have hrm : ((r : Int) == -1) = false := (by rw [beq_eq_false_iff_ne]; omega); rw [if_neg (by omega)]; have Hb5 := Lib.hid (bt HW.out hb5); have Hown5 := Lib.hid (Hown.out.below hb5); have Hr1 := Lib.hid hr1; have Hr2 := Lib.hid hr2; clear hr1 hr2 hb5)
    obtain ⟨g, cap, e1, hg, hg2⟩ := Hown5.out.1.form (by omega)
    simp only [Value.slice.injEq] at e1
    obtain ⟨rfl, _, rfl⟩ := e1
    clear Hown HW
    have Hst := Lib.hid (show xs.take r = (xs.take (r + 1)).filter (keepP S) by
      rw [filter_snoc' _ xs r hre, if_neg (by rw [Hr2.out hre]; simp), List.append_nil]
      exact (List.filter_eq_self.2 (fun x hx => by
        obtain ⟨j, hj, e⟩ := List.getElem_of_mem hx
        rw [List.length_take] at hj
        rw [List.getElem_take] at e
        rw [← e]; exact Hr1.out j (by omega) (by omega))).symm)
    have Hgg := Lib.hid hg
    go_loopw [5, 6] (fun mv iv wr => ∃ (m i : Nat) (ys : List (Cmp × Value)), m < i ∧ i ≤ xs.length ∧ mv = .int .i64 m ∧ iv = .int .i64 i ∧ ys.length = xs.length ∧ ys.take m = (xs.take i).filter (keepP S) ∧ ys.drop i = xs.drop i ∧ wr.ownsRow W.heap.size 53 8 (.slice (some ⟨g, 0, none⟩) xs.length ca) xs.length (ys.flatMap cmpCells) ∧ OwnCmpBodies wr W.heap.size xs ∧ Below W.heap.size W wr) (fun _ iv _ => xs.length - (intOf iv).toNat)
    case atStart => exact ⟨r, r + 1, xs, by omega, by omega, rfl, by go_num, rfl, Hst.out, rfl, Hown5.out.1, Hown5.out.2, Hb5.out⟩
    case round =>
      obtain ⟨m, i, ys, hmi, hi, rfl, rfl, hl, h1, h2, hown, hbods, hbel⟩ := hrel
      have Hown := Lib.hid hown
      have Hbods := Lib.hid hbods
      have Hbel := Lib.hid hbel
      have H1 := Lib.hid h1
      have H2 := Lib.hid h2
      have Hl := Lib.hid hl
      clear h1 h2 Hst Hr1 Hr2 Hown5 Hb5 hl hre hrn hrm hbods
      by_cases hlt : i < xs.length
      · have hly : i < ys.length := by rw [Hl.out]; exact hlt
        obtain ⟨⟨c0, c1, c2, c3, c4, c5, c6, c7⟩, _⟩ := own8 hown i hly
        rw [keep_hereG hlt Hl.out H2.out] at c0 c1 c2 c3 c4 c5 c6 c7
        have htl := Ht.out _ (List.getElem_mem hlt)
        obtain ⟨ab, cb, hsh⟩ := owns_shape (Hbods.out.1 _ (List.getElem_mem hlt))
        have Hyes := Lib.hid (fun h => keep_setG (q := keepP S) hmi hlt Hl.out H1.out H2.out h)
        have Hnot := Lib.hid (fun h => keep_notG (q := keepP S) hlt H1.out H2.out h)
        have hgl := (hown.lt g rfl).2
        clear hown hbel hly
        obtain ⟨p, hs⟩ : ∃ p, p = xs[i] := ⟨_, rfl⟩
        rw [← hs] at c0 c1 c2 c3 c4 c5 c6 c7 htl hsh Hyes Hnot
        clear hs
        obtain ⟨⟨x0, x1, x2, x3, x4, x5, x6, fb⟩, bv⟩ := p
        dsimp only at c0 c1 c2 c3 c4 c5 c6 c7 htl hsh
        subst hsh
        obtain ⟨ht0, ht1⟩ := htl
        have Ht0 := Lib.hid ht0
        have hi1 : (i : Int) < (xs.length : Int) := by omega
        have hi0 : (0 : Int) ≤ (i : Int) := by omega
        have hm1 : (m : Int) < (xs.length : Int) := by omega
        have hm0 : (0 : Int) ≤ (m : Int) := by omega
        have Hb5 := Lib.hid (Boxed.start wr #[.int .i64 x0, .string (mk x1), .bool x2, .int .i64 x3, .int .i64 x4, .int .i64 x5, .int .i64 x6, .slice ab fb.length cb] 53)
        clear ht0
        cases hq : keepP S (⟨x0, x1, x2, x3, x4, x5, x6, fb⟩, .slice ab fb.length cb)
        · have Hq := Lib.hid hq
          have Hd := Lib.hid (show decide (srcPlace (x0, x1, x2) ∈ S) = false from hq)
          have Hn2 := Lib.hid (Hnot.out hq)
          clear hq
          go_wp2_with (go_at_call 67; refine (impl_PruneStore1 _ _ _ _ _ _ _ _ B b n S _ (Hmp.out.below (bt Hbel.out (by (repeat (with_reducible first | exact Below.refl _ _ | assumption | refine ba ?_ _ | refine bd ?_ | refine bdN ?_ _ | refine bs ?_ (by first | exact Nat.le_refl _ | (dsimp only; omega) | (simp; done)) _ | refine bt ?_ (by assumption)))))) Ht0.out ht1).mono ?_; rintro _ w6 ⟨rfl, hb6⟩; rw [Hd.out]; have Hx6 := Lib.hid (Hb5.out.step hb6))
          go_roundw
          case rel => exact ⟨m, i + 1, ys, by omega, by omega, rfl, by go_num, Hl.out, Hn2.out.1, Hn2.out.2, owns_below Hown.out Hx6.out.below, Hbods.out.below Hx6.out.below, bt Hbel.out Hx6.out.below⟩
          case measure => simp [intOf]; omega
        · have Hq := Lib.hid hq
          have Hd := Lib.hid (show decide (srcPlace (x0, x1, x2) ∈ S) = true from hq)
          have Hy2 := Lib.hid (Hyes.out hq)
          clear hq
          have hme : m < ys.length := by rw [Hl.out]; omega
          go_wp2_with (go_at_call 67; refine (impl_PruneStore1 _ _ _ _ _ _ _ _ B b n S _ (Hmp.out.below (bt Hbel.out (by (repeat (with_reducible first | exact Below.refl _ _ | assumption | refine ba ?_ _ | refine bd ?_ | refine bdN ?_ _ | refine bs ?_ (by first | exact Nat.le_refl _ | (dsimp only; omega) | (simp; done)) _ | refine bt ?_ (by assumption)))))) Ht0.out ht1).mono ?_; rintro _ w6 ⟨rfl, hb6⟩; rw [Hd.out]; have Hx6 := Lib.hid (Hb5.out.step hb6); obtain ⟨d0, d1, d2, d3, d4, d5, d6, d7⟩ := eight_of Hx6.out; obtain ⟨⟨e0, e1, e2, e3, e4, e5, e6, e7⟩, z0, z1, z2, z3, z4, z5, z6, z7⟩ := own8 (owns_below Hown.out Hx6.out.below) m hme)
          have Hr6 := Lib.hid (owns_below Hown.out Hx6.out.below)
          have Hput := Lib.hid (own8_put Hr6.out m hme (⟨x0, x1, x2, x3, x4, x5, x6, fb⟩, .slice ab fb.length cb))
          have Hg8 := Lib.hid (grown_set8 (grown_set8 (grown_set8 (grown_set8 (grown_set8 (grown_set8 (grown_set8 (grown_set8 (pb_refl w6 (some g)) (m * 8) (.int .i64 x0)) (m * 8 + 1) (.string (mk x1))) (m * 8 + 2) (.bool x2)) (m * 8 + 3) (.int .i64 x3)) (m * 8 + 4) (.int .i64 x4)) (m * 8 + 5) (.int .i64 x5)) (m * 8 + 6) (.int .i64 x6)) (m * 8 + 7) (.slice ab fb.length cb))
          have Hbx := Lib.hid (Hbods.out.below Hx6.out.below)
          have Hbw := Lib.hid ((bt Hbel.out Hx6.out.below).grown Hg8.out (bt Hbel.out Hx6.out.below).size (fun k e => by cases e; exact Hgg.out))
          go_roundw
          case rel => exact ⟨m + 1, i + 1, ys.set m (⟨x0, x1, x2, x3, x4, x5, x6, fb⟩, .slice ab fb.length cb), by omega, by omega, by go_num, by go_num, by rw [List.length_set]; exact Hl.out, Hy2.out.1, Hy2.out.2, Hput.out, cbods_grown Hbx.out Hg8.out (fun b hb p hp => own_types (by decide) Hr6.out (Hbx.out.1 p hp) hb), Hbw.out⟩
          case measure => simp [intOf]; omega
      · obtain rfl : i = xs.length := by omega
        have hlc : xs.length ≤ ca := by
          rcases hown.2 with ⟨h', _⟩ | ⟨g', cap', cur, h', _, _, hnc, _⟩
          · simp at h'
          · simp only [Value.slice.injEq, Option.some.injEq, Addr.mk.injEq, and_true, true_and] at h'
            obtain ⟨rfl, rfl⟩ := h'
            exact hnc
        have hmc : ¬ ca = m := by omega
        have hmca : (m : Int) ≤ (ca : Int) := by omega
        have hfl := fm_len cmpCells 8 ys cmpCells_len
        rw [Hl.out] at hfl
        obtain ⟨vs, hvs⟩ : ∃ vs, vs = (Builtin.zeroCells (Value.agg #[.int .i64 0, .string ByteArray.empty, .bool false, .int .i64 0, .int .i64 0, .int .i64 0, .int .i64 0, .slice none 0 0]).cells (xs.length - m)).toList := ⟨_, rfl⟩
        have hvl : vs.length = (xs.length - m) * 8 := by rw [hvs, zeroCells_len]; rfl
        have hcl : ∀ ty, (Builtin.clear_ #[28] ty #[.slice (some ⟨g, m * 8, none⟩) (xs.length - m) (ca - m)]).run Try.prog wr = .ok (.tuple #[]) (wr.setCells g (m * 8) vs) := fun ty =>
          run_clear_cells wr _ _ ty _ Try.underlying28 cmpZero g (m * 8) _ _ ((xs.length - m) * 8) (by omega) vs hvs.symm hvl (by rw [hvs]; exact zero8_one _) (fun j hj => by rw [hown.cellAt (m * 8 + j) (by omega), List.getElem?_eq_getElem (by omega)]; rfl) (fun j hj => hown.frozenAt (m * 8 + j))
        have Hcell := Lib.hid (owns_cellsP vs (m * 8) wr _ hown (by omega))
        have Hvl := Lib.hid hvl
        have Hfl := Lib.hid hfl
        clear hown hbel hvs hvl hfl
        go_wp2_with fail
        go_ret
        have h1 := H1.out
        rw [List.take_length] at h1
        have hfm : (xs.filter (keepP S)).length = m := by rw [← h1, List.length_take, Hl.out]; omega
        have hfr := owns_frontP Hcell.out m (by omega)
        have htk : (ys.flatMap cmpCells).take (m * 8) = (xs.filter (keepP S)).flatMap cmpCells := by
          have hA := fm_take_len cmpCells 8 ys m (by rw [Hl.out]; omega) cmpCells_len
          have e2 := fm_split cmpCells ys m (by rw [Hl.out]; omega)
          rw [← h1, e2, List.take_left' hA]
        rw [List.take_append_of_le_length (by rw [List.length_take, Hfl.out]; omega), List.take_take, Nat.min_self, htk] at hfr
        have hbs := below_tailP (Nat.le_refl g) vs (m * 8) (Below.refl g wr)
        have hgs : wr.grownBy (wr.setCells g (m * 8) vs) (some g) := ⟨hbs.os, hbs.tape, hbs.output, hbs.size, fun j _ hne => heap_setCellsP g vs (m * 8) wr j (fun e => hne (by rw [e]))⟩
        refine ⟨⟨_, rfl, ?_, ?_⟩, below_tailP hg _ _ Hbel.out⟩
        · rw [hfm]; exact hfr
        · exact (cbods_grown Hbods.out hgs (fun b hb p hp => own_types (by decide) Hown.out (Hbods.out.1 p hp) hb)).filter _
set_option maxRecDepth 100000 in
set_option maxHeartbeats 4000000 in
theorem impl_PruneStore (lv : Value) (cs : List Cmp) (qs : List (Cmp × Value)) (Bc : Nat) (v : Value) (fs : List Fil) (ps : List (Fil × Value)) (B : Nat) (w : World) (hq : RowsC8 w Bc lv qs) (hqs : qs.map (·.1) = cs) (hz : ShortCs 1048576 cs) (hl : cmpsCost' cs) (h : RowsFB w B v ps) (hps : ps.map (·.1) = fs) (hfz : ShortT 1048576 fs) (hfl : filsCost' fs) :
    Calls Try.prog 19 #[lv, .agg #[v]] w (NewCmps (prune cs fs) w) := by
  subst hps hqs
  have HQ := Lib.hid hq
  have Hr := Lib.hid (hq.fils (D := fun _ => True) (fun _ _ => trivial))
  have Hz20 := Lib.hid (shortCs_mono (B := 2000000) (by omega) hz)
  have Hlc := Lib.hid hl
  have HF := Lib.hid (h.fils (D := fun _ => True) (fun _ _ => trivial))
  have Hfz8 := Lib.hid (shortT_mono (B := 8000000) (by omega) hfz)
  obtain ⟨la, lc, rfl⟩ := hq.len
  obtain ⟨aa, ca, rfl⟩ := h.len
  have Hqn := Lib.hid (show qs.length ≤ 1048576 by have := hl.1; simpa using this)
  have Hqb := Lib.hid (fun (p : Cmp × Value) (hp : p ∈ qs) => hl.2 _ (List.mem_map.2 ⟨p, hp, rfl⟩))
  clear hq hz hl h hfz hfl
  have Hb0 := Lib.hid (Boxed.start w #[.slice aa ps.length ca] 33)
  cases h1 : okStore (qs.map (·.1))
  · have H1 := Lib.hid h1
    have Hs := Lib.hid (prune_none (cs := qs.map (·.1)) (t := ps.map (·.1)) (by rw [h1]; rfl))
    clear h1
    go_enter Try.func19, Try.ntmps19
    go_wp2_with (go_at_call 31; refine (impl_ValidStore _ (qs.map (·.1)) _ _ (Hr.out.below (by (repeat (with_reducible first | exact Below.refl _ _ | assumption | refine ba ?_ _ | refine bd ?_ | refine bdN ?_ _ | refine bs ?_ (by first | exact Nat.le_refl _ | (dsimp only; omega) | (simp; done)) _ | refine bt ?_ (by assumption))))) Hz20.out).mono ?_; rintro _ w5 ⟨rfl, hb5⟩; rw [H1.out])
    go_ret
    exact newCmps_none Hs.out (by (repeat (with_reducible first | exact Below.refl _ _ | assumption | refine ba ?_ _ | refine bd ?_ | refine bdN ?_ _ | refine bs ?_ (by first | exact Nat.le_refl _ | (dsimp only; omega) | (simp; done)) _ | refine bt ?_ (by assumption))))
  cases h2 : okTree (ps.map (·.1))
  · have H1 := Lib.hid h1
    have H2 := Lib.hid h2
    have Hs := Lib.hid (prune_none (cs := qs.map (·.1)) (t := ps.map (·.1)) (by rw [h2, Bool.and_false]))
    clear h1 h2
    go_enter Try.func19, Try.ntmps19
    go_wp2_with (first
      | (go_at_call 31; refine (impl_ValidStore _ (qs.map (·.1)) _ _ (Hr.out.below (by (repeat (with_reducible first | exact Below.refl _ _ | assumption | refine ba ?_ _ | refine bd ?_ | refine bdN ?_ _ | refine bs ?_ (by first | exact Nat.le_refl _ | (dsimp only; omega) | (simp; done)) _ | refine bt ?_ (by assumption))))) Hz20.out).mono ?_; rintro _ w5 ⟨rfl, hb5⟩; rw [H1.out]; have Hx5 := Lib.hid (Hb0.out.step hb5); have x0 : w5.cell? ⟨w.heap.size, 0, none⟩ = some (.slice aa ps.length ca) := Hx5.out.cell 0; have xs := Hx5.out.lt)
      | (go_at_call 51; refine (impl_ValidTree _ _ _ _ (HF.out.below (by have := Hx5.out.below; (repeat (with_reducible first | exact Below.refl _ _ | assumption | refine ba ?_ _ | refine bd ?_ | refine bdN ?_ _ | refine bs ?_ (by first | exact Nat.le_refl _ | (dsimp only; omega) | (simp; done)) _ | refine bt ?_ (by assumption))))) Hfz8.out).mono ?_; rintro _ w6 ⟨rfl, hb6⟩; rw [H2.out]))
    go_ret
    exact newCmps_none Hs.out (bt Hx5.out.below hb6)
  have H1 := Lib.hid h1
  have H2 := Lib.hid h2
  have Hs := Lib.hid (prune_at h1 h2)
  have h12 : ps.length ≤ 12 := by have := (okTree_all h2).2.2; simpa using this
  have hq12 : qs.length ≤ 12 := by have := (okStore_facts h1).2.2; simpa using this
  have Hpls := Lib.hid (okPls_of (okTree_all h2).1)
  have Htl := Lib.hid (fun (ns : List (Cmp × Value)) (e : ns.map (·.1) = qs.map (·.1)) => tell_of (ps := ns) (by rw [e]; exact h1))
  have Hmk := Lib.hid (fun (ns : List (Cmp × Value)) (e : ns.map (·.1) = qs.map (·.1)) => (show (ns.filter (keepP (dedup ((ps.map (·.1)).map place)))).map (·.1) = prune (qs.map (·.1)) (ps.map (·.1)) by
    rw [prune_at h1 h2, ← e]
    exact map_keep h2 (fun c hc => okCmp_vn ((okStore_facts h1).1 c (by rw [← e]; exact hc)))))
  have hmf : ∀ (fn : Fn) (first cap : Array Value) (w : World), (Instr.makeFunc fn first cap).run Try.prog w = .ok (.func fn first cap) w := fun _ _ _ _ => rfl
  clear h1 h2
  go_enter Try.func19, Try.ntmps19
  go_wp2_with (first
    | (go_at_call 31; refine (impl_ValidStore _ (qs.map (·.1)) _ _ (Hr.out.below (by (repeat (with_reducible first | exact Below.refl _ _ | assumption | refine ba ?_ _ | refine bd ?_ | refine bdN ?_ _ | refine bs ?_ (by first | exact Nat.le_refl _ | (dsimp only; omega) | (simp; done)) _ | refine bt ?_ (by assumption))))) Hz20.out).mono ?_; rintro _ w5 ⟨rfl, hb5⟩; rw [H1.out]; have Hx5 := Lib.hid (Hb0.out.step hb5); have x0 : w5.cell? ⟨w.heap.size, 0, none⟩ = some (.slice aa ps.length ca) := Hx5.out.cell 0; have xs := Hx5.out.lt)
    | (go_at_call 51; refine (impl_ValidTree _ _ _ _ (HF.out.below (by have := Hx5.out.below; (repeat (with_reducible first | exact Below.refl _ _ | assumption | refine ba ?_ _ | refine bd ?_ | refine bdN ?_ _ | refine bs ?_ (by first | exact Nat.le_refl _ | (dsimp only; omega) | (simp; done)) _ | refine bt ?_ (by assumption))))) Hfz8.out).mono ?_; rintro _ w6 ⟨rfl, hb6⟩; rw [H2.out]; have Hx6 := Lib.hid (Hx5.out.step hb6); have hz6 := Hx6.out.lt; have y0 : w6.cell? ⟨w.heap.size, 0, none⟩ = some (.slice aa ps.length ca) := Hx6.out.cell 0)
    | (go_at_call 64; refine (impl_placesOf _ (ps.map (·.1)) _ _ (HF.out.below (by have := Hx6.out.below; (repeat (with_reducible first | exact Below.refl _ _ | assumption | refine ba ?_ _ | refine bd ?_ | refine bdN ?_ _ | refine bs ?_ (by first | exact Nat.le_refl _ | (dsimp only; omega) | (simp; done)) _ | refine bt ?_ (by assumption))))) Hpls.out (by rw [List.length_map]; omega)).mono ?_; rintro _ w7 ⟨b, rfl, hb, hpl7, hb7⟩; have Hx7 := Lib.hid (Hx6.out.step hb7); have Hpl7 := Lib.hid hpl7; have hz7 := Hx7.out.lt; clear hpl7)
    | (go_at_call 66; refine (impl_copyStore _ qs Bc _ (HQ.out.below (by have := Hx7.out.below; (repeat (with_reducible first | exact Below.refl _ _ | assumption | refine ba ?_ _ | refine bd ?_ | refine bdN ?_ _ | refine bs ?_ (by first | exact Nat.le_refl _ | (dsimp only; omega) | (simp; done)) _ | refine bt ?_ (by assumption))))) Hqn.out Hqb.out).mono ?_; rintro _ w8 ⟨v8, ns, rfl, hns, hown8, hb8⟩; have Hown8 := Lib.hid hown8; have Hns := Lib.hid hns; have Hb8 := Lib.hid hb8; obtain ⟨a8, c8, hv8⟩ := hown8.len; subst hv8; clear hown8 hns hb8)
    | (go_at_call 65; refine (slices_DeleteP (w7.alloc (.cells #[.map (some b)] 86)) w7.heap.size b (ps.map (·.1)).length _ a8 c8 ns _ Hb8.out ⟨by simp, (BoxC.start w7 #[.map (some b)] 86).2 0, Hpl7.out.below (ba (Below.refl _ _) _)⟩ (Htl.out ns Hns.out) Hown8.out (by have := congrArg List.length Hns.out; simp at this; omega)).mono ?_; rintro _ w9 ⟨⟨v9, rfl, hown9⟩, hb9⟩; have Hown9 := Lib.hid hown9; have Hb9 := Lib.hid hb9; clear hown9 hb9))
  go_ret
  refine ⟨_, _, rfl, Hmk.out ns Hns.out, Hown9.out.mono (by have := Hx7.out.below.size; simp; omega), ?_⟩
  have h7 := Hx7.out.below
  exact (ba h7 (.cells #[.map (some b)] 86)).trans (Hb9.out.mono (by have := h7.size; simp; omega))
theorem prune_fine (cs : List Cmp) (t : List Fil) : (∀ c ∈ prune cs t, okBody c.body = true) ∧ (prune cs t).length ≤ 12 := by
  cases h : (okStore cs && okTree t)
  · rw [prune_none h]; simp
  · simp only [Bool.and_eq_true] at h
    obtain ⟨h1, h2⟩ := h
    rw [prune_at h1 h2]
    obtain ⟨f1, _, f3⟩ := okStore_facts h1
    exact ⟨fun c hc => okCmp_body (f1 c (List.mem_filter.1 hc).1), Nat.le_trans (List.length_filter_le _ _) f3⟩
end Go.Proofs.Ytomdmkhgkaalnaa
