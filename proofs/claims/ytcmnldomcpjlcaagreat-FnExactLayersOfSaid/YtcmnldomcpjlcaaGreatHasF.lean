/- Contract of the program's function that says whether a valid tree has a file with an index. -/
import Derived.Test.YtcmnldomcpjlcaaGreatTrees
import Derived.Test.YtcmnldomcpjlcaaGreatMarks2
import Derived.Test.YtcmnldomcpjlcaaGreatBoth
import Derived.Test.YtcmnldomcpjlcaaGreatExTools
import Derived.Test.YtcmnldomcpjlcaaGreatDirs
import Derived.Test.YtcmnldomcpjlcaaGreatPlainG
import Derived.Maps.AppendAt
import Derived.WalkSpells
import Derived.Deep.RegionWith
import Derived.Deep.RegionLaw
set_option linter.unusedVariables false
set_option linter.unusedSimpArgs false
namespace Go.Proofs.YtcmnldomcpjlcaaGreat
open Go.RowKit Go.Proofs.YtcmnldomcpjlcaaGreat.Nm


/-! ### Contracts of the program's functions that copy trees: with one more file, without one, with one that is edited. -/
/-- The slice v is a row of files, and their bodies are rows of statements: all of them made by make, append or a literal, or nil. -/
def RowsF (w : World) (v : Value) (ps : List (Fil × Value)) : Prop :=
  w.ownsRow 0 79 6 v ps.length (ps.flatMap filCells) ∧ ∀ p ∈ ps, w.ownsRow 0 118 5 p.2 p.1.body.length (p.1.body.flatMap stmCells)
theorem RowsF.of {w : World} {B : Nat} {v : Value} {ps : List (Fil × Value)} (h : OwnFils w B v ps) : RowsF w v ps := ⟨owns_mono h.1 (Nat.zero_le _), fun p hp => owns_mono (h.2.1 p hp) (Nat.zero_le _)⟩
theorem RowsF.below {w w' : World} {v : Value} {ps : List (Fil × Value)} (h : RowsF w v ps) (hb : Below w.heap.size w w') : RowsF w' v ps := ⟨owns_below h.1 hb, fun p hp => owns_below (h.2 p hp) hb⟩
theorem RowsF.fils {w : World} {v : Value} {ps : List (Fil × Value)} (h : RowsF w v ps) : FilsIn w (fun _ => True) v (ps.map (·.1)) := FilsIn.of_owns h.1 (fun _ _ => trivial) (fun p hp => StmsIn.of_owns (h.2 p hp) (fun _ _ => trivial))
theorem RowsF.len {w : World} {v : Value} {ps : List (Fil × Value)} (h : RowsF w v ps) : ∃ a cap, v = .slice a ps.length cap := owns_shape h.1
theorem stm_one (ss : List Stm) : ∀ u ∈ ss.flatMap stmCells, u.oneCell' = true := fun u hu => by
  obtain ⟨s, _, h⟩ := List.mem_flatMap.1 hu
  simp only [stmCells, List.mem_cons, List.not_mem_nil, or_false] at h
  rcases h with rfl | rfl | rfl | rfl | rfl <;> rfl
theorem fil_one (ps : List (Fil × Value)) (hv : ∀ p ∈ ps, ∃ a n c, p.2 = .slice a n c) : ∀ u ∈ ps.flatMap filCells, u.oneCell' = true := fun u hu => by
  obtain ⟨p, hp, h⟩ := List.mem_flatMap.1 hu
  obtain ⟨a, n, c, e⟩ := hv p hp
  simp only [filCells, List.mem_cons, List.not_mem_nil, or_false] at h
  rcases h with rfl | rfl | rfl | rfl | rfl | rfl
  all_goals first | rfl | (rw [e]; rfl)
theorem box_free {w wr : World} {cs : Array Value} {T : TypeId} (h : Boxed w cs T wr) (i : Nat) : wr.frozen? ⟨w.heap.size, i, none⟩ = false := by
  have := h.frozen (p := ⟨w.heap.size, i, none⟩) (by simp)
  rw [this]; simp [go_sem]
theorem six_of {w wr : World} {c0 c1 c2 c3 c4 c5 : Value} {T : TypeId} (h : Boxed w #[c0, c1, c2, c3, c4, c5] T wr) :
    wr.cell? ⟨w.heap.size, 0, none⟩ = some c0 ∧ wr.cell? ⟨w.heap.size, 1, none⟩ = some c1 ∧ wr.cell? ⟨w.heap.size, 2, none⟩ = some c2 ∧ wr.cell? ⟨w.heap.size, 3, none⟩ = some c3 ∧ wr.cell? ⟨w.heap.size, 4, none⟩ = some c4 ∧ wr.cell? ⟨w.heap.size, 5, none⟩ = some c5 :=
  ⟨h.cell 0, h.cell 1, h.cell 2, h.cell 3, h.cell 4, h.cell 5⟩
theorem keepIn_snoc (fs : List Fil) (S : List Pl) (k : Nat) (h : k < fs.length) : keepIn (fs.take (k + 1)) S = keepIn (fs.take k) S ++ (if place fs[k] ∈ S then [fs[k]] else []) := by
  unfold keepIn
  rw [List.take_succ_eq_append_getElem h, List.filter_append]
  by_cases e : place fs[k] ∈ S <;> simp [e]
theorem below2_of {w wr W w7 : World} {cs ds : Array Value} {T U : TypeId} {row : Option Nat} (h : Boxed2 w cs T ds U wr) (hb : Below wr.heap.size wr W) (hg : W.grownBy w7 row) (hr : ∀ g, row = some g → w.heap.size + 2 ≤ g) : Boxed2 w cs T ds U w7 :=
  (h.step hb).grown hg (h.step hb).size (fun g e => by simpa using hr g e)

theorem owns_set_other {w : World} {B e size n : Nat} {v : Value} {xs : List Value} (h : w.ownsRow B e size v n xs) {p : Addr} (hp : ∀ b, v.ownBlock = some b → b ≠ p.block) (u : Value) : (w.setCell p u).ownsRow B e size v n xs :=
  owns_heap h (fun b hb => Below.heap_setCell w p u b (hp b hb))
theorem bodies_grown {w w' : World} {B : Nat} {qs : List (Fil × Value)} {row : Option Nat} (h : OwnBodies w B qs) (hg : w.grownBy w' row) (hne : ∀ b, row = some b → ∀ p ∈ qs, p.2.ownBlock ≠ some b) : OwnBodies w' B qs :=
  h.heap (fun b _ hlt ⟨p, hp, hb⟩ => hg.block b hlt (fun e => hne b e.symm p hp hb))
/-- One more file with its own body behind others. -/
theorem fils_snoc {wr W w7 : World} {B : Nat} {ov v7 : Value} {qs : List (Fil × Value)} {q : Fil × Value} (h : OwnFils wr B ov qs) (hb : Below wr.heap.size wr W) (hB : B ≤ wr.heap.size)
    (hq : W.ownsRow wr.heap.size 118 5 q.2 q.1.body.length (q.1.body.flatMap stmCells)) (hg : W.grownBy w7 ov.ownBlock)
    (h7 : w7.ownsRow B 79 6 v7 (qs.length + 1) (qs.flatMap filCells ++ filCells q)) : OwnFils w7 B v7 (qs ++ [q]) := by
  refine ⟨by simpa using h7, ?_⟩
  have h1 := OwnBodies.snoc h.2 hb hB hq
  exact bodies_grown h1 hg (fun b hb' p hp => own_types (by decide) (owns_below h.1 hb) (h1.1 p hp) hb')


/-- What is appended is a row of its own, nil or not: in a region that draws its order. -/
theorem step_append_both {P : Program} {ops : Array Oper} {o : Oper} {a : Act} {w : World} {K : Act → World → Prop} {Q : Exit → Act → World → Prop} {E : Prop} (hgd : o.guard = none) (s x : Operand) (t : TypeId)
    (ho : o.op = .call { callee := .builtin .append, args := #[s, x], argTypes := #[t, t] })
    (base : Nat) (e : TypeId) (i : TypeInfo) (z : Value) (size bytes : Nat) (ht : P.underlying t = some (.slice e)) (hi : P.info? e = some i) (hz : i.zero = some z)
    (hsize : i.size = size) (hby : i.bytes = bytes) (hzs : z.cells.size = size) (hsz : 0 < size)
    (v : Value) (n : Nat) (xs : List Value) (hs : a.eval s = v) (hown : w.ownsRow base e size v n xs)
    (B' : Nat) (u : Value) (m : Nat) (news : List Value) (hx : a.eval x = u) (hsrc : w.ownsRow B' e size u m news) (h1 : ∀ u ∈ news, u.oneCell' = true)
    (h63 : n + m ≤ maxLen) (hbytes : (n + m) * bytes ≤ 140737488355328) (hbase : base ≤ w.heap.size)
    (h : ∀ v' w', w'.ownsRow base e size v' (n + m) (xs ++ news) → w.grownBy w' v.ownBlock → K (a.put o.dst v') w') :
    if Region.wanted o (yielded ops a.tmps) = true then Oper.wp P o a w K Q else E := by
  have hw : Region.wanted o (yielded ops a.tmps) = true := by simp [Region.wanted, hgd]
  rw [if_pos hw]
  rcases hsrc.2 with ⟨hu, hm⟩ | ⟨g, cap, cur, hu, hrest⟩
  · subst hm
    have hn : news = [] := List.eq_nil_of_length_eq_zero (by simpa using hsrc.1)
    subst hn
    have hrun := run_append_owned_none (P := P) (w := w) base t o.type e i size ht hi v n xs hown
    unfold Oper.wp
    simp [execOp, ho, resolve, invoke, builtin, hs, hx, hu, hrun, Result.andThen]
    exact h v w (by simpa using hown) ⟨rfl, rfl, rfl, Nat.le_refl _, fun _ _ _ => rfl⟩
  · obtain ⟨v', w', hr, h2, h3, h4, h5⟩ := run_append_own_at (P := P) (w := w) base t o.type e i z size bytes ht hi hz hsize hby hzs hsz v n xs hown ⟨g, 0, none⟩ m cap news hsrc.1 (hsrc.cells (by rw [hu]; rfl)) h1 h63 hbytes hbase
    unfold Oper.wp execOp
    simp only [ho, resolve, invoke, builtin, Sem.run_bind, Sem.run_pure, Result.andThen_ok, List.map_toArray, List.map_cons, List.map_nil, hs, hx, hu, hr]
    exact h v' w' h2 h3

/-- What a function that returns a tree, and whether it is one, comes to. -/
def NewTreeB (r : List Fil × Bool) (w : World) (e : Ending) (w' : World) : Prop :=
  ∃ v ps, e = .returned (.tuple #[.agg #[v], .bool r.2]) ∧ ps.map (·.1) = r.1 ∧ OwnFils w' w.heap.size v ps ∧ Below w.heap.size w w'
def NewRowF (ps : List (Fil × Value)) (w : World) (e : Ending) (w' : World) : Prop :=
  ∃ v, e = .returned v ∧ w'.ownsRow w.heap.size 79 6 v ps.length (ps.flatMap filCells) ∧ Below w.heap.size w w'
theorem rowsF_slices {w : World} {v : Value} {ps : List (Fil × Value)} (h : RowsF w v ps) : ∀ p ∈ ps, ∃ a n c, p.2 = .slice a n c := fun p hp => by
  obtain ⟨a, c, e⟩ := owns_shape (h.2 p hp)
  exact ⟨a, _, c, e⟩
theorem treeB_no {r : List Fil × Bool} {w w' : World} (h : r = ([], false)) (hb : Below w.heap.size w w') : NewTreeB r w (.returned (.tuple #[.agg #[.slice none 0 0], .bool false])) w' := by
  subst h; exact ⟨_, [], rfl, rfl, ⟨World.ownsRow_nil _ _ _ _, OwnBodies.nil _ _⟩, hb⟩



/-! ### Contracts of the program's functions that give a tree without a file, or with one that is edited. -/
theorem put45 (L : List (Fil × Value)) (i : Nat) (hi : i < L.length) (st : Int) (b : List Stm) (bv : Value) :
    ((L.flatMap filCells).set (i * 6 + 4) (.int .i64 st)).set (i * 6 + 5) bv = (L.set i (turned L[i].1 st b, bv)).flatMap filCells := by
  have hA := fm_take_len filCells 6 L i hi filCells_len
  have ha : filCells L[i] = [.int .i64 L[i].1.root, .string (mk L[i].1.pack), .string (mk L[i].1.name), .bool L[i].1.init, .int .i64 L[i].1.stamp, L[i].2] := rfl
  rw [fm_split filCells L i hi, ha, fm_put filCells L i _ hi]
  rw [set_mid _ _ _ (i * 6) 4 _ hA (by simp), set_mid _ _ _ (i * 6) 5 _ hA (by simp)]
  rfl
theorem map_turned (ps : List (Fil × Value)) (i : Nat) (hi : i < ps.length) (st : Int) (b : List Stm) (bv : Value) :
    (ps.set i (turned ps[i].1 st b, bv)).map (·.1) = (ps.map (·.1)).modify i (fun f => turned f st b) := by
  rw [List.map_set]
  apply List.ext_getElem?
  intro j
  by_cases e : i = j
  · subst e; simp [hi, List.getElem?_modify]
  · simp [e, List.getElem?_modify, List.getElem?_set_ne e]
theorem remFil_no {t : List Fil} {i : Int} (h : (okTree t && inr i 0 ((t.length : Int) - 1)) = false) : remFil t i = ([], false) := by unfold remFil; rw [h]; rfl
theorem edFil_no {t : List Fil} {i st : Int} {b : List Stm} (h : (okTree t && inr i 0 ((t.length : Int) - 1)) = false) : edFil t i st b = ([], false) := by unfold edFil; rw [h]; rfl
theorem edFil_yes {t : List Fil} {k : Nat} {st : Int} {b : List Stm} (h : okTree t = true) (hk : k < t.length) : (if okTree (t.modify k (fun f => turned f st b)) then (t.modify k (fun f => turned f st b), true) else ([], false)) = edFil t k st b := by
  unfold edFil
  rw [okTree_modify h hk, h]
  have hi : inr (k : Int) 0 ((t.length : Int) - 1) = true := by unfold inr; simp; omega
  rw [hi]
  simp
theorem inr_nat {i : Int} {n : Nat} (h : inr i 0 ((n : Int) - 1) = true) : ∃ k : Nat, k < n ∧ i = (k : Int) := by
  unfold inr at h
  simp only [Bool.and_eq_true, decide_eq_true_eq] at h
  exact ⟨i.toNat, by omega, by omega⟩



/-! ### Contracts of the model's functions that copy trees: with one more file, without one, with one that is edited. -/
theorem made_at (W : World) (g base size : Nat) (e : TypeId) (hg : g = W.heap.size) (hb : base ≤ g) : (W.alloc (.cells #[] e)).ownsRow base e size (.slice (some ⟨g, 0, none⟩) 0 0) 0 [] := by
  subst hg
  exact World.ownsRow_made (base := base) (size := size) (e := e) W #[] 0 hb (by unfold maxLen; omega) (by simp)

end Go.Proofs.YtcmnldomcpjlcaaGreat
