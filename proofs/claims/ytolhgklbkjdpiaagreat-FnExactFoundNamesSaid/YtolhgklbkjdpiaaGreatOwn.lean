/- Rows of statements and files that a call owns. -/
import Derived.Test.YtolhgklbkjdpiaaGreatTreeMem2
import Derived.OwnWalk
import Derived.Laws.OwnMore
import Derived.Laws.MakeOwn
set_option linter.unusedVariables false
set_option linter.unusedSimpArgs false
namespace Go.Proofs.YtolhgklbkjdpiaaGreat.Nm
open Go.RowKit

section
variable {α : Type} (c : α → List Value) (m : Nat) (hc : ∀ x, (c x).length = m)
theorem fm_len (L : List α) (hc : ∀ x, (c x).length = m) : (L.flatMap c).length = L.length * m := by
  induction L with
  | nil => simp
  | cons x r ih => rw [List.flatMap_cons, List.length_append, ih, hc, List.length_cons, Nat.add_mul]; omega
theorem fm_split (L : List α) (i : Nat) (h : i < L.length) : L.flatMap c = (L.take i).flatMap c ++ (c L[i] ++ (L.drop (i + 1)).flatMap c) := by
  have e : L = L.take i ++ (L[i] :: L.drop (i + 1)) := by rw [← List.drop_eq_getElem_cons h, List.take_append_drop]
  have e2 := congrArg (List.flatMap c) e
  rw [List.flatMap_append, List.flatMap_cons] at e2
  exact e2
theorem fm_take_len (L : List α) (i : Nat) (h : i < L.length) (hc : ∀ x, (c x).length = m) : ((L.take i).flatMap c).length = i * m := by
  rw [fm_len c m _ hc, List.length_take, Nat.min_eq_left (by omega)]
theorem fm_get (L : List α) (i j : Nat) (h : i < L.length) (hj : j < m) (hc : ∀ x, (c x).length = m) : (L.flatMap c)[i * m + j]? = (c L[i])[j]? := by
  have hl := fm_take_len c m L i h hc
  rw [fm_split c L i h, List.getElem?_append_right (by omega), hl, Nat.add_sub_cancel_left, List.getElem?_append_left (by rw [hc]; exact hj)]
theorem fm_put (L : List α) (i : Nat) (x : α) (h : i < L.length) : (L.set i x).flatMap c = (L.take i).flatMap c ++ (c x ++ (L.drop (i + 1)).flatMap c) := by
  rw [List.set_eq_take_append_cons_drop, if_pos h, List.flatMap_append, List.flatMap_cons]
theorem set_mid (A B C : List Value) (p j : Nat) (u : Value) (hA : A.length = p) (hj : j < B.length) : (A ++ (B ++ C)).set (p + j) u = A ++ (B.set j u ++ C) := by
  rw [List.set_append_right _ _ (by omega), hA, Nat.add_sub_cancel_left, List.set_append_left _ _ hj]
end

theorem stmCells_len (s : Stm) : (stmCells s).length = 5 := rfl
/-- The cells of a file whose body is the slice bv. -/
def filCells (p : Fil × Value) : List Value := [.int .i64 p.1.root, .string (mk p.1.pack), .string (mk p.1.name), .bool p.1.init, .int .i64 p.1.stamp, p.2]
theorem filCells_len (p : Fil × Value) : (filCells p).length = 6 := rfl

theorem list5 {l : List Value} (h : l.length = 5) : ∃ a b c d e, l = [a, b, c, d, e] := by
  match l, h with
  | [a, b, c, d, e], _ => exact ⟨a, b, c, d, e, rfl⟩
theorem list6 {l : List Value} (h : l.length = 6) : ∃ a b c d e f, l = [a, b, c, d, e, f] := by
  match l, h with
  | [a, b, c, d, e, f], _ => exact ⟨a, b, c, d, e, f, rfl⟩

section
variable {w : World} {B e g cap n : Nat}
/-- The cells of element i of a row of statements that is owned. -/
theorem own5 {L : List Stm} (h : w.ownsRow B e 5 (.slice (some ⟨g, 0, none⟩) n cap) n (L.flatMap stmCells)) (i : Nat) (hi : i < L.length) :
    (w.cell? ⟨g, i * 5, none⟩ = some (.int .i64 L[i].kind) ∧ w.cell? ⟨g, i * 5 + 1, none⟩ = some (.string (mk L[i].module)) ∧ w.cell? ⟨g, i * 5 + 2, none⟩ = some (.int .i64 L[i].level) ∧ w.cell? ⟨g, i * 5 + 3, none⟩ = some (.string (mk L[i].name)) ∧ w.cell? ⟨g, i * 5 + 4, none⟩ = some (.int .i64 L[i].value)) ∧
    (w.frozen? ⟨g, i * 5, none⟩ = false ∧ w.frozen? ⟨g, i * 5 + 1, none⟩ = false ∧ w.frozen? ⟨g, i * 5 + 2, none⟩ = false ∧ w.frozen? ⟨g, i * 5 + 3, none⟩ = false ∧ w.frozen? ⟨g, i * 5 + 4, none⟩ = false) := by
  have hl := fm_len stmCells 5 L stmCells_len
  have hn : (L.flatMap stmCells).length = n * 5 := h.1
  have hc : ∀ j, j < 5 → w.cell? ⟨g, i * 5 + j, none⟩ = (stmCells L[i])[j]? := fun j hj => by
    rw [h.cellAt (i * 5 + j) (by omega), fm_get stmCells 5 L i j hi hj stmCells_len]
  exact ⟨⟨hc 0 (by omega), hc 1 (by omega), hc 2 (by omega), hc 3 (by omega), hc 4 (by omega)⟩, h.frozenAt _, h.frozenAt _, h.frozenAt _, h.frozenAt _, h.frozenAt _⟩
/-- Element i is written. -/
theorem own5_put {L : List Stm} (h : w.ownsRow B e 5 (.slice (some ⟨g, 0, none⟩) n cap) n (L.flatMap stmCells)) (i : Nat) (hi : i < L.length) (s : Stm) :
    (((((w.setCell ⟨g, i * 5, none⟩ (.int .i64 s.kind)).setCell ⟨g, i * 5 + 1, none⟩ (.string (mk s.module))).setCell ⟨g, i * 5 + 2, none⟩ (.int .i64 s.level)).setCell ⟨g, i * 5 + 3, none⟩ (.string (mk s.name))).setCell ⟨g, i * 5 + 4, none⟩ (.int .i64 s.value)).ownsRow B e 5 (.slice (some ⟨g, 0, none⟩) n cap) n ((L.set i s).flatMap stmCells) := by
  have h5 := ((((h.stored (i * 5) (.int .i64 s.kind)).1.stored (i * 5 + 1) (.string (mk s.module))).1.stored (i * 5 + 2) (.int .i64 s.level)).1.stored (i * 5 + 3) (.string (mk s.name))).1.stored (i * 5 + 4) (.int .i64 s.value)
  have hA := fm_take_len stmCells 5 L i hi stmCells_len
  obtain ⟨a0, a1, a2, a3, a4, ha⟩ := list5 (stmCells_len L[i])
  rw [fm_split stmCells L i hi, ha] at h5
  rw [fm_put stmCells L i s hi]
  have s0 : ((L.take i).flatMap stmCells ++ ([a0, a1, a2, a3, a4] ++ (L.drop (i + 1)).flatMap stmCells)).set (i * 5) (.int .i64 s.kind) = (L.take i).flatMap stmCells ++ ([a0, a1, a2, a3, a4].set 0 (.int .i64 s.kind) ++ (L.drop (i + 1)).flatMap stmCells) := set_mid _ _ _ (i * 5) 0 _ hA (by simp)
  rw [s0, set_mid _ _ _ (i * 5) 1 _ hA (by simp), set_mid _ _ _ (i * 5) 2 _ hA (by simp), set_mid _ _ _ (i * 5) 3 _ hA (by simp), set_mid _ _ _ (i * 5) 4 _ hA (by simp)] at h5
  exact h5.1
theorem own6 {L : List (Fil × Value)} (h : w.ownsRow B e 6 (.slice (some ⟨g, 0, none⟩) n cap) n (L.flatMap filCells)) (i : Nat) (hi : i < L.length) :
    (w.cell? ⟨g, i * 6, none⟩ = some (.int .i64 L[i].1.root) ∧ w.cell? ⟨g, i * 6 + 1, none⟩ = some (.string (mk L[i].1.pack)) ∧ w.cell? ⟨g, i * 6 + 2, none⟩ = some (.string (mk L[i].1.name)) ∧ w.cell? ⟨g, i * 6 + 3, none⟩ = some (.bool L[i].1.init) ∧ w.cell? ⟨g, i * 6 + 4, none⟩ = some (.int .i64 L[i].1.stamp) ∧ w.cell? ⟨g, i * 6 + 5, none⟩ = some L[i].2) ∧
    (w.frozen? ⟨g, i * 6, none⟩ = false ∧ w.frozen? ⟨g, i * 6 + 1, none⟩ = false ∧ w.frozen? ⟨g, i * 6 + 2, none⟩ = false ∧ w.frozen? ⟨g, i * 6 + 3, none⟩ = false ∧ w.frozen? ⟨g, i * 6 + 4, none⟩ = false ∧ w.frozen? ⟨g, i * 6 + 5, none⟩ = false) := by
  have hl := fm_len filCells 6 L filCells_len
  have hn : (L.flatMap filCells).length = n * 6 := h.1
  have hc : ∀ j, j < 6 → w.cell? ⟨g, i * 6 + j, none⟩ = (filCells L[i])[j]? := fun j hj => by
    rw [h.cellAt (i * 6 + j) (by omega), fm_get filCells 6 L i j hi hj filCells_len]
  exact ⟨⟨hc 0 (by omega), hc 1 (by omega), hc 2 (by omega), hc 3 (by omega), hc 4 (by omega), hc 5 (by omega)⟩, h.frozenAt _, h.frozenAt _, h.frozenAt _, h.frozenAt _, h.frozenAt _, h.frozenAt _⟩
theorem own6_put {L : List (Fil × Value)} (h : w.ownsRow B e 6 (.slice (some ⟨g, 0, none⟩) n cap) n (L.flatMap filCells)) (i : Nat) (hi : i < L.length) (p : Fil × Value) :
    ((((((w.setCell ⟨g, i * 6, none⟩ (.int .i64 p.1.root)).setCell ⟨g, i * 6 + 1, none⟩ (.string (mk p.1.pack))).setCell ⟨g, i * 6 + 2, none⟩ (.string (mk p.1.name))).setCell ⟨g, i * 6 + 3, none⟩ (.bool p.1.init)).setCell ⟨g, i * 6 + 4, none⟩ (.int .i64 p.1.stamp)).setCell ⟨g, i * 6 + 5, none⟩ p.2).ownsRow B e 6 (.slice (some ⟨g, 0, none⟩) n cap) n ((L.set i p).flatMap filCells) := by
  have h5 := (((((h.stored (i * 6) (.int .i64 p.1.root)).1.stored (i * 6 + 1) (.string (mk p.1.pack))).1.stored (i * 6 + 2) (.string (mk p.1.name))).1.stored (i * 6 + 3) (.bool p.1.init)).1.stored (i * 6 + 4) (.int .i64 p.1.stamp)).1.stored (i * 6 + 5) p.2
  have hA := fm_take_len filCells 6 L i hi filCells_len
  obtain ⟨a0, a1, a2, a3, a4, a5, ha⟩ := list6 (filCells_len L[i])
  rw [fm_split filCells L i hi, ha] at h5
  rw [fm_put filCells L i p hi]
  have s0 : ((L.take i).flatMap filCells ++ ([a0, a1, a2, a3, a4, a5] ++ (L.drop (i + 1)).flatMap filCells)).set (i * 6) (.int .i64 p.1.root) = (L.take i).flatMap filCells ++ ([a0, a1, a2, a3, a4, a5].set 0 (.int .i64 p.1.root) ++ (L.drop (i + 1)).flatMap filCells) := set_mid _ _ _ (i * 6) 0 _ hA (by simp)
  rw [s0, set_mid _ _ _ (i * 6) 1 _ hA (by simp), set_mid _ _ _ (i * 6) 2 _ hA (by simp), set_mid _ _ _ (i * 6) 3 _ hA (by simp), set_mid _ _ _ (i * 6) 4 _ hA (by simp), set_mid _ _ _ (i * 6) 5 _ hA (by simp)] at h5
  exact h5.1
end

/-- Zero statements and files, as make lays them. -/
def zeroStm : Stm := ⟨0, [], 0, [], 0⟩
def zeroFil : Fil × Value := (⟨0, [], [], false, 0, []⟩, .slice none 0 0)
theorem made_cells (c : Array Value) (m : Nat) (hm : c.size = m) (h0 : 0 < m) (n : Nat) : (madeCells c (n * m)).toList = (List.replicate n c.toList).flatten := by
  apply List.ext_getElem?
  intro k
  have hl : ((List.replicate n c.toList).flatten).length = n * m := by simp [hm]
  by_cases hk : k < n * m
  · have hq : k / m < n := Nat.div_lt_of_lt_mul (by rw [Nat.mul_comm]; exact hk)
    have hr : k % m < m := Nat.mod_lt _ h0
    have e : k = k / m * m + k % m := by rw [Nat.mul_comm]; exact (Nat.div_add_mod k m).symm
    have hR : ((List.replicate n c.toList).flatten)[k]? = c.toList[k % m]? := by
      have hf := fm_get (fun l : List Value => if l.length = m then l else List.replicate m (.bool false)) m (List.replicate n c.toList) (k / m) (k % m) (by simpa using hq) hr (fun x => by
        by_cases hx : x.length = m <;> simp [hx])
      have hfm : (List.replicate n c.toList).flatMap (fun l : List Value => if l.length = m then l else List.replicate m (.bool false)) = (List.replicate n c.toList).flatten := by
        rw [List.flatMap_def, List.map_replicate]
        have : (if c.toList.length = m then c.toList else List.replicate m (.bool false)) = c.toList := by rw [if_pos (by simpa using hm)]
        rw [this]
      rw [hfm, ← e] at hf
      rw [hf]
      simp [hm]
    rw [hR, List.getElem?_eq_getElem (by simp [size_madeCells]; exact hk)]
    have hcm : k % m < c.size := by omega
    simp [madeCells, hm]
    rw [getElem!_pos c (k % m) hcm, Array.getElem?_eq_getElem hcm]
  · rw [List.getElem?_eq_none (by simp [size_madeCells]; omega), List.getElem?_eq_none (by rw [hl]; omega)]
theorem made5 (n : Nat) : (madeCells #[.int .i64 0, .string ByteArray.empty, .int .i64 0, .string ByteArray.empty, .int .i64 0] (n * 5)).toList = (List.replicate n zeroStm).flatMap stmCells := by
  rw [made_cells _ 5 rfl (by omega), List.flatMap_def, List.map_replicate]; rfl
theorem made6 (n : Nat) : (madeCells #[.int .i64 0, .string ByteArray.empty, .string ByteArray.empty, .bool false, .int .i64 0, .slice none 0 0] (n * 6)).toList = (List.replicate n zeroFil).flatMap filCells := by
  rw [made_cells _ 6 rfl (by omega), List.flatMap_def, List.map_replicate]; rfl
theorem fill_put {α : Type} (xs : List α) (z : α) (i : Nat) (h : i < xs.length) : ((xs.take i ++ List.replicate (xs.length - i) z).set i xs[i]) = xs.take (i + 1) ++ List.replicate (xs.length - (i + 1)) z := by
  have hl : (xs.take i).length = i := by simp; omega
  rw [List.set_append_right _ _ (by omega), hl, Nat.sub_self, show xs.length - i = (xs.length - (i + 1)) + 1 by omega, List.replicate_succ, List.set_cons_zero, List.take_succ_eq_append_getElem h, List.append_assoc]
  rfl
theorem fill_len {α : Type} (xs : List α) (z : α) (i : Nat) (h : i ≤ xs.length) : (xs.take i ++ List.replicate (xs.length - i) z).length = xs.length := by simp; omega

/-- An owned row of statements reads as they are. -/
theorem StmsIn.of_owns {w : World} {B : Nat} {e : TypeId} {v : Value} {ss : List Stm} {D : Nat → Prop} (h : w.ownsRow B e 5 v ss.length (ss.flatMap stmCells)) (hD : ∀ g, B ≤ g → D g) : StmsIn w D v ss := by
  rcases h.2 with ⟨h1, h2⟩ | ⟨g, cap, cur, h1, h2, h3, h4, h5, h6, h7⟩
  · exact ⟨none, 0, by rw [h1, h2], by omega, by unfold maxLen; omega, fun hx => absurd hx (by omega)⟩
  · subst h1
    refine ⟨_, cap, rfl, h4, h5, fun _ => ⟨g, 0, rfl, hD g h2, (Array.getElem?_eq_some_iff.1 h3).1, fun i hi => ?_⟩⟩
    simpa using (own5 h i hi).1
theorem FilsIn.of_owns {w : World} {B : Nat} {e : TypeId} {v : Value} {ps : List (Fil × Value)} {D : Nat → Prop} (h : w.ownsRow B e 6 v ps.length (ps.flatMap filCells)) (hD : ∀ g, B ≤ g → D g) (hb : ∀ p ∈ ps, StmsIn w D p.2 p.1.body) :
    FilsIn w D v (ps.map (·.1)) := by
  rcases h.2 with ⟨h1, h2⟩ | ⟨g, cap, cur, h1, h2, h3, h4, h5, h6, h7⟩
  · exact ⟨none, 0, by rw [h1]; simp [h2], by simp [h2], by unfold maxLen; omega, fun hx => absurd hx (by rw [List.length_map]; omega)⟩
  · subst h1
    refine ⟨_, cap, by simp, by simpa using h4, h5, fun _ => ⟨g, 0, rfl, hD g h2, (Array.getElem?_eq_some_iff.1 h3).1, fun i hi => ?_⟩⟩
    have hi' : i < ps.length := by simpa using hi
    refine ⟨ps[i].2, by simpa using hb _ (List.getElem_mem hi'), ?_⟩
    simpa using (own6 h i hi').1
end Go.Proofs.YtolhgklbkjdpiaaGreat.Nm
