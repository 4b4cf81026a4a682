/- The exact laws' marks in statements, files and trees. -/
import Derived.Test.YteifoepfobojbaaMarks
import Derived.Test.YteifoepfobojbaaTreeMem
import Derived.Test.YteifoepfobojbaaSzTree
import Derived.Deep.AppendLies
set_option linter.unusedVariables false
set_option linter.unusedSimpArgs false
namespace Go.Proofs.Yteifoepfobojbaa.Nm
open Go.RowKit

def markStm (k : Nat) : Stm := ⟨k, mt (k + 1), (k : Int) + 1 + 1, mt (k + 3), (k : Int) + 1 + 1 + 1 + 1⟩
def marksS (k n : Nat) : List Stm := (List.range n).map (fun i => markStm (k + 5 * i))
theorem marksS_len (k n : Nat) : (marksS k n).length = n := by simp [marksS]
theorem marksS_succ (k n : Nat) : marksS k (n + 1) = marksS k n ++ [markStm (k + 5 * n)] := by simp [marksS, List.range_succ]

theorem own_has {w : World} {B e s g cap n : Nat} {xs : List Value} (h : w.ownsRow B e s (.slice (some ⟨g, 0, none⟩) n cap) n xs) (j : Nat) (hj : j < n * s) : ∃ u, w.cell? ⟨g, j, none⟩ = some u := by
  rw [h.cellAt j hj]
  exact ⟨_, List.getElem?_eq_getElem (by rw [h.1]; exact hj)⟩
theorem mid_set {α : Type} (A ss : List α) (i : Nat) (x : α) (hA : A.length = i) (h : i < ss.length) : (A ++ ss.drop i).set i x = (A ++ [x]) ++ ss.drop (i + 1) := by
  rw [List.set_append_right _ _ (by omega), hA, Nat.sub_self, List.drop_eq_getElem_cons h, List.set_cons_zero, List.append_assoc]; rfl
theorem put5 (L : List Stm) (i : Nat) (hi : i < L.length) (s : Stm) :
    (((((L.flatMap stmCells).set (i * 5) (.int .i64 s.kind)).set (i * 5 + 1) (.string (mk s.module))).set (i * 5 + 2) (.int .i64 s.level)).set (i * 5 + 3) (.string (mk s.name))).set (i * 5 + 4) (.int .i64 s.value) = (L.set i s).flatMap stmCells := by
  have hA := fm_take_len stmCells 5 L i hi stmCells_len
  obtain ⟨a0, a1, a2, a3, a4, ha⟩ := list5 (stmCells_len L[i])
  rw [fm_split stmCells L i hi, ha, fm_put stmCells L i s hi]
  have s0 : ((L.take i).flatMap stmCells ++ ([a0, a1, a2, a3, a4] ++ (L.drop (i + 1)).flatMap stmCells)).set (i * 5) (.int .i64 s.kind) = (L.take i).flatMap stmCells ++ ([a0, a1, a2, a3, a4].set 0 (.int .i64 s.kind) ++ (L.drop (i + 1)).flatMap stmCells) := set_mid _ _ _ (i * 5) 0 _ hA (by simp)
  rw [s0, set_mid _ _ _ (i * 5) 1 _ hA (by simp), set_mid _ _ _ (i * 5) 2 _ hA (by simp), set_mid _ _ _ (i * 5) 3 _ hA (by simp), set_mid _ _ _ (i * 5) 4 _ hA (by simp)]
  rfl
theorem put6 (L : List (Fil × Value)) (i : Nat) (hi : i < L.length) (f : Fil) :
    (((((L.flatMap filCells).set (i * 6) (.int .i64 f.root)).set (i * 6 + 1) (.string (mk f.pack))).set (i * 6 + 2) (.string (mk f.name))).set (i * 6 + 3) (.bool f.init)).set (i * 6 + 4) (.int .i64 f.stamp) = (L.set i (f, L[i].2)).flatMap filCells := by
  have hA := fm_take_len filCells 6 L i hi filCells_len
  have ha : filCells L[i] = [.int .i64 L[i].1.root, .string (mk L[i].1.pack), .string (mk L[i].1.name), .bool L[i].1.init, .int .i64 L[i].1.stamp, L[i].2] := rfl
  rw [fm_split filCells L i hi, ha, fm_put filCells L i _ hi]
  have s0 : ((L.take i).flatMap filCells ++ ([.int .i64 L[i].1.root, .string (mk L[i].1.pack), .string (mk L[i].1.name), .bool L[i].1.init, .int .i64 L[i].1.stamp, L[i].2] ++ (L.drop (i + 1)).flatMap filCells)).set (i * 6) (.int .i64 f.root) = (L.take i).flatMap filCells ++ ([Value.int .i64 L[i].1.root, .string (mk L[i].1.pack), .string (mk L[i].1.name), .bool L[i].1.init, .int .i64 L[i].1.stamp, L[i].2].set 0 (.int .i64 f.root) ++ (L.drop (i + 1)).flatMap filCells) := set_mid _ _ _ (i * 6) 0 _ hA (by simp)
  rw [s0, set_mid _ _ _ (i * 6) 1 _ hA (by simp), set_mid _ _ _ (i * 6) 2 _ hA (by simp), set_mid _ _ _ (i * 6) 3 _ hA (by simp), set_mid _ _ _ (i * 6) 4 _ hA (by simp)]
  rfl

end Go.Proofs.Yteifoepfobojbaa.Nm
namespace Go.Proofs.Yteifoepfobojbaa
open Go.RowKit Go.Proofs.Yteifoepfobojbaa.Nm



def markFil (k : Nat) (f : Fil) : Fil := ⟨k, mt (k + 1), mt (k + 2), decide (((k : Int) + 1 + 1 + 1).tmod 3 = 0), (k : Int) + 1 + 1 + 1 + 1, marksS (k + 5) f.body.length⟩
def nextF (k : Nat) (f : Fil) : Nat := k + 5 + 5 * f.body.length
def endF (k : Nat) (fs : List Fil) : Nat := fs.foldl nextF k
def marksF : Nat → List Fil → List Fil
  | _, [] => []
  | k, f :: r => markFil k f :: marksF (nextF k f) r
theorem endF_snoc (k : Nat) (fs : List Fil) (i : Nat) (h : i < fs.length) : endF k (fs.take (i + 1)) = nextF (endF k (fs.take i)) fs[i] := by
  rw [List.take_succ_eq_append_getElem h, endF, List.foldl_append]; rfl
theorem marksF_app : ∀ (k : Nat) (fs gs : List Fil), marksF k (fs ++ gs) = marksF k fs ++ marksF (endF k fs) gs
  | _, [], _ => rfl
  | k, f :: r, gs => by rw [List.cons_append, marksF, marksF_app, marksF]; rfl
theorem marksF_snoc (k : Nat) (fs : List Fil) (i : Nat) (h : i < fs.length) : marksF k (fs.take (i + 1)) = marksF k (fs.take i) ++ [markFil (endF k (fs.take i)) fs[i]] := by
  rw [List.take_succ_eq_append_getElem h, marksF_app]; rfl
theorem marksF_len : ∀ (k : Nat) (fs : List Fil), (marksF k fs).length = fs.length
  | _, [] => rfl
  | k, f :: r => by rw [marksF, List.length_cons, marksF_len, List.length_cons]
theorem endF_mono : ∀ (k : Nat) (fs : List Fil), k ≤ endF k fs
  | _, [] => Nat.le_refl _
  | k, f :: r => Nat.le_trans (by unfold nextF; omega) (endF_mono (nextF k f) r)
theorem endF_take (k : Nat) (fs : List Fil) (i : Nat) : endF k (fs.take i) ≤ endF k fs := by
  have h := List.take_append_drop i fs
  have e : endF k fs = endF (endF k (fs.take i)) (fs.drop i) := by rw [endF, endF, endF, ← List.foldl_append, h]
  rw [e]; exact endF_mono _ _

/-- The blocks of files and of their bodies. -/
def BlkF (v : Value) (ps : List (Fil × Value)) (b : Nat) : Prop := v.ownBlock = some b ∨ ∃ p ∈ ps, p.2.ownBlock = some b
/-- Pairs of files and bodies, marked. -/
def markP (k : Nat) (ps : List (Fil × Value)) : List (Fil × Value) := (marksF k (ps.map (·.1))).zip (ps.map (·.2))
theorem markP_fst (k : Nat) (ps : List (Fil × Value)) : (markP k ps).map (·.1) = marksF k (ps.map (·.1)) := by
  rw [markP, List.map_fst_zip]; simp [marksF_len]
theorem markP_snd (k : Nat) (ps : List (Fil × Value)) : (markP k ps).map (·.2) = ps.map (·.2) := by
  rw [markP, List.map_snd_zip]; simp [marksF_len]
theorem markP_len (k : Nat) (ps : List (Fil × Value)) : (markP k ps).length = ps.length := by simp [markP, marksF_len]
theorem markP_snoc (k : Nat) (ps : List (Fil × Value)) (i : Nat) (h : i < ps.length) : markP k (ps.take (i + 1)) = markP k (ps.take i) ++ [(markFil (endF k ((ps.take i).map (·.1))) ps[i].1, ps[i].2)] := by
  rw [List.take_succ_eq_append_getElem h, markP, List.map_append, List.map_append, marksF_app, List.zip_append (by simp [marksF_len])]; rfl
/-- A row of files is no row of statements. -/
theorem own_types {w : World} {B B' s s' n n' : Nat} {T T' : TypeId} {v v' : Value} {xs xs' : List Value} (hT : T ≠ T') (h : w.ownsRow B T s v n xs) (h' : w.ownsRow B' T' s' v' n' xs') {b : Nat} (hb : v.ownBlock = some b) : v'.ownBlock ≠ some b := fun hb' => by
  rcases h.2 with ⟨rfl, _⟩ | ⟨g, cap, cur, rfl, _, hg, _⟩
  · cases hb
  rcases h'.2 with ⟨rfl, _⟩ | ⟨g', cap', cur', rfl, _, hg', _⟩
  · cases hb'
  cases hb; cases hb'
  rw [hg] at hg'
  cases hg'
  exact hT rfl
theorem bodies_turned {w w' : World} {B : Nat} {ps : List (Fil × Value)} {S : Nat → Prop} (h : OwnBodies w B ps) (ht : Turned S w w') (hs : ∀ p ∈ ps, ∀ b, p.2.ownBlock = some b → ¬ S b) : OwnBodies w' B ps :=
  h.heap (fun b _ hlt ⟨p, hp, hb⟩ => ht.block b hlt (hs p hp b hb))
theorem owns_turned {w w' : World} {B : Nat} {e : TypeId} {size : Nat} {v : Value} {n : Nat} {xs : List Value} {S : Nat → Prop} (h : w.ownsRow B e size v n xs) (ht : Turned S w w') (hs : ∀ b, v.ownBlock = some b → ¬ S b) : w'.ownsRow B e size v n xs :=
  owns_heap h (fun b hb => ht.block b (h.lt b hb).2 (hs b hb))
/-- One body in the midst is written. -/
theorem bodies_mid {w w' : World} {B : Nat} {A C : List (Fil × Value)} {p : Fil × Value} {f : Fil} (h : OwnBodies w B (A ++ p :: C)) (ht : Turned (fun b => p.2.ownBlock = some b) w w')
    (hq : w'.ownsRow B 82 5 p.2 f.body.length (f.body.flatMap stmCells)) : OwnBodies w' B (A ++ (f, p.2) :: C) := by
  obtain ⟨h1, h2⟩ := h
  rw [List.pairwise_append, List.pairwise_cons] at h2
  obtain ⟨hA, ⟨hpC, hC⟩, hAC⟩ := h2
  refine ⟨fun q hq' => ?_, ?_⟩
  · rcases List.mem_append.1 hq' with hm | hm
    · exact owns_turned (h1 q (List.mem_append_left _ hm)) ht (fun b hb hb' => hAC q hm p (List.mem_cons_self ..) b hb hb')
    · rcases List.mem_cons.1 hm with rfl | hm
      · exact hq
      · exact owns_turned (h1 q (List.mem_append_right _ (List.mem_cons_of_mem _ hm))) ht (fun b hb hb' => hpC q hm b hb' hb)
  · rw [List.pairwise_append, List.pairwise_cons]
    refine ⟨hA, ⟨fun q hm => hpC q hm, hC⟩, fun a ha q hm => ?_⟩
    rcases List.mem_cons.1 hm with rfl | hm
    · exact hAC a ha p (List.mem_cons_self ..)
    · exact hAC a ha q (List.mem_cons_of_mem _ hm)


theorem owns_turned_all {w w' : World} {B e size n : Nat} {v u : Value} {ps : List (Fil × Value)} {xs : List Value} (h : w.ownsRow B e size u n xs) (ht : Turned (BlkF v ps) w w') (hs : ∀ b, BlkF v ps b → b < B) : w'.ownsRow B e size u n xs :=
  owns_heap h (fun b hb => ht.block b (h.lt b hb).2 (fun e1 => by have h1 := hs b e1; have h2 := (h.lt b hb).1; omega))
theorem blkF_ge {w : World} {B : Nat} {v : Value} {ps : List (Fil × Value)} {T : TypeId} {n : Nat} {xs : List Value} {size : Nat} (h : w.ownsRow B T size v n xs) (hb : ∀ p ∈ ps, ∃ T' s' n' xs', w.ownsRow B T' s' p.2 n' xs') : ∀ b, BlkF v ps b → B ≤ b ∧ b < w.heap.size := by
  rintro b (hb' | ⟨p, hp, hb'⟩)
  · exact h.lt b hb'
  · obtain ⟨T', s', n', xs', h'⟩ := hb p hp
    exact h'.lt b hb'
theorem endF_le (k : Nat) : ∀ (fs : List Fil), endF k fs = k + 5 * fs.length + 5 * (fs.map (fun f => f.body.length)).sum
  | [] => rfl
  | f :: r => by
    have h := endF_le (nextF k f) r
    rw [show endF k (f :: r) = endF (nextF k f) r from rfl, h]
    simp only [nextF, List.length_cons, List.map_cons, List.sum_cons]
    omega
theorem sum_le {fs : List Fil} : (fs.map (fun f => f.body.length)).sum ≤ (fs.map filCost).sum := by
  induction fs with
  | nil => exact Nat.le_refl _
  | cons f r ih =>
    simp only [List.map_cons, List.sum_cons]
    have : f.body.length ≤ filCost f := by unfold filCost stmsCost; omega
    omega
theorem end_of {fs : List Fil} (h : filsCost fs ≤ 1048576) : endF 1 fs ≤ 9000000 ∧ fs.length ≤ 1048576 := by
  have h1 := endF_le 1 fs
  have h2 := sum_le (fs := fs)
  unfold filsCost at h
  omega
theorem reads_turned {w w' : World} {v : Value} {xs : List Bs} {S : Nat → Prop} (h : Reads w v xs) (ht : Turned S w w') (hs : ∀ b, v.ownBlock = some b → ¬ S b) : Reads w' v xs := by
  rcases h with h | ⟨b, off, cap, rfl, h2, h3, h4, h5⟩
  · exact .inl h
  · exact .inr ⟨b, off, cap, rfl, h2, h3, Nat.lt_of_lt_of_le h4 ht.size, fun k hk => by rw [World.cell?_of_block (w := w) (ht.block b h4 (hs b rfl))]; exact h5 k hk⟩
end Go.Proofs.Yteifoepfobojbaa
