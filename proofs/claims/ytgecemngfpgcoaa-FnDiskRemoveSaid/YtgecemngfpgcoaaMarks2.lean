/- The exact laws' marks in statements, files and trees. -/
import Derived.Test.YtgecemngfpgcoaaMarks
import Derived.Test.YtgecemngfpgcoaaTreeMem
import Derived.Test.YtgecemngfpgcoaaSzTree
import Derived.Deep.AppendLies
set_option linter.unusedVariables false
set_option linter.unusedSimpArgs false
namespace Go.Proofs.Ytgecemngfpgcoaa.Nm
open Go.RowKit

def markStm (k : Nat) : Stm := ⟨k, mt (k + 1), (k : Int) + 1 + 1, mt (k + 3), (k : Int) + 1 + 1 + 1 + 1⟩
def marksS (k n : Nat) : List Stm := (List.range n).map (fun i => markStm (k + 5 * i))
theorem marksS_len (k n : Nat) : (marksS k n).length = n := by simp [marksS]
theorem marksS_succ (k n : Nat) : marksS k (n + 1) = marksS k n ++ [markStm (k + 5 * n)] := by simp [marksS, List.range_succ]

theorem own_has {w : World} {B e s g cap n : Nat} {xs : List Value} (h : w.ownsRow B e s (.slice (some ⟨g, 0, none⟩) n cap) n xs) (j : Nat) (hj : j < n * s) : ∃ u, w.cell? ⟨g, j, none⟩ = some u := by
  rw [h.cellAt j hj]
  exact ⟨_, List.getElem?_eq_getElem (by rw [h.1]; exact hj)⟩
theorem mid_set {α : Type} (A ss : List α) (i : Nat) (x : α) (hA : A.length = i) (h : i < ss.length) : (A ++ ss.drop i).set i x = (A ++ [x]) ++ ss.drop (i + 1) := by
  rw [List.set_append_right _ _ (by omega), hA, Nat.sub_self, List.drop_eq_getElem_cons h, List.set_cons_zero, List.append_assoc]; rfl
theorem put5 (L : List Stm) (i : Nat) (hi : i < L.length) (s : Stm) :
    (((((L.flatMap stmCells).set (i * 5) (.int .i64 s.kind)).set (i * 5 + 1) (.string (mk s.module))).set (i * 5 + 2) (.int .i64 s.level)).set (i * 5 + 3) (.string (mk s.name))).set (i * 5 + 4) (.int .i64 s.value) = (L.set i s).flatMap stmCells := by
  have hA := fm_take_len stmCells 5 L i hi stmCells_len
  obtain ⟨a0, a1, a2, a3, a4, ha⟩ := list5 (stmCells_len L[i])
  rw [fm_split stmCells L i hi, ha, fm_put stmCells L i s hi]
  have s0 : ((L.take i).flatMap stmCells ++ ([a0, a1, a2, a3, a4] ++ (L.drop (i + 1)).flatMap stmCells)).set (i * 5) (.int .i64 s.kind) = (L.take i).flatMap stmCells ++ ([a0, a1, a2, a3, a4].set 0 (.int .i64 s.kind) ++ (L.drop (i + 1)).flatMap stmCells) := set_mid _ _ _ (i * 5) 0 _ hA (by simp)
  rw [s0, set_mid _ _ _ (i * 5) 1 _ hA (by simp), set_mid _ _ _ (i * 5) 2 _ hA (by simp), set_mid _ _ _ (i * 5) 3 _ hA (by simp), set_mid _ _ _ (i * 5) 4 _ hA (by simp)]
  rfl
theorem put6 (L : List (Fil × Value)) (i : Nat) (hi : i < L.length) (f : Fil) :
    (((((L.flatMap filCells).set (i * 6) (.int .i64 f.root)).set (i * 6 + 1) (.string (mk f.pack))).set (i * 6 + 2) (.string (mk f.name))).set (i * 6 + 3) (.bool f.init)).set (i * 6 + 4) (.int .i64 f.stamp) = (L.set i (f, L[i].2)).flatMap filCells := by
  have hA := fm_take_len filCells 6 L i hi filCells_len
  have ha : filCells L[i] = [.int .i64 L[i].1.root, .string (mk L[i].1.pack), .string (mk L[i].1.name), .bool L[i].1.init, .int .i64 L[i].1.stamp, L[i].2] := rfl
  rw [fm_split filCells L i hi, ha, fm_put filCells L i _ hi]
  have s0 : ((L.take i).flatMap filCells ++ ([.int .i64 L[i].1.root, .string (mk L[i].1.pack), .string (mk L[i].1.name), .bool L[i].1.init, .int .i64 L[i].1.stamp, L[i].2] ++ (L.drop (i + 1)).flatMap filCells)).set (i * 6) (.int .i64 f.root) = (L.take i).flatMap filCells ++ ([Value.int .i64 L[i].1.root, .string (mk L[i].1.pack), .string (mk L[i].1.name), .bool L[i].1.init, .int .i64 L[i].1.stamp, L[i].2].set 0 (.int .i64 f.root) ++ (L.drop (i + 1)).flatMap filCells) := set_mid _ _ _ (i * 6) 0 _ hA (by simp)
  rw [s0, set_mid _ _ _ (i * 6) 1 _ hA (by simp), set_mid _ _ _ (i * 6) 2 _ hA (by simp), set_mid _ _ _ (i * 6) 3 _ hA (by simp), set_mid _ _ _ (i * 6) 4 _ hA (by simp)]
  rfl

end Go.Proofs.Ytgecemngfpgcoaa.Nm
namespace Go.Proofs.Ytgecemngfpgcoaa
open Go.RowKit Go.Proofs.Ytgecemngfpgcoaa.Nm

theorem laws_markTextI (x : Int) (k : Nat) (w : World) (hx : x = k) (h1 : 1 ≤ k) (h9 : k ≤ 9000000) :
    Calls Try.prog 110 #[.int .i64 x] w fun e w' => e = .returned (.string (mk (mt k))) ∧ Below w.heap.size w w' := by subst hx; exact laws_markText k w h1 h9

set_option maxRecDepth 100000 in
set_option maxHeartbeats 2000000 in
theorem laws_markStmtS (B : Nat) (v : Value) (ss : List Stm) (k : Nat) (w : World) (hown : w.ownsRow B 138 5 v ss.length (ss.flatMap stmCells)) (h1 : 1 ≤ k) (h9 : k + 5 * ss.length ≤ 9000000) :
    Calls Try.prog 73 #[v, .int .i64 k] w fun e w' => e = .returned (.int .i64 ((k + 5 * ss.length : Nat) : Int)) ∧ w'.ownsRow B 138 5 v ss.length ((marksS k ss.length).flatMap stmCells) ∧ Turned (fun b => v.ownBlock = some b) w w' := by
  obtain ⟨aa, ca, rfl⟩ := owns_shape hown
  have Hown := Lib.hid hown
  have H9 := Lib.hid h9
  have hn9 : ss.length ≤ 9000000 := by omega
  clear hown h9
  go_enter Try.func73, Try.ntmps73
  go_wp2_with fail
  go_loopw [1, 5] (fun kv iv wr => ∃ i : Nat, i ≤ ss.length ∧ iv = .int .i64 i ∧ kv = .int .i64 ((k + 5 * i : Nat) : Int) ∧ wr.ownsRow B 138 5 (.slice aa ss.length ca) ss.length ((marksS k i ++ ss.drop i).flatMap stmCells) ∧ Turned (fun b => (Value.slice aa ss.length ca).ownBlock = some b) w wr) (fun _ iv _ => ss.length - (intOf iv).toNat)
  case atStart => exact ⟨0, by omega, rfl, rfl, by simpa [marksS] using Hown.out, Turned.refl _ _⟩
  case round =>
    obtain ⟨i, hi, rfl, rfl, ho, htu⟩ := hrel
    by_cases hlt : i < ss.length
    · obtain ⟨g, cap, e1, hg, hg2⟩ := ho.form (by omega)
      simp only [Value.slice.injEq] at e1
      obtain ⟨rfl, _, rfl⟩ := e1
      have Ho := Lib.hid ho
      have Htu := Lib.hid htu
      have Hset := Lib.hid (mid_set (marksS k i) ss i (markStm (k + 5 * i)) (marksS_len _ _) hlt)
      have Hsuc := Lib.hid (marksS_succ k i)
      have Hl := Lib.hid (show i < (marksS k i ++ ss.drop i).length by simp [marksS_len]; omega)
      have hmb : 1 ≤ k + 5 * i ∧ k + 5 * i + 5 ≤ 9000000 := by have := H9.out; omega
      obtain ⟨m, hm⟩ : ∃ m, m = k + 5 * i := ⟨_, rfl⟩
      rw [← hm] at hmb Hset Hsuc ⊢
      have Hm := Lib.hid hm
      have hfr0 := ho.frozenAt (i * 5)
      obtain ⟨u0, hu0⟩ := own_has ho (i * 5) (by omega)
      clear ho htu hm
      generalize marksS k i ++ ss.drop i = L at *
      go_wp2_with (first
        | (go_at_call 110; refine (laws_markTextI _ (m + 3) _ (by omega) (by omega) (by omega)).mono ?_; rintro _ w3 ⟨rfl, hb3⟩
           have ho3 := Lib.hid (owns_below ((Ho2.out.stored (i * 5 + 1) _).1.stored (i * 5 + 2) _).1 hb3)
           have ht3 := Lib.hid (((Ht2.out.set (p := ⟨g, i * 5 + 1, none⟩) rfl _).set (p := ⟨g, i * 5 + 2, none⟩) rfl _).step hb3)
           obtain ⟨u3, hu3⟩ := own_has ho3.out (i * 5 + 3) (by omega)
           obtain ⟨u4, hu4⟩ := own_has ho3.out (i * 5 + 4) (by omega)
           have hf3 := ho3.out.frozenAt (i * 5 + 3)
           have hf4 := ho3.out.frozenAt (i * 5 + 4))
        | (go_at_call 110; refine (laws_markTextI _ (m + 1) _ (by omega) (by omega) (by omega)).mono ?_; rintro _ w2 ⟨rfl, hb2⟩
           have Ho2 := Lib.hid (owns_below (Ho.out.stored (i * 5) _).1 hb2)
           have Ht2 := Lib.hid ((Htu.out.set (p := ⟨g, i * 5, none⟩) rfl _).step hb2)
           obtain ⟨u1, hu1⟩ := own_has Ho2.out (i * 5 + 1) (by omega)
           obtain ⟨u2, hu2⟩ := own_has Ho2.out (i * 5 + 2) (by omega)
           have hf1 := Ho2.out.frozenAt (i * 5 + 1)
           have hf2 := Ho2.out.frozenAt (i * 5 + 2)))
      go_roundw
      case rel => exact ⟨i + 1, by omega, by go_num, by rw [show k + 5 * (i + 1) = m + 5 by have := Hm.out; omega]; go_num, by
        rw [Hsuc.out, ← Hset.out, ← put5 L i Hl.out (markStm m)]
        exact ((ho3.out.stored (i * 5 + 3) _).1.stored (i * 5 + 4) _).1, (ht3.out.set (p := ⟨g, i * 5 + 3, none⟩) rfl _).set (p := ⟨g, i * 5 + 4, none⟩) rfl _⟩
      case measure => simp [intOf]; omega
    · obtain rfl : i = ss.length := by omega
      have Ho := Lib.hid (show wr.ownsRow B 138 5 (.slice aa ss.length ca) ss.length ((marksS k ss.length).flatMap stmCells) by simpa using ho)
      clear ho
      go_wp2_with fail
      go_ret
      exact ⟨rfl, Ho.out, htu⟩

theorem laws_markStmtSI (B : Nat) (v : Value) (ss : List Stm) (x : Int) (k : Nat) (w : World) (hx : x = k) (hown : w.ownsRow B 138 5 v ss.length (ss.flatMap stmCells)) (h1 : 1 ≤ k) (h9 : k + 5 * ss.length ≤ 9000000) :
    Calls Try.prog 73 #[v, .int .i64 x] w fun e w' => e = .returned (.int .i64 ((k + 5 * ss.length : Nat) : Int)) ∧ w'.ownsRow B 138 5 v ss.length ((marksS k ss.length).flatMap stmCells) ∧ Turned (fun b => v.ownBlock = some b) w w' := by subst hx; exact laws_markStmtS B v ss k w hown h1 h9
def markFil (k : Nat) (f : Fil) : Fil := ⟨k, mt (k + 1), mt (k + 2), decide (((k : Int) + 1 + 1 + 1).tmod 3 = 0), (k : Int) + 1 + 1 + 1 + 1, marksS (k + 5) f.body.length⟩
def nextF (k : Nat) (f : Fil) : Nat := k + 5 + 5 * f.body.length
def endF (k : Nat) (fs : List Fil) : Nat := fs.foldl nextF k
def marksF : Nat → List Fil → List Fil
  | _, [] => []
  | k, f :: r => markFil k f :: marksF (nextF k f) r
theorem endF_snoc (k : Nat) (fs : List Fil) (i : Nat) (h : i < fs.length) : endF k (fs.take (i + 1)) = nextF (endF k (fs.take i)) fs[i] := by
  rw [List.take_succ_eq_append_getElem h, endF, List.foldl_append]; rfl
theorem marksF_app : ∀ (k : Nat) (fs gs : List Fil), marksF k (fs ++ gs) = marksF k fs ++ marksF (endF k fs) gs
  | _, [], _ => rfl
  | k, f :: r, gs => by rw [List.cons_append, marksF, marksF_app, marksF]; rfl
theorem marksF_snoc (k : Nat) (fs : List Fil) (i : Nat) (h : i < fs.length) : marksF k (fs.take (i + 1)) = marksF k (fs.take i) ++ [markFil (endF k (fs.take i)) fs[i]] := by
  rw [List.take_succ_eq_append_getElem h, marksF_app]; rfl
theorem marksF_len : ∀ (k : Nat) (fs : List Fil), (marksF k fs).length = fs.length
  | _, [] => rfl
  | k, f :: r => by rw [marksF, List.length_cons, marksF_len, List.length_cons]
theorem endF_mono : ∀ (k : Nat) (fs : List Fil), k ≤ endF k fs
  | _, [] => Nat.le_refl _
  | k, f :: r => Nat.le_trans (by unfold nextF; omega) (endF_mono (nextF k f) r)
theorem endF_take (k : Nat) (fs : List Fil) (i : Nat) : endF k (fs.take i) ≤ endF k fs := by
  have h := List.take_append_drop i fs
  have e : endF k fs = endF (endF k (fs.take i)) (fs.drop i) := by rw [endF, endF, endF, ← List.foldl_append, h]
  rw [e]; exact endF_mono _ _

/-- The blocks of files and of their bodies. -/
def BlkF (v : Value) (ps : List (Fil × Value)) (b : Nat) : Prop := v.ownBlock = some b ∨ ∃ p ∈ ps, p.2.ownBlock = some b
/-- Pairs of files and bodies, marked. -/
def markP (k : Nat) (ps : List (Fil × Value)) : List (Fil × Value) := (marksF k (ps.map (·.1))).zip (ps.map (·.2))
theorem markP_fst (k : Nat) (ps : List (Fil × Value)) : (markP k ps).map (·.1) = marksF k (ps.map (·.1)) := by
  rw [markP, List.map_fst_zip]; simp [marksF_len]
theorem markP_snd (k : Nat) (ps : List (Fil × Value)) : (markP k ps).map (·.2) = ps.map (·.2) := by
  rw [markP, List.map_snd_zip]; simp [marksF_len]
theorem markP_len (k : Nat) (ps : List (Fil × Value)) : (markP k ps).length = ps.length := by simp [markP, marksF_len]
theorem markP_snoc (k : Nat) (ps : List (Fil × Value)) (i : Nat) (h : i < ps.length) : markP k (ps.take (i + 1)) = markP k (ps.take i) ++ [(markFil (endF k ((ps.take i).map (·.1))) ps[i].1, ps[i].2)] := by
  rw [List.take_succ_eq_append_getElem h, markP, List.map_append, List.map_append, marksF_app, List.zip_append (by simp [marksF_len])]; rfl
/-- A row of files is no row of statements. -/
theorem own_types {w : World} {B B' s s' n n' : Nat} {T T' : TypeId} {v v' : Value} {xs xs' : List Value} (hT : T ≠ T') (h : w.ownsRow B T s v n xs) (h' : w.ownsRow B' T' s' v' n' xs') {b : Nat} (hb : v.ownBlock = some b) : v'.ownBlock ≠ some b := fun hb' => by
  rcases h.2 with ⟨rfl, _⟩ | ⟨g, cap, cur, rfl, _, hg, _⟩
  · cases hb
  rcases h'.2 with ⟨rfl, _⟩ | ⟨g', cap', cur', rfl, _, hg', _⟩
  · cases hb'
  cases hb; cases hb'
  rw [hg] at hg'
  cases hg'
  exact hT rfl
theorem bodies_turned {w w' : World} {B : Nat} {ps : List (Fil × Value)} {S : Nat → Prop} (h : OwnBodies w B ps) (ht : Turned S w w') (hs : ∀ p ∈ ps, ∀ b, p.2.ownBlock = some b → ¬ S b) : OwnBodies w' B ps :=
  h.heap (fun b _ hlt ⟨p, hp, hb⟩ => ht.block b hlt (hs p hp b hb))
theorem owns_turned {w w' : World} {B : Nat} {e : TypeId} {size : Nat} {v : Value} {n : Nat} {xs : List Value} {S : Nat → Prop} (h : w.ownsRow B e size v n xs) (ht : Turned S w w') (hs : ∀ b, v.ownBlock = some b → ¬ S b) : w'.ownsRow B e size v n xs :=
  owns_heap h (fun b hb => ht.block b (h.lt b hb).2 (hs b hb))
/-- One body in the midst is written. -/
theorem bodies_mid {w w' : World} {B : Nat} {A C : List (Fil × Value)} {p : Fil × Value} {f : Fil} (h : OwnBodies w B (A ++ p :: C)) (ht : Turned (fun b => p.2.ownBlock = some b) w w')
    (hq : w'.ownsRow B 138 5 p.2 f.body.length (f.body.flatMap stmCells)) : OwnBodies w' B (A ++ (f, p.2) :: C) := by
  obtain ⟨h1, h2⟩ := h
  rw [List.pairwise_append, List.pairwise_cons] at h2
  obtain ⟨hA, ⟨hpC, hC⟩, hAC⟩ := h2
  refine ⟨fun q hq' => ?_, ?_⟩
  · rcases List.mem_append.1 hq' with hm | hm
    · exact owns_turned (h1 q (List.mem_append_left _ hm)) ht (fun b hb hb' => hAC q hm p (List.mem_cons_self ..) b hb hb')
    · rcases List.mem_cons.1 hm with rfl | hm
      · exact hq
      · exact owns_turned (h1 q (List.mem_append_right _ (List.mem_cons_of_mem _ hm))) ht (fun b hb hb' => hpC q hm b hb' hb)
  · rw [List.pairwise_append, List.pairwise_cons]
    refine ⟨hA, ⟨fun q hm => hpC q hm, hC⟩, fun a ha q hm => ?_⟩
    rcases List.mem_cons.1 hm with rfl | hm
    · exact hAC a ha p (List.mem_cons_self ..)
    · exact hAC a ha q (List.mem_cons_of_mem _ hm)

set_option maxRecDepth 100000 in
set_option maxHeartbeats 2000000 in
theorem laws_markFileS (B : Nat) (v : Value) (ps : List (Fil × Value)) (k : Nat) (w : World) (hown : OwnFils w B v ps) (h1 : 1 ≤ k) (h9 : endF k (ps.map (·.1)) ≤ 9000000) (hn9 : ps.length ≤ 9000000) :
    Calls Try.prog 109 #[v, .int .i64 k] w fun e w' => e = .returned (.int .i64 ((endF k (ps.map (·.1)) : Nat) : Int)) ∧ OwnFils w' B v (markP k ps) ∧ Turned (BlkF v ps) w w' := by
  obtain ⟨hown, hbod⟩ := hown
  obtain ⟨aa, ca, rfl⟩ := owns_shape hown
  have Hown := Lib.hid hown
  have Hbod := Lib.hid hbod
  have H9 := Lib.hid h9
  clear hown h9 hbod
  go_enter Try.func109, Try.ntmps109
  go_wp2_with fail
  go_loopw [1, 5] (fun kv iv wr => ∃ i : Nat, i ≤ ps.length ∧ iv = .int .i64 i ∧ kv = .int .i64 ((endF k ((ps.take i).map (·.1)) : Nat) : Int) ∧ wr.ownsRow B 36 6 (.slice aa ps.length ca) ps.length ((markP k (ps.take i) ++ ps.drop i).flatMap filCells) ∧ OwnBodies wr B (markP k (ps.take i) ++ ps.drop i) ∧ Turned (BlkF (.slice aa ps.length ca) ps) w wr) (fun _ iv _ => ps.length - (intOf iv).toNat)
  case atStart => exact ⟨0, by omega, rfl, rfl, by simpa [markP, marksF] using Hown.out, by simpa [markP, marksF] using Hbod.out, Turned.refl _ _⟩
  case round =>
    obtain ⟨i, hi, rfl, rfl, ho, hbo, htu⟩ := hrel
    by_cases hlt : i < ps.length
    · obtain ⟨g, cap, e1, hg, hg2⟩ := ho.form (by omega)
      simp only [Value.slice.injEq] at e1
      obtain ⟨rfl, _, rfl⟩ := e1
      have Ho := Lib.hid ho
      have Htu := Lib.hid htu
      have Hl1 := Lib.hid (show (markP k (ps.take i)).length = i by rw [markP_len]; simp; omega)
      have Hbo := Lib.hid (show OwnBodies wr B (markP k (ps.take i) ++ ps[i] :: ps.drop (i + 1)) by rw [← List.drop_eq_getElem_cons hlt]; exact hbo)
      have Hset := Lib.hid (mid_set (markP k (ps.take i)) ps i (markFil (endF k ((ps.take i).map (·.1))) ps[i].1, ps[i].2) Hl1.out hlt)
      have Hsuc := Lib.hid (markP_snoc k ps i hlt)
      have Hend := Lib.hid (show endF k ((ps.take (i + 1)).map (·.1)) = nextF (endF k ((ps.take i).map (·.1))) ps[i].1 by have := endF_snoc k (ps.map (·.1)) i (by simpa using hlt); rw [← List.map_take, ← List.map_take] at this; simpa using this)
      have hmb : 1 ≤ endF k ((ps.take i).map (·.1)) ∧ nextF (endF k ((ps.take i).map (·.1))) ps[i].1 ≤ 9000000 := by
        refine ⟨Nat.le_trans h1 (endF_mono _ _), ?_⟩
        have h := endF_take k (ps.map (·.1)) (i + 1)
        rw [← List.map_take, Hend.out] at h
        exact Nat.le_trans h H9.out
      have Hmem := Lib.hid (List.getElem_mem hlt)
      have Hget := Lib.hid (show ∀ h : i < (markP k (ps.take i) ++ ps.drop i).length, ((markP k (ps.take i) ++ ps.drop i)[i]'h) = ps[i] by intro h; rw [List.getElem_append_right (by rw [Hl1.out]; exact Nat.le_refl _)]; simp [Hl1.out])
      have Hll := Lib.hid (show i < (markP k (ps.take i) ++ ps.drop i).length by simp [markP_len]; omega)
      obtain ⟨m, hm⟩ : ∃ m, m = endF k ((ps.take i).map (·.1)) := ⟨_, rfl⟩
      obtain ⟨p, hp⟩ : ∃ p, p = ps[i] := ⟨_, rfl⟩
      rw [← hm] at hmb Hset Hsuc Hend ⊢
      rw [← hp] at hmb Hset Hsuc Hend Hbo Hmem Hget
      have hfr0 := ho.frozenAt (i * 6)
      obtain ⟨u0, hu0⟩ := own_has ho (i * 6) (by omega)
      obtain ⟨f, bv⟩ := p
      clear ho hbo htu hm hp
      generalize markP k (ps.take i) ++ ps.drop i = L at *
      generalize markP k (ps.take i) = A at *
      have H5 := Lib.hid (show (L.flatMap filCells)[i * 6 + 5]? = some bv by rw [fm_get filCells 6 L i 5 Hll.out (by omega) filCells_len, Hget.out Hll.out]; rfl)
      have Hne := Lib.hid (show ∀ q ∈ A ++ (f, bv) :: ps.drop (i + 1), ∀ b, q.2.ownBlock = some b → ¬ b = g from fun q hq b hb e => own_types (by decide) (Hbo.out.1 q hq) Ho.out hb (by rw [e]; rfl))
      have hnf : nextF m f = m + 5 + 5 * f.body.length := rfl
      dsimp only at hmb Hset Hsuc Hend
      rw [hnf] at hmb
      go_wp2_with (first
        | (go_at_call 73; refine (laws_markStmtSI B bv f.body _ (m + 5) _ (by omega) ((bodies_turned Hbo.out (((ht3.out.set (p := ⟨g, i * 6 + 2, none⟩) rfl _).set (p := ⟨g, i * 6 + 3, none⟩) rfl _).set (p := ⟨g, i * 6 + 4, none⟩) rfl _) Hne.out).1 (f, bv) (by simp)) (by omega) (by omega)).mono ?_; rintro _ w5 ⟨rfl, hq5, ht5⟩
           have Hq5 := Lib.hid hq5
           have Ht5 := Lib.hid ht5
           clear hq5 ht5)
        | (go_at_call 110; refine (laws_markTextI _ (m + 2) _ (by omega) (by omega) (by omega)).mono ?_; rintro _ w3 ⟨rfl, hb3⟩
           have ho3 := Lib.hid (owns_below (Ho2.out.stored (i * 6 + 1) _).1 hb3)
           have ht3 := Lib.hid ((ht2.out.set (p := ⟨g, i * 6 + 1, none⟩) rfl _).step hb3)
           obtain ⟨u2, hu2⟩ := own_has ho3.out (i * 6 + 2) (by omega)
           obtain ⟨u3, hu3⟩ := own_has ho3.out (i * 6 + 3) (by omega)
           obtain ⟨u4, hu4⟩ := own_has ho3.out (i * 6 + 4) (by omega)
           have hc5 : w3.cell? ⟨g, i * 6 + 5, none⟩ = some bv := by
             rw [ho3.out.cellAt _ (by omega), List.getElem?_set_ne (by omega), List.getElem?_set_ne (by omega)]; exact H5.out
           have hf2 := ho3.out.frozenAt (i * 6 + 2)
           have hf3 := ho3.out.frozenAt (i * 6 + 3)
           have hf4 := ho3.out.frozenAt (i * 6 + 4))
        | (go_at_call 110; refine (laws_markTextI _ (m + 1) _ (by omega) (by omega) (by omega)).mono ?_; rintro _ w2 ⟨rfl, hb2⟩
           have Ho2 := Lib.hid (owns_below (Ho.out.stored (i * 6) _).1 hb2)
           have ht2 := Lib.hid (((Turned.refl (fun b => b = g) wr).set (p := ⟨g, i * 6, none⟩) rfl _).step hb2)
           obtain ⟨u1, hu1⟩ := own_has Ho2.out (i * 6 + 1) (by omega)
           have hf1 := Ho2.out.frozenAt (i * 6 + 1)))
      go_roundw
      case rel =>
        refine ⟨i + 1, by omega, by go_num, by rw [Hend.out, hnf]; go_num, ?_, ?_, ?_⟩
        · rw [Hsuc.out, ← Hset.out]
          have h6 := put6 L i Hll.out (markFil m f)
          rw [Hget.out Hll.out] at h6
          rw [← h6]
          exact owns_turned (((ho3.out.stored (i * 6 + 2) _).1.stored (i * 6 + 3) _).1.stored (i * 6 + 4) _).1 Ht5.out (fun b hb hb' => Hne.out (f, bv) (by simp) b hb' (by cases hb; rfl))
        · rw [Hsuc.out, List.append_assoc]
          exact bodies_mid (f := markFil m f) (bodies_turned Hbo.out (((ht3.out.set (p := ⟨g, i * 6 + 2, none⟩) rfl _).set (p := ⟨g, i * 6 + 3, none⟩) rfl _).set (p := ⟨g, i * 6 + 4, none⟩) rfl _) Hne.out) Ht5.out (by have := Hq5.out; rw [show (markFil m f).body = marksS (m + 5) f.body.length from rfl, marksS_len]; exact this)
        · exact (Htu.out.trans ((((ht3.out.set (p := ⟨g, i * 6 + 2, none⟩) rfl _).set (p := ⟨g, i * 6 + 3, none⟩) rfl _).set (p := ⟨g, i * 6 + 4, none⟩) rfl _).mono (fun b hb => .inl (by rw [hb]; rfl)))).trans (Ht5.out.mono (fun b hb => .inr ⟨(f, bv), Hmem.out, hb⟩))
      case measure => simp [intOf]; omega
    · obtain rfl : i = ps.length := by omega
      have Ho := Lib.hid (show OwnFils wr B (.slice aa ps.length ca) (markP k ps) from ⟨by rw [markP_len]; simpa using ho, by simpa using hbo⟩)
      clear ho hbo
      go_wp2_with fail
      go_ret
      exact ⟨by rw [List.take_length]; rfl, Ho.out, htu⟩

set_option maxRecDepth 100000 in
set_option maxHeartbeats 1000000 in
theorem laws_markTree (B : Nat) (v : Value) (ps : List (Fil × Value)) (k : Nat) (w : World) (hown : OwnFils w B v ps) (h1 : 1 ≤ k) (h9 : endF k (ps.map (·.1)) ≤ 9000000) (hn9 : ps.length ≤ 9000000) :
    Calls Try.prog 71 #[.agg #[v], .int .i64 k] w fun e w' => e = .returned (.int .i64 ((endF k (ps.map (·.1)) : Nat) : Int)) ∧ OwnFils w' B v (markP k ps) ∧ Turned (BlkF v ps) w w' := by
  obtain ⟨aa, ca, rfl⟩ := owns_shape hown.1
  have Hown := Lib.hid hown
  clear hown
  go_enter Try.func71, Try.ntmps71
  go_wp2_with (go_at_call 109; refine (laws_markFileS B _ ps k _ (Hown.out.below (by (repeat (with_reducible first | exact Below.refl _ _ | assumption | refine ba ?_ _ | refine bd ?_ | refine bdN ?_ _ | refine bs ?_ (by first | exact Nat.le_refl _ | (dsimp only; omega) | (simp; done)) _ | refine bt ?_ (by assumption))))) h1 h9 hn9).mono ?_; rintro _ w5 ⟨rfl, ho5, ht5⟩; have Ho5 := Lib.hid ho5; have Ht5 := Lib.hid ht5; clear ho5 ht5)
  go_ret
  exact ⟨rfl, Ho5.out, (Turned.of_below (by (repeat (with_reducible first | exact Below.refl _ _ | assumption | refine ba ?_ _ | refine bd ?_ | refine bdN ?_ _ | refine bs ?_ (by first | exact Nat.le_refl _ | (dsimp only; omega) | (simp; done)) _ | refine bt ?_ (by assumption))))).trans Ht5.out⟩
theorem owns_turned_all {w w' : World} {B e size n : Nat} {v u : Value} {ps : List (Fil × Value)} {xs : List Value} (h : w.ownsRow B e size u n xs) (ht : Turned (BlkF v ps) w w') (hs : ∀ b, BlkF v ps b → b < B) : w'.ownsRow B e size u n xs :=
  owns_heap h (fun b hb => ht.block b (h.lt b hb).2 (fun e1 => by have h1 := hs b e1; have h2 := (h.lt b hb).1; omega))
theorem blkF_ge {w : World} {B : Nat} {v : Value} {ps : List (Fil × Value)} {T : TypeId} {n : Nat} {xs : List Value} {size : Nat} (h : w.ownsRow B T size v n xs) (hb : ∀ p ∈ ps, ∃ T' s' n' xs', w.ownsRow B T' s' p.2 n' xs') : ∀ b, BlkF v ps b → B ≤ b ∧ b < w.heap.size := by
  rintro b (hb' | ⟨p, hp, hb'⟩)
  · exact h.lt b hb'
  · obtain ⟨T', s', n', xs', h'⟩ := hb p hp
    exact h'.lt b hb'
theorem endF_le (k : Nat) : ∀ (fs : List Fil), endF k fs = k + 5 * fs.length + 5 * (fs.map (fun f => f.body.length)).sum
  | [] => rfl
  | f :: r => by
    have h := endF_le (nextF k f) r
    rw [show endF k (f :: r) = endF (nextF k f) r from rfl, h]
    simp only [nextF, List.length_cons, List.map_cons, List.sum_cons]
    omega
theorem sum_le {fs : List Fil} : (fs.map (fun f => f.body.length)).sum ≤ (fs.map filCost).sum := by
  induction fs with
  | nil => exact Nat.le_refl _
  | cons f r ih =>
    simp only [List.map_cons, List.sum_cons]
    have : f.body.length ≤ filCost f := by unfold filCost stmsCost; omega
    omega
theorem end_of {fs : List Fil} (h : filsCost fs ≤ 1048576) : endF 1 fs ≤ 9000000 ∧ fs.length ≤ 1048576 := by
  have h1 := endF_le 1 fs
  have h2 := sum_le (fs := fs)
  unfold filsCost at h
  omega
theorem reads_turned {w w' : World} {v : Value} {xs : List Bs} {S : Nat → Prop} (h : Reads w v xs) (ht : Turned S w w') (hs : ∀ b, v.ownBlock = some b → ¬ S b) : Reads w' v xs := by
  rcases h with h | ⟨b, off, cap, rfl, h2, h3, h4, h5⟩
  · exact .inl h
  · exact .inr ⟨b, off, cap, rfl, h2, h3, Nat.lt_of_lt_of_le h4 ht.size, fun k hk => by rw [World.cell?_of_block (w := w) (ht.block b h4 (hs b rfl))]; exact h5 k hk⟩
end Go.Proofs.Ytgecemngfpgcoaa
