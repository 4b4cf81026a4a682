/- The exact laws' marks in rows of what is compiled, and the looks for them. Written by mkmarkc.py. -/
import Derived.Test.YtomdmkhgkaalnaaStoreMem
import Derived.Test.YtomdmkhgkaalnaaMarks2
import Derived.Test.YtomdmkhgkaalnaaHeld
import Derived.Deep.RegionHeld3
set_option linter.unusedVariables false
set_option linter.unusedSimpArgs false
namespace Go.Proofs.Ytomdmkhgkaalnaa.Nm
open Go.RowKit
theorem put8 (L : List (Cmp × Value)) (i : Nat) (hi : i < L.length) (f : Cmp) :
    ((((((((L.flatMap cmpCells).set (i * 8) (.int .i64 f.root)).set (i * 8 + 1) (.string (mk f.module))).set (i * 8 + 2) (.bool f.init)).set (i * 8 + 3) (.int .i64 f.mode)).set (i * 8 + 4) (.int .i64 f.stamp)).set (i * 8 + 5) (.int .i64 f.size)).set (i * 8 + 6) (.int .i64 f.hash)) = (L.set i (f, L[i].2)).flatMap cmpCells := by
  have hA := fm_take_len cmpCells 8 L i hi cmpCells_len
  have ha : cmpCells L[i] = [.int .i64 L[i].1.root, .string (mk L[i].1.module), .bool L[i].1.init, .int .i64 L[i].1.mode, .int .i64 L[i].1.stamp, .int .i64 L[i].1.size, .int .i64 L[i].1.hash, L[i].2] := rfl
  rw [fm_split cmpCells L i hi, ha, fm_put cmpCells L i _ hi]
  have s0 : ((L.take i).flatMap cmpCells ++ ([.int .i64 L[i].1.root, .string (mk L[i].1.module), .bool L[i].1.init, .int .i64 L[i].1.mode, .int .i64 L[i].1.stamp, .int .i64 L[i].1.size, .int .i64 L[i].1.hash, L[i].2] ++ (L.drop (i + 1)).flatMap cmpCells)).set (i * 8) (.int .i64 f.root) = (L.take i).flatMap cmpCells ++ ([Value.int .i64 L[i].1.root, .string (mk L[i].1.module), .bool L[i].1.init, .int .i64 L[i].1.mode, .int .i64 L[i].1.stamp, .int .i64 L[i].1.size, .int .i64 L[i].1.hash, L[i].2].set 0 (.int .i64 f.root) ++ (L.drop (i + 1)).flatMap cmpCells) := set_mid _ _ _ (i * 8) 0 _ hA (by simp)
  rw [s0, set_mid _ _ _ (i * 8) 1 _ hA (by simp), set_mid _ _ _ (i * 8) 2 _ hA (by simp), set_mid _ _ _ (i * 8) 3 _ hA (by simp), set_mid _ _ _ (i * 8) 4 _ hA (by simp), set_mid _ _ _ (i * 8) 5 _ hA (by simp), set_mid _ _ _ (i * 8) 6 _ hA (by simp)]
  rfl
end Go.Proofs.Ytomdmkhgkaalnaa.Nm
namespace Go.Proofs.Ytomdmkhgkaalnaa
open Go.RowKit Go.Proofs.Ytomdmkhgkaalnaa.Nm

def markCmp (k : Nat) (f : Cmp) : Cmp := ⟨k, mt (k + 1), decide (((k : Int) + 1 + 1).tmod 3 = 0), (k : Int) + 1 + 1 + 1, (k : Int) + 1 + 1 + 1 + 1, (k : Int) + 1 + 1 + 1 + 1 + 1, (k : Int) + 1 + 1 + 1 + 1 + 1 + 1, marksS (k + 7) f.body.length⟩
def nextC (k : Nat) (f : Cmp) : Nat := k + 7 + 5 * f.body.length
def endC (k : Nat) (fs : List Cmp) : Nat := fs.foldl nextC k
def marksC : Nat → List Cmp → List Cmp
  | _, [] => []
  | k, f :: r => markCmp k f :: marksC (nextC k f) r
theorem endC_snoc (k : Nat) (fs : List Cmp) (i : Nat) (h : i < fs.length) : endC k (fs.take (i + 1)) = nextC (endC k (fs.take i)) fs[i] := by
  rw [List.take_succ_eq_append_getElem h, endC, List.foldl_append]; rfl
theorem marksC_app : ∀ (k : Nat) (fs gs : List Cmp), marksC k (fs ++ gs) = marksC k fs ++ marksC (endC k fs) gs
  | _, [], _ => rfl
  | k, f :: r, gs => by rw [List.cons_append, marksC, marksC_app, marksC]; rfl
theorem marksC_snoc (k : Nat) (fs : List Cmp) (i : Nat) (h : i < fs.length) : marksC k (fs.take (i + 1)) = marksC k (fs.take i) ++ [markCmp (endC k (fs.take i)) fs[i]] := by
  rw [List.take_succ_eq_append_getElem h, marksC_app]; rfl
theorem marksC_len : ∀ (k : Nat) (fs : List Cmp), (marksC k fs).length = fs.length
  | _, [] => rfl
  | k, f :: r => by rw [marksC, List.length_cons, marksC_len, List.length_cons]
theorem endC_mono : ∀ (k : Nat) (fs : List Cmp), k ≤ endC k fs
  | _, [] => Nat.le_refl _
  | k, f :: r => Nat.le_trans (by unfold nextC; omega) (endC_mono (nextC k f) r)
theorem endC_take (k : Nat) (fs : List Cmp) (i : Nat) : endC k (fs.take i) ≤ endC k fs := by
  have h := List.take_append_drop i fs
  have e : endC k fs = endC (endC k (fs.take i)) (fs.drop i) := by rw [endC, endC, endC, ← List.foldl_append, h]
  rw [e]; exact endC_mono _ _

/-- The blocks of files and of their bodies. -/
def BlkC (v : Value) (ps : List (Cmp × Value)) (b : Nat) : Prop := v.ownBlock = some b ∨ ∃ p ∈ ps, p.2.ownBlock = some b
/-- Pairs of files and bodies, marked. -/
def markR (k : Nat) (ps : List (Cmp × Value)) : List (Cmp × Value) := (marksC k (ps.map (·.1))).zip (ps.map (·.2))
theorem markR_fst (k : Nat) (ps : List (Cmp × Value)) : (markR k ps).map (·.1) = marksC k (ps.map (·.1)) := by
  rw [markR, List.map_fst_zip]; simp [marksC_len]
theorem markR_snd (k : Nat) (ps : List (Cmp × Value)) : (markR k ps).map (·.2) = ps.map (·.2) := by
  rw [markR, List.map_snd_zip]; simp [marksC_len]
theorem markR_len (k : Nat) (ps : List (Cmp × Value)) : (markR k ps).length = ps.length := by simp [markR, marksC_len]
theorem markR_snoc (k : Nat) (ps : List (Cmp × Value)) (i : Nat) (h : i < ps.length) : markR k (ps.take (i + 1)) = markR k (ps.take i) ++ [(markCmp (endC k ((ps.take i).map (·.1))) ps[i].1, ps[i].2)] := by
  rw [List.take_succ_eq_append_getElem h, markR, List.map_append, List.map_append, marksC_app, List.zip_append (by simp [marksC_len])]; rfl
theorem cbods_turned {w w' : World} {B : Nat} {ps : List (Cmp × Value)} {S : Nat → Prop} (h : OwnCmpBodies w B ps) (ht : Turned S w w') (hs : ∀ p ∈ ps, ∀ b, p.2.ownBlock = some b → ¬ S b) : OwnCmpBodies w' B ps :=
  h.heap (fun b _ hlt ⟨p, hp, hb⟩ => ht.block b hlt (hs p hp b hb))
/-- One body in the midst is written. -/
theorem cbods_mid {w w' : World} {B : Nat} {A C : List (Cmp × Value)} {p : Cmp × Value} {f : Cmp} (h : OwnCmpBodies w B (A ++ p :: C)) (ht : Turned (fun b => p.2.ownBlock = some b) w w')
    (hq : w'.ownsRow B 124 5 p.2 f.body.length (f.body.flatMap stmCells)) : OwnCmpBodies w' B (A ++ (f, p.2) :: C) := by
  obtain ⟨h1, h2⟩ := h
  rw [List.pairwise_append, List.pairwise_cons] at h2
  obtain ⟨hA, ⟨hpC, hC⟩, hAC⟩ := h2
  refine ⟨fun q hq' => ?_, ?_⟩
  · rcases List.mem_append.1 hq' with hm | hm
    · exact owns_turned (h1 q (List.mem_append_left _ hm)) ht (fun b hb hb' => hAC q hm p (List.mem_cons_self ..) b hb hb')
    · rcases List.mem_cons.1 hm with rfl | hm
      · exact hq
      · exact owns_turned (h1 q (List.mem_append_right _ (List.mem_cons_of_mem _ hm))) ht (fun b hb hb' => hpC q hm b hb' hb)
  · rw [List.pairwise_append, List.pairwise_cons]
    refine ⟨hA, ⟨fun q hm => hpC q hm, hC⟩, fun a ha q hm => ?_⟩
    rcases List.mem_cons.1 hm with rfl | hm
    · exact hAC a ha p (List.mem_cons_self ..)
    · exact hAC a ha q (List.mem_cons_of_mem _ hm)

theorem laws_markStmtSC (B : Nat) (v : Value) (ss : List Stm) (x : Int) (k : Nat) (w : World) (hx : x = k) (hown : w.ownsRow B 124 5 v ss.length (ss.flatMap stmCells)) (h1 : 1 ≤ k) (h9 : k + 5 * ss.length ≤ 9000000) :
    Calls Try.prog 72 #[v, .int .i64 x] w fun e w' => e = .returned (.int .i64 ((k + 5 * ss.length : Nat) : Int)) ∧ w'.ownsRow B 124 5 v ss.length ((marksS k ss.length).flatMap stmCells) ∧ Turned (fun b => v.ownBlock = some b) w w' := by subst hx; exact laws_markStmtS B v ss k w hown h1 h9
set_option maxRecDepth 100000 in
set_option maxHeartbeats 2000000 in
theorem laws_markCompiledS (B : Nat) (v : Value) (ps : List (Cmp × Value)) (k : Nat) (w : World) (hown : OwnCmps w B v ps) (h1 : 1 ≤ k) (h9 : endC k (ps.map (·.1)) ≤ 9000000) (hn9 : ps.length ≤ 9000000) :
    Calls Try.prog 22 #[v, .int .i64 k] w fun e w' => e = .returned (.int .i64 ((endC k (ps.map (·.1)) : Nat) : Int)) ∧ OwnCmps w' B v (markR k ps) ∧ Turned (BlkC v ps) w w' := by
  obtain ⟨hown, hbod⟩ := hown
  obtain ⟨aa, ca, rfl⟩ := owns_shape hown
  have Hown := Lib.hid hown
  have Hbod := Lib.hid hbod
  have H9 := Lib.hid h9
  clear hown h9 hbod
  go_enter Try.func22, Try.ntmps22
  go_wp2_with fail
  go_loopw [1, 5] (fun kv iv wr => ∃ i : Nat, i ≤ ps.length ∧ iv = .int .i64 i ∧ kv = .int .i64 ((endC k ((ps.take i).map (·.1)) : Nat) : Int) ∧ wr.ownsRow B 53 8 (.slice aa ps.length ca) ps.length ((markR k (ps.take i) ++ ps.drop i).flatMap cmpCells) ∧ OwnCmpBodies wr B (markR k (ps.take i) ++ ps.drop i) ∧ Turned (BlkC (.slice aa ps.length ca) ps) w wr) (fun _ iv _ => ps.length - (intOf iv).toNat)
  case atStart => exact ⟨0, by omega, rfl, rfl, by simpa [markR, marksC] using Hown.out, by simpa [markR, marksC] using Hbod.out, Turned.refl _ _⟩
  case round =>
    obtain ⟨i, hi, rfl, rfl, ho, hbo, htu⟩ := hrel
    by_cases hlt : i < ps.length
    · obtain ⟨g, cap, e1, hg, hg2⟩ := ho.form (by omega)
      simp only [Value.slice.injEq] at e1
      obtain ⟨rfl, _, rfl⟩ := e1
      have Ho := Lib.hid ho
      have Htu := Lib.hid htu
      have Hl1 := Lib.hid (show (markR k (ps.take i)).length = i by rw [markR_len]; simp; omega)
      have Hbo := Lib.hid (show OwnCmpBodies wr B (markR k (ps.take i) ++ ps[i] :: ps.drop (i + 1)) by rw [← List.drop_eq_getElem_cons hlt]; exact hbo)
      have Hset := Lib.hid (mid_set (markR k (ps.take i)) ps i (markCmp (endC k ((ps.take i).map (·.1))) ps[i].1, ps[i].2) Hl1.out hlt)
      have Hsuc := Lib.hid (markR_snoc k ps i hlt)
      have Hend := Lib.hid (show endC k ((ps.take (i + 1)).map (·.1)) = nextC (endC k ((ps.take i).map (·.1))) ps[i].1 by have := endC_snoc k (ps.map (·.1)) i (by simpa using hlt); rw [← List.map_take, ← List.map_take] at this; simpa using this)
      have hmb : 1 ≤ endC k ((ps.take i).map (·.1)) ∧ nextC (endC k ((ps.take i).map (·.1))) ps[i].1 ≤ 9000000 := by
        refine ⟨Nat.le_trans h1 (endC_mono _ _), ?_⟩
        have h := endC_take k (ps.map (·.1)) (i + 1)
        rw [← List.map_take, Hend.out] at h
        exact Nat.le_trans h H9.out
      have Hmem := Lib.hid (List.getElem_mem hlt)
      have Hget := Lib.hid (show ∀ h : i < (markR k (ps.take i) ++ ps.drop i).length, ((markR k (ps.take i) ++ ps.drop i)[i]'h) = ps[i] by intro h; rw [List.getElem_append_right (by rw [Hl1.out]; exact Nat.le_refl _)]; simp [Hl1.out])
      have Hll := Lib.hid (show i < (markR k (ps.take i) ++ ps.drop i).length by simp [markR_len]; omega)
      obtain ⟨m, hm⟩ : ∃ m, m = endC k ((ps.take i).map (·.1)) := ⟨_, rfl⟩
      obtain ⟨p, hp⟩ : ∃ p, p = ps[i] := ⟨_, rfl⟩
      rw [← hm] at hmb Hset Hsuc Hend ⊢
      rw [← hp] at hmb Hset Hsuc Hend Hbo Hmem Hget
      have hfr0 := ho.frozenAt (i * 8)
      obtain ⟨u0, hu0⟩ := own_has ho (i * 8) (by omega)
      obtain ⟨f, bv⟩ := p
      clear ho hbo htu hm hp
      generalize markR k (ps.take i) ++ ps.drop i = L at *
      generalize markR k (ps.take i) = A at *
      have H7 := Lib.hid (show (L.flatMap cmpCells)[i * 8 + 7]? = some bv by rw [fm_get cmpCells 8 L i 7 Hll.out (by omega) cmpCells_len, Hget.out Hll.out]; rfl)
      have Hne := Lib.hid (show ∀ q ∈ A ++ (f, bv) :: ps.drop (i + 1), ∀ b, q.2.ownBlock = some b → ¬ b = g from fun q hq b hb e => own_types (by decide) (Hbo.out.1 q hq) Ho.out hb (by rw [e]; rfl))
      have hnf : nextC m f = m + 7 + 5 * f.body.length := rfl
      dsimp only at hmb Hset Hsuc Hend
      rw [hnf] at hmb
      go_wp2_with (first
        | (go_at_call 72; refine (laws_markStmtSC B bv f.body _ (m + 7) _ (by omega) ((cbods_turned Hbo.out ((((((ht2.out.set (p := ⟨g, i * 8 + 1, none⟩) rfl _).set (p := ⟨g, i * 8 + 2, none⟩) rfl _).set (p := ⟨g, i * 8 + 3, none⟩) rfl _).set (p := ⟨g, i * 8 + 4, none⟩) rfl _).set (p := ⟨g, i * 8 + 5, none⟩) rfl _).set (p := ⟨g, i * 8 + 6, none⟩) rfl _) Hne.out).1 (f, bv) (by simp)) (by omega) (by omega)).mono ?_; rintro _ w5 ⟨rfl, hq5, ht5⟩
           have Hq5 := Lib.hid hq5
           have Ht5 := Lib.hid ht5
           clear hq5 ht5)
        | (go_at_call 71; refine (laws_markTextI _ (m + 1) _ (by omega) (by omega) (by omega)).mono ?_; rintro _ w2 ⟨rfl, hb2⟩
           have Ho2 := Lib.hid (owns_below (Ho.out.stored (i * 8) _).1 hb2)
           have ht2 := Lib.hid (((Turned.refl (fun b => b = g) wr).set (p := ⟨g, i * 8, none⟩) rfl _).step hb2)
           obtain ⟨u1, hu1⟩ := own_has Ho2.out (i * 8 + 1) (by omega)
           obtain ⟨u2, hu2⟩ := own_has Ho2.out (i * 8 + 2) (by omega)
           obtain ⟨u3, hu3⟩ := own_has Ho2.out (i * 8 + 3) (by omega)
           obtain ⟨u4, hu4⟩ := own_has Ho2.out (i * 8 + 4) (by omega)
           obtain ⟨u5, hu5⟩ := own_has Ho2.out (i * 8 + 5) (by omega)
           obtain ⟨u6, hu6⟩ := own_has Ho2.out (i * 8 + 6) (by omega)
           have hc7 : w2.cell? ⟨g, i * 8 + 7, none⟩ = some bv := by
             rw [Ho2.out.cellAt _ (by omega), List.getElem?_set_ne (by omega)]; exact H7.out
           have hf1 := Ho2.out.frozenAt (i * 8 + 1)
           have hf2 := Ho2.out.frozenAt (i * 8 + 2)
           have hf3 := Ho2.out.frozenAt (i * 8 + 3)
           have hf4 := Ho2.out.frozenAt (i * 8 + 4)
           have hf5 := Ho2.out.frozenAt (i * 8 + 5)
           have hf6 := Ho2.out.frozenAt (i * 8 + 6)))
      go_roundw
      case rel =>
        refine ⟨i + 1, by omega, by go_num, by rw [Hend.out, hnf]; go_num, ?_, ?_, ?_⟩
        · rw [Hsuc.out, ← Hset.out]
          have h6 := put8 L i Hll.out (markCmp m f)
          rw [Hget.out Hll.out] at h6
          rw [← h6]
          exact owns_turned ((((((Ho2.out.stored (i * 8 + 1) _).1.stored (i * 8 + 2) _).1.stored (i * 8 + 3) _).1.stored (i * 8 + 4) _).1.stored (i * 8 + 5) _).1.stored (i * 8 + 6) _).1 Ht5.out (fun b hb hb' => Hne.out (f, bv) (by simp) b hb' (by cases hb; rfl))
        · rw [Hsuc.out, List.append_assoc]
          exact cbods_mid (f := markCmp m f) (cbods_turned Hbo.out ((((((ht2.out.set (p := ⟨g, i * 8 + 1, none⟩) rfl _).set (p := ⟨g, i * 8 + 2, none⟩) rfl _).set (p := ⟨g, i * 8 + 3, none⟩) rfl _).set (p := ⟨g, i * 8 + 4, none⟩) rfl _).set (p := ⟨g, i * 8 + 5, none⟩) rfl _).set (p := ⟨g, i * 8 + 6, none⟩) rfl _) Hne.out) Ht5.out (by have := Hq5.out; rw [show (markCmp m f).body = marksS (m + 7) f.body.length from rfl, marksS_len]; exact this)
        · exact (Htu.out.trans (((((((ht2.out.set (p := ⟨g, i * 8 + 1, none⟩) rfl _).set (p := ⟨g, i * 8 + 2, none⟩) rfl _).set (p := ⟨g, i * 8 + 3, none⟩) rfl _).set (p := ⟨g, i * 8 + 4, none⟩) rfl _).set (p := ⟨g, i * 8 + 5, none⟩) rfl _).set (p := ⟨g, i * 8 + 6, none⟩) rfl _).mono (fun b hb => .inl (by rw [hb]; rfl)))).trans (Ht5.out.mono (fun b hb => .inr ⟨(f, bv), Hmem.out, hb⟩))
      case measure => simp [intOf]; omega
    · obtain rfl : i = ps.length := by omega
      have Ho := Lib.hid (show OwnCmps wr B (.slice aa ps.length ca) (markR k ps) from ⟨by rw [markR_len]; simpa using ho, by simpa using hbo⟩)
      clear ho hbo
      go_wp2_with fail
      go_ret
      exact ⟨by rw [List.take_length]; rfl, Ho.out, htu⟩
theorem laws_heldStmtSC (v : Value) (D : Nat → Prop) (n : Nat) (x : Int) (k : Nat) (w : World) (hx : x = k) (hr : StmsIn w D v (marksS k n)) (h1 : 1 ≤ k) (h9 : k + 5 * n ≤ 9000000) :
    Calls Try.prog 74 #[v, .int .i64 x] w fun e w' => e = .returned (.int .i64 ((k + 5 * n : Nat) : Int)) ∧ Below w.heap.size w w' := by subst hx; exact laws_heldStmtS v D n k w hr h1 h9
theorem marksC_at (k : Nat) (fs : List Cmp) (i : Nat) (h : i < fs.length) (h' : i < (marksC k fs).length) : (marksC k fs)[i] = markCmp (endC k (fs.take i)) fs[i] := by
  have e := marksC_snoc k fs i h
  have h2 : marksC k fs = marksC k (fs.take (i + 1)) ++ marksC (endC k (fs.take (i + 1))) (fs.drop (i + 1)) := by rw [← marksC_app, List.take_append_drop]
  have hl : (marksC k (fs.take i)).length = i := by rw [marksC_len]; simp; omega
  have h3 : (marksC k fs)[i]? = some (markCmp (endC k (fs.take i)) fs[i]) := by
    rw [h2, e, List.append_assoc, List.getElem?_append_right (by omega), hl, Nat.sub_self]; rfl
  rw [List.getElem?_eq_getElem h'] at h3
  exact Option.some.inj h3
set_option maxRecDepth 100000 in
set_option maxHeartbeats 4000000 in
theorem laws_heldCompiledS (v : Value) (D : Nat → Prop) (fs : List Cmp) (k : Nat) (w : World) (hr : CmpsIn w D v (marksC k fs)) (h1 : 1 ≤ k) (h9 : endC k fs ≤ 9000000) (hn9 : fs.length ≤ 9000000) :
    Calls Try.prog 24 #[v, .int .i64 k] w fun e w' => e = .returned (.int .i64 ((endC k fs : Nat) : Int)) ∧ Below w.heap.size w w' := by
  have hl := marksC_len k fs
  have Hr := Lib.hid hr
  obtain ⟨aa, ca, rfl, hlc, hm⟩ := hr.len
  have hv : (Value.slice aa (marksC k fs).length ca) = .slice aa fs.length ca := by rw [hl]
  rw [hv]
  have H9 := Lib.hid h9
  have Hl := Lib.hid hl
  clear hr hl h9 hv hlc hm
  go_enter Try.func24, Try.ntmps24
  go_wp2_with fail
  go_loopw [1, 5] (fun kv iv wr => ∃ i : Nat, i ≤ fs.length ∧ iv = .int .i64 i ∧ kv = .int .i64 ((endC k (fs.take i) : Nat) : Int) ∧ Below w.heap.size w wr) (fun _ iv _ => fs.length - (intOf iv).toNat)
  case atStart => exact ⟨0, by omega, rfl, rfl, Below.refl _ _⟩
  case round =>
    obtain ⟨i, hi, rfl, rfl, hbel⟩ := hrel
    by_cases hlt : i < fs.length
    · obtain ⟨b, off, cap, bv, e, hD, hb, hbody, c0, c1, c2, c3, c4, c5, c6, c7⟩ := (Hr.out.below hbel).at_ (i := i) (by rw [Hl.out]; exact hlt)
      simp only [Value.slice.injEq] at e
      obtain ⟨rfl, hdel, rfl⟩ := e
      clear hdel
      have hget := marksC_at k fs i hlt (by rw [Hl.out]; exact hlt)
      rw [hget] at c0 c1 c2 c3 c4 c5 c6 hbody
      have Hend := Lib.hid (endC_snoc k fs i hlt)
      have hmb : 1 ≤ endC k (fs.take i) ∧ nextC (endC k (fs.take i)) fs[i] ≤ 9000000 := by
        refine ⟨Nat.le_trans h1 (endC_mono _ _), ?_⟩
        have h := endC_take k fs (i + 1)
        rw [Hend.out] at h
        exact Nat.le_trans h H9.out
      obtain ⟨m, hm⟩ : ∃ m, m = endC k (fs.take i) := ⟨_, rfl⟩
      obtain ⟨f, hf⟩ : ∃ f, f = fs[i] := ⟨_, rfl⟩
      rw [← hm, ← hf] at hmb c0 c1 c2 c3 c4 c5 c6 hbody Hend
      rw [← hm]
      simp only [markCmp] at c0 c1 c2 c3 c4 c5 c6 hbody
      have hnf : nextC m f = m + 7 + 5 * f.body.length := rfl
      rw [hnf] at hmb
      obtain ⟨t1, ht1⟩ : ∃ t, t = mt (m + 1) := ⟨_, rfl⟩
      rw [← ht1] at c1
      have Ht1 := Lib.hid ht1
      have Hbel := Lib.hid hbel
      have Hbody := Lib.hid hbody
      have hi9 : (i : Int) ≤ 9000000 := by omega
      clear hm hf ht1 hget hbel hbody
      have Hk := Lib.hid (fun (w' : World) (hB : Below wr.heap.size wr w') => (⟨(hB.cell (p := ⟨b, off + i * 8 + 1, none⟩) hb).trans c1, (hB.cell (p := ⟨b, off + i * 8 + 2, none⟩) hb).trans c2, (hB.cell (p := ⟨b, off + i * 8 + 3, none⟩) hb).trans c3, (hB.cell (p := ⟨b, off + i * 8 + 4, none⟩) hb).trans c4, (hB.cell (p := ⟨b, off + i * 8 + 5, none⟩) hb).trans c5, (hB.cell (p := ⟨b, off + i * 8 + 6, none⟩) hb).trans c6, (hB.cell (p := ⟨b, off + i * 8 + 7, none⟩) hb).trans c7, hB⟩ : w'.cell? ⟨b, off + i * 8 + 1, none⟩ = some (.string (mk t1)) ∧ w'.cell? ⟨b, off + i * 8 + 2, none⟩ = some (.bool (decide (((m : Int) + 1 + 1).tmod 3 = 0))) ∧ w'.cell? ⟨b, off + i * 8 + 3, none⟩ = some (.int .i64 ((m : Int) + 1 + 1 + 1)) ∧ w'.cell? ⟨b, off + i * 8 + 4, none⟩ = some (.int .i64 ((m : Int) + 1 + 1 + 1 + 1)) ∧ w'.cell? ⟨b, off + i * 8 + 5, none⟩ = some (.int .i64 ((m : Int) + 1 + 1 + 1 + 1 + 1)) ∧ w'.cell? ⟨b, off + i * 8 + 6, none⟩ = some (.int .i64 ((m : Int) + 1 + 1 + 1 + 1 + 1 + 1)) ∧ w'.cell? ⟨b, off + i * 8 + 7, none⟩ = some bv ∧ Below wr.heap.size wr w'))
      go_wp2_with fail
      go_region_held3 (fun w' => w'.cell? ⟨b, off + i * 8 + 1, none⟩ = some (.string (mk t1)) ∧ w'.cell? ⟨b, off + i * 8 + 2, none⟩ = some (.bool (decide (((m : Int) + 1 + 1).tmod 3 = 0))) ∧ w'.cell? ⟨b, off + i * 8 + 3, none⟩ = some (.int .i64 ((m : Int) + 1 + 1 + 1)) ∧ w'.cell? ⟨b, off + i * 8 + 4, none⟩ = some (.int .i64 ((m : Int) + 1 + 1 + 1 + 1)) ∧ w'.cell? ⟨b, off + i * 8 + 5, none⟩ = some (.int .i64 ((m : Int) + 1 + 1 + 1 + 1 + 1)) ∧ w'.cell? ⟨b, off + i * 8 + 6, none⟩ = some (.int .i64 ((m : Int) + 1 + 1 + 1 + 1 + 1 + 1)) ∧ w'.cell? ⟨b, off + i * 8 + 7, none⟩ = some bv ∧ Below wr.heap.size wr w')
        (exact Hk.out _ (by (repeat (with_reducible first | exact Below.refl _ _ | assumption | refine ba ?_ _ | refine bd ?_ | refine bdN ?_ _ | refine bs ?_ (by first | exact Nat.le_refl _ | (dsimp only; omega) | (simp; done)) _ | refine bt ?_ (by assumption)))))
        (first | (go_at_call 71; refine (laws_markTextI _ (m + 1) _ (by omega) (by omega) (by omega)).mono ?_; rintro _ w5 ⟨rfl, hb5⟩; rw [← Ht1.out]))
      have Hb6 := Lib.hid (show Below wr.heap.size wr w5 by (repeat (with_reducible first | exact Below.refl _ _ | assumption | refine ba ?_ _ | refine bd ?_ | refine bdN ?_ _ | refine bs ?_ (by first | exact Nat.le_refl _ | (dsimp only; omega) | (simp; done)) _ | refine bt ?_ (by assumption))))
      have hb6 : b < w5.heap.size := Nat.lt_of_lt_of_le hb Hb6.out.size
      obtain ⟨_, f2, f3, f4, f5, f6, f7, _⟩ := Hk.out w5 Hb6.out
      have Hb9 := Lib.hid Hb6.out
      go_wp2_with (go_at_call 74; refine (laws_heldStmtSC bv D f.body.length _ (m + 7) _ (by omega) (Hbody.out.below (bt Hb9.out (by (repeat (with_reducible first | exact Below.refl _ _ | assumption | refine ba ?_ _ | refine bd ?_ | refine bdN ?_ _ | refine bs ?_ (by first | exact Nat.le_refl _ | (dsimp only; omega) | (simp; done)) _ | refine bt ?_ (by assumption)))))) (by omega) (by omega)).mono ?_; rintro _ w9 ⟨rfl, hb9⟩; have hk0 : ¬ (((m + 7 + 5 * f.body.length : Nat)) : Int) < 0 := Int.not_lt.2 (Int.natCast_nonneg _))
      all_goals first
        | exact ⟨⟨i + 1, by omega, by go_num, by rw [Hend.out, hnf]; go_num, bt (bt Hbel.out Hb9.out) (bt (by (repeat (with_reducible first | exact Below.refl _ _ | assumption | refine ba ?_ _ | refine bd ?_ | refine bdN ?_ _ | refine bs ?_ (by first | exact Nat.le_refl _ | (dsimp only; omega) | (simp; done)) _ | refine bt ?_ (by assumption)))) hb9)⟩, by simp [intOf]; omega⟩
        | (rename_i h; exfalso; revert h; by_cases hq : ((m : Int) + 1 + 1) % 3 = 0 <;> simp [hq]; done)
    · obtain rfl : i = fs.length := by omega
      go_wp2_with fail
      go_ret
      exact ⟨by rw [List.take_length]; rfl, hbel⟩
theorem endC_le (k : Nat) : ∀ (fs : List Cmp), endC k fs ≤ k + 7 * cmpsCost fs
  | [] => by simp [endC, cmpsCost]
  | f :: r => by
    have h := endC_le (nextC k f) r
    have e1 : endC k (f :: r) = endC (nextC k f) r := rfl
    have e2 : cmpsCost (f :: r) = 1 + cmpCost f + cmpsCost r := by simp [cmpsCost]; omega
    have e3 : cmpCost f = f.module.length + (f.body.length + (f.body.map stmCost).sum) := rfl
    have e4 : nextC k f = k + 7 + 5 * f.body.length := rfl
    omega
theorem cmpBodies_sum {l : List Cmp} (h : ∀ c ∈ l, okBody c.body = true) : (l.map (fun c => c.body.length)).sum ≤ 8 * l.length := by
  induction l with
  | nil => simp
  | cons x r ih =>
    have h1 := ih (fun c hc => h c (by simp [hc]))
    have h2 : x.body.length ≤ 8 := by have h3 := h x (by simp); unfold okBody at h3; simp only [Bool.and_eq_true, decide_eq_true_eq] at h3; exact h3.2
    simp; omega
theorem endC_eq (k : Nat) : ∀ (fs : List Cmp), endC k fs = k + 7 * fs.length + 5 * (fs.map (fun c => c.body.length)).sum
  | [] => rfl
  | f :: r => by
    have h := endC_eq (nextC k f) r
    rw [show endC k (f :: r) = endC (nextC k f) r from rfl, h]
    simp only [nextC, List.length_cons, List.map_cons, List.sum_cons]
    omega
theorem endC_fine {l : List Cmp} (h1 : ∀ c ∈ l, okBody c.body = true) (h2 : l.length ≤ 12) (k : Nat) : endC k l ≤ k + 1000 := by
  have h := endC_eq k l
  have := cmpBodies_sum h1
  omega
theorem cmps_turned {w w' : World} {B : Nat} {v : Value} {ps : List (Cmp × Value)} {S : Nat → Prop} (h : OwnCmps w B v ps) (ht : Turned S w w') (hs : ∀ b, BlkC v ps b → ¬ S b) : OwnCmps w' B v ps :=
  ⟨owns_turned h.1 ht (fun b hb => hs b (.inl hb)), cbods_turned h.2 ht (fun p hp b hb => hs b (.inr ⟨p, hp, hb⟩))⟩
theorem blkC_ge {w : World} {B : Nat} {v : Value} {ps : List (Cmp × Value)} (h : OwnCmps w B v ps) : ∀ b, BlkC v ps b → B ≤ b ∧ b < w.heap.size := by
  rintro b (hb | ⟨p, hp, hb⟩)
  · exact h.1.lt b hb
  · exact (h.2.1 p hp).lt b hb
end Go.Proofs.Ytomdmkhgkaalnaa
