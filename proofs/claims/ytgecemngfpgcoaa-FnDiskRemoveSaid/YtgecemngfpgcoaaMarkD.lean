/- The exact laws' marks in directories and finders. -/
import Derived.Test.YtgecemngfpgcoaaToDisk
import Derived.Test.YtgecemngfpgcoaaMarks2
import Derived.Test.YtgecemngfpgcoaaStrs
set_option linter.unusedVariables false
set_option linter.unusedSimpArgs false
namespace Go.Proofs.Ytgecemngfpgcoaa.Nm
open Go.RowKit
theorem put4 (L : List (Dr × Value)) (i : Nat) (hi : i < L.length) (f : Dr) :
    (((L.flatMap drCells).set (i * 4) (.int .i64 f.root)).set (i * 4 + 1) (.string (mk f.pack))).set (i * 4 + 2) (.int .i64 f.stamp) = (L.set i (f, L[i].2)).flatMap drCells := by
  have hA := fm_take_len drCells 4 L i hi drCells_len
  have ha : drCells L[i] = [.int .i64 L[i].1.root, .string (mk L[i].1.pack), .int .i64 L[i].1.stamp, L[i].2] := rfl
  rw [fm_split drCells L i hi, ha, fm_put drCells L i _ hi]
  have s0 : ((L.take i).flatMap drCells ++ ([.int .i64 L[i].1.root, .string (mk L[i].1.pack), .int .i64 L[i].1.stamp, L[i].2] ++ (L.drop (i + 1)).flatMap drCells)).set (i * 4) (.int .i64 f.root) = (L.take i).flatMap drCells ++ ([Value.int .i64 L[i].1.root, .string (mk L[i].1.pack), .int .i64 L[i].1.stamp, L[i].2].set 0 (.int .i64 f.root) ++ (L.drop (i + 1)).flatMap drCells) := set_mid _ _ _ (i * 4) 0 _ hA (by simp)
  rw [s0, set_mid _ _ _ (i * 4) 1 _ hA (by simp), set_mid _ _ _ (i * 4) 2 _ hA (by simp)]
  rfl
end Go.Proofs.Ytgecemngfpgcoaa.Nm
namespace Go.Proofs.Ytgecemngfpgcoaa
open Go.RowKit Go.Proofs.Ytgecemngfpgcoaa.Nm

theorem laws_markStringSI (B : Nat) (v : Value) (xs : List Bs) (x : Int) (k : Nat) (w : World) (hx : x = k) (hown : w.ownsRow B 9 1 v xs.length (xs.map sv)) (h1 : 1 ≤ k) (h9 : k + xs.length ≤ 9000000) :
    Calls Try.prog 111 #[v, .int .i64 x] w fun e w' => e = .returned (.int .i64 ((k + xs.length : Nat) : Int)) ∧ w'.ownsRow B 9 1 v xs.length ((marks k xs.length).map sv) ∧ Turned (fun b => v.ownBlock = some b) w w' := by subst hx; exact laws_markStringST B v xs k w hown h1 h9
def markDr (k : Nat) (f : Dr) : Dr := ⟨k, mt (k + 1), (k : Int) + 1 + 1, marks (k + 3) f.names.length⟩
def nextD (k : Nat) (f : Dr) : Nat := k + 3 + f.names.length
def endD (k : Nat) (fs : List Dr) : Nat := fs.foldl nextD k
def marksD : Nat → List Dr → List Dr
  | _, [] => []
  | k, f :: r => markDr k f :: marksD (nextD k f) r
theorem endD_snoc (k : Nat) (fs : List Dr) (i : Nat) (h : i < fs.length) : endD k (fs.take (i + 1)) = nextD (endD k (fs.take i)) fs[i] := by
  rw [List.take_succ_eq_append_getElem h, endD, List.foldl_append]; rfl
theorem marksD_app : ∀ (k : Nat) (fs gs : List Dr), marksD k (fs ++ gs) = marksD k fs ++ marksD (endD k fs) gs
  | _, [], _ => rfl
  | k, f :: r, gs => by rw [List.cons_append, marksD, marksD_app, marksD]; rfl
theorem marksD_snoc (k : Nat) (fs : List Dr) (i : Nat) (h : i < fs.length) : marksD k (fs.take (i + 1)) = marksD k (fs.take i) ++ [markDr (endD k (fs.take i)) fs[i]] := by
  rw [List.take_succ_eq_append_getElem h, marksD_app]; rfl
theorem marksD_len : ∀ (k : Nat) (fs : List Dr), (marksD k fs).length = fs.length
  | _, [] => rfl
  | k, f :: r => by rw [marksD, List.length_cons, marksD_len, List.length_cons]
theorem endD_mono : ∀ (k : Nat) (fs : List Dr), k ≤ endD k fs
  | _, [] => Nat.le_refl _
  | k, f :: r => Nat.le_trans (by unfold nextD; omega) (endD_mono (nextD k f) r)
theorem endD_take (k : Nat) (fs : List Dr) (i : Nat) : endD k (fs.take i) ≤ endD k fs := by
  have h := List.take_append_drop i fs
  have e : endD k fs = endD (endD k (fs.take i)) (fs.drop i) := by rw [endD, endD, endD, ← List.foldl_append, h]
  rw [e]; exact endD_mono _ _

/-- The blocks of files and of their bodies. -/
def BlkD (v : Value) (ps : List (Dr × Value)) (b : Nat) : Prop := v.ownBlock = some b ∨ ∃ p ∈ ps, p.2.ownBlock = some b
/-- Pairs of files and bodies, marked. -/
def markQ (k : Nat) (ps : List (Dr × Value)) : List (Dr × Value) := (marksD k (ps.map (·.1))).zip (ps.map (·.2))
theorem markQ_fst (k : Nat) (ps : List (Dr × Value)) : (markQ k ps).map (·.1) = marksD k (ps.map (·.1)) := by
  rw [markQ, List.map_fst_zip]; simp [marksD_len]
theorem markQ_snd (k : Nat) (ps : List (Dr × Value)) : (markQ k ps).map (·.2) = ps.map (·.2) := by
  rw [markQ, List.map_snd_zip]; simp [marksD_len]
theorem markQ_len (k : Nat) (ps : List (Dr × Value)) : (markQ k ps).length = ps.length := by simp [markQ, marksD_len]
theorem markQ_snoc (k : Nat) (ps : List (Dr × Value)) (i : Nat) (h : i < ps.length) : markQ k (ps.take (i + 1)) = markQ k (ps.take i) ++ [(markDr (endD k ((ps.take i).map (·.1))) ps[i].1, ps[i].2)] := by
  rw [List.take_succ_eq_append_getElem h, markQ, List.map_append, List.map_append, marksD_app, List.zip_append (by simp [marksD_len])]; rfl
theorem names_turned {w w' : World} {B : Nat} {ps : List (Dr × Value)} {S : Nat → Prop} (h : OwnNames w B ps) (ht : Turned S w w') (hs : ∀ p ∈ ps, ∀ b, p.2.ownBlock = some b → ¬ S b) : OwnNames w' B ps :=
  h.heap (fun b _ hlt ⟨p, hp, hb⟩ => ht.block b hlt (hs p hp b hb))
/-- One body in the midst is written. -/
theorem names_mid {w w' : World} {B : Nat} {A C : List (Dr × Value)} {p : Dr × Value} {f : Dr} (h : OwnNames w B (A ++ p :: C)) (ht : Turned (fun b => p.2.ownBlock = some b) w w')
    (hq : w'.ownsRow B 9 1 p.2 f.names.length (f.names.map sv)) : OwnNames w' B (A ++ (f, p.2) :: C) := by
  obtain ⟨h1, h2⟩ := h
  rw [List.pairwise_append, List.pairwise_cons] at h2
  obtain ⟨hA, ⟨hpC, hC⟩, hAC⟩ := h2
  refine ⟨fun q hq' => ?_, ?_⟩
  · rcases List.mem_append.1 hq' with hm | hm
    · exact owns_turned (h1 q (List.mem_append_left _ hm)) ht (fun b hb hb' => hAC q hm p (List.mem_cons_self ..) b hb hb')
    · rcases List.mem_cons.1 hm with rfl | hm
      · exact hq
      · exact owns_turned (h1 q (List.mem_append_right _ (List.mem_cons_of_mem _ hm))) ht (fun b hb hb' => hpC q hm b hb' hb)
  · rw [List.pairwise_append, List.pairwise_cons]
    refine ⟨hA, ⟨fun q hm => hpC q hm, hC⟩, fun a ha q hm => ?_⟩
    rcases List.mem_cons.1 hm with rfl | hm
    · exact hAC a ha p (List.mem_cons_self ..)
    · exact hAC a ha q (List.mem_cons_of_mem _ hm)

set_option maxRecDepth 100000 in
set_option maxHeartbeats 2000000 in
theorem laws_markDirS (B : Nat) (v : Value) (ps : List (Dr × Value)) (k : Nat) (w : World) (hown : OwnDirs w B v ps) (h1 : 1 ≤ k) (h9 : endD k (ps.map (·.1)) ≤ 9000000) (hn9 : ps.length ≤ 9000000) :
    Calls Try.prog 72 #[v, .int .i64 k] w fun e w' => e = .returned (.int .i64 ((endD k (ps.map (·.1)) : Nat) : Int)) ∧ OwnDirs w' B v (markQ k ps) ∧ Turned (BlkD v ps) w w' := by
  obtain ⟨hown, hbod⟩ := hown
  obtain ⟨aa, ca, rfl⟩ := owns_shape hown
  have Hown := Lib.hid hown
  have Hbod := Lib.hid hbod
  have H9 := Lib.hid h9
  clear hown h9 hbod
  go_enter Try.func72, Try.ntmps72
  go_wp2_with fail
  go_loopw [1, 5] (fun kv iv wr => ∃ i : Nat, i ≤ ps.length ∧ iv = .int .i64 i ∧ kv = .int .i64 ((endD k ((ps.take i).map (·.1)) : Nat) : Int) ∧ wr.ownsRow B 72 4 (.slice aa ps.length ca) ps.length ((markQ k (ps.take i) ++ ps.drop i).flatMap drCells) ∧ OwnNames wr B (markQ k (ps.take i) ++ ps.drop i) ∧ Turned (BlkD (.slice aa ps.length ca) ps) w wr) (fun _ iv _ => ps.length - (intOf iv).toNat)
  case atStart => exact ⟨0, by omega, rfl, rfl, by simpa [markQ, marksD] using Hown.out, by simpa [markQ, marksD] using Hbod.out, Turned.refl _ _⟩
  case round =>
    obtain ⟨i, hi, rfl, rfl, ho, hbo, htu⟩ := hrel
    by_cases hlt : i < ps.length
    · obtain ⟨g, cap, e1, hg, hg2⟩ := ho.form (by omega)
      simp only [Value.slice.injEq] at e1
      obtain ⟨rfl, _, rfl⟩ := e1
      have Ho := Lib.hid ho
      have Htu := Lib.hid htu
      have Hl1 := Lib.hid (show (markQ k (ps.take i)).length = i by rw [markQ_len]; simp; omega)
      have Hbo := Lib.hid (show OwnNames wr B (markQ k (ps.take i) ++ ps[i] :: ps.drop (i + 1)) by rw [← List.drop_eq_getElem_cons hlt]; exact hbo)
      have Hset := Lib.hid (mid_set (markQ k (ps.take i)) ps i (markDr (endD k ((ps.take i).map (·.1))) ps[i].1, ps[i].2) Hl1.out hlt)
      have Hsuc := Lib.hid (markQ_snoc k ps i hlt)
      have Hend := Lib.hid (show endD k ((ps.take (i + 1)).map (·.1)) = nextD (endD k ((ps.take i).map (·.1))) ps[i].1 by have := endD_snoc k (ps.map (·.1)) i (by simpa using hlt); rw [← List.map_take, ← List.map_take] at this; simpa using this)
      have hmb : 1 ≤ endD k ((ps.take i).map (·.1)) ∧ nextD (endD k ((ps.take i).map (·.1))) ps[i].1 ≤ 9000000 := by
        refine ⟨Nat.le_trans h1 (endD_mono _ _), ?_⟩
        have h := endD_take k (ps.map (·.1)) (i + 1)
        rw [← List.map_take, Hend.out] at h
        exact Nat.le_trans h H9.out
      have Hmem := Lib.hid (List.getElem_mem hlt)
      have Hget := Lib.hid (show ∀ h : i < (markQ k (ps.take i) ++ ps.drop i).length, ((markQ k (ps.take i) ++ ps.drop i)[i]'h) = ps[i] by intro h; rw [List.getElem_append_right (by rw [Hl1.out]; exact Nat.le_refl _)]; simp [Hl1.out])
      have Hll := Lib.hid (show i < (markQ k (ps.take i) ++ ps.drop i).length by simp [markQ_len]; omega)
      obtain ⟨m, hm⟩ : ∃ m, m = endD k ((ps.take i).map (·.1)) := ⟨_, rfl⟩
      obtain ⟨p, hp⟩ : ∃ p, p = ps[i] := ⟨_, rfl⟩
      rw [← hm] at hmb Hset Hsuc Hend ⊢
      rw [← hp] at hmb Hset Hsuc Hend Hbo Hmem Hget
      have hfr0 := ho.frozenAt (i * 4)
      obtain ⟨u0, hu0⟩ := own_has ho (i * 4) (by omega)
      obtain ⟨f, bv⟩ := p
      clear ho hbo htu hm hp
      generalize markQ k (ps.take i) ++ ps.drop i = L at *
      generalize markQ k (ps.take i) = A at *
      have H3 := Lib.hid (show (L.flatMap drCells)[i * 4 + 3]? = some bv by rw [fm_get drCells 4 L i 3 Hll.out (by omega) drCells_len, Hget.out Hll.out]; rfl)
      have Hne := Lib.hid (show ∀ q ∈ A ++ (f, bv) :: ps.drop (i + 1), ∀ b, q.2.ownBlock = some b → ¬ b = g from fun q hq b hb e => own_types (by decide) (Hbo.out.1 q hq) Ho.out hb (by rw [e]; rfl))
      have hnf : nextD m f = m + 3 + f.names.length := rfl
      dsimp only at hmb Hset Hsuc Hend
      rw [hnf] at hmb
      go_wp2_with (first
        | (go_at_call 111; refine (laws_markStringSI B bv f.names _ (m + 3) _ (by omega) ((names_turned Hbo.out ((ht2.out.set (p := ⟨g, i * 4 + 1, none⟩) rfl _).set (p := ⟨g, i * 4 + 2, none⟩) rfl _) Hne.out).1 (f, bv) (by simp)) (by omega) (by omega)).mono ?_; rintro _ w5 ⟨rfl, hq5, ht5⟩
           have Hq5 := Lib.hid hq5
           have Ht5 := Lib.hid ht5
           clear hq5 ht5)
        | (go_at_call 110; refine (laws_markTextI _ (m + 1) _ (by omega) (by omega) (by omega)).mono ?_; rintro _ w2 ⟨rfl, hb2⟩
           have Ho2 := Lib.hid (owns_below (Ho.out.stored (i * 4) _).1 hb2)
           have ht2 := Lib.hid (((Turned.refl (fun b => b = g) wr).set (p := ⟨g, i * 4, none⟩) rfl _).step hb2)
           obtain ⟨u1, hu1⟩ := own_has Ho2.out (i * 4 + 1) (by omega)
           obtain ⟨u2, hu2⟩ := own_has Ho2.out (i * 4 + 2) (by omega)
           have hc3 : w2.cell? ⟨g, i * 4 + 3, none⟩ = some bv := by
             rw [Ho2.out.cellAt _ (by omega), List.getElem?_set_ne (by omega)]; exact H3.out
           have hf1 := Ho2.out.frozenAt (i * 4 + 1)
           have hf2 := Ho2.out.frozenAt (i * 4 + 2)))
      go_roundw
      case rel =>
        refine ⟨i + 1, by omega, by go_num, by rw [Hend.out, hnf]; go_num, ?_, ?_, ?_⟩
        · rw [Hsuc.out, ← Hset.out]
          have h6 := put4 L i Hll.out (markDr m f)
          rw [Hget.out Hll.out] at h6
          rw [← h6]
          exact owns_turned ((Ho2.out.stored (i * 4 + 1) _).1.stored (i * 4 + 2) _).1 Ht5.out (fun b hb hb' => Hne.out (f, bv) (by simp) b hb' (by cases hb; rfl))
        · rw [Hsuc.out, List.append_assoc]
          exact names_mid (f := markDr m f) (names_turned Hbo.out ((ht2.out.set (p := ⟨g, i * 4 + 1, none⟩) rfl _).set (p := ⟨g, i * 4 + 2, none⟩) rfl _) Hne.out) Ht5.out (by have := Hq5.out; rw [show (markDr m f).names = marks (m + 3) f.names.length from rfl, marks_len]; exact this)
        · exact (Htu.out.trans (((ht2.out.set (p := ⟨g, i * 4 + 1, none⟩) rfl _).set (p := ⟨g, i * 4 + 2, none⟩) rfl _).mono (fun b hb => .inl (by rw [hb]; rfl)))).trans (Ht5.out.mono (fun b hb => .inr ⟨(f, bv), Hmem.out, hb⟩))
      case measure => simp [intOf]; omega
    · obtain rfl : i = ps.length := by omega
      have Ho := Lib.hid (show OwnDirs wr B (.slice aa ps.length ca) (markQ k ps) from ⟨by rw [markQ_len]; simpa using ho, by simpa using hbo⟩)
      clear ho hbo
      go_wp2_with fail
      go_ret
      exact ⟨by rw [List.take_length]; rfl, Ho.out, htu⟩
theorem endD_le (k : Nat) : ∀ (fs : List Dr), endD k fs ≤ k + 3 * drsCost fs
  | [] => by simp [endD, drsCost]
  | f :: r => by
    have h := endD_le (nextD k f) r
    have e1 : endD k (f :: r) = endD (nextD k f) r := rfl
    have e2 : drsCost (f :: r) = 1 + drCost f + drsCost r := by simp [drsCost]; omega
    have e3 : drCost f = f.pack.length + szS f.names := rfl
    have e4 : f.names.length ≤ szS f.names := by unfold szS; omega
    rw [e1]
    unfold nextD at h ⊢
    omega
end Go.Proofs.Ytgecemngfpgcoaa
