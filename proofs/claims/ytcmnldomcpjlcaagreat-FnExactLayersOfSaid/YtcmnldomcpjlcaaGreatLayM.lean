/- Marks over rows of rows of texts: the laws' markStringSS and heldStringSS. -/
import Derived.Test.YtcmnldomcpjlcaaGreatMiss
import Derived.Test.YtcmnldomcpjlcaaGreatExTools
import Derived.Test.YtcmnldomcpjlcaaGreatMarks2
set_option linter.unusedVariables false
set_option linter.unusedSimpArgs false
namespace Go.Proofs.YtcmnldomcpjlcaaGreat
open Go.RowKit Go.Proofs.YtcmnldomcpjlcaaGreat.Nm

def flenS : List (Value × List Bs) → Nat
  | [] => 0
  | p :: r => p.2.length + flenS r
theorem flenS_append : ∀ A C : List (Value × List Bs), flenS (A ++ C) = flenS A + flenS C
  | [], C => by simp [flenS]
  | p :: A, C => by rw [List.cons_append, flenS, flenS, flenS_append A C]; omega
def markedSS : Nat → List (Value × List Bs) → List (Value × List Bs)
  | _, [] => []
  | k, p :: r => (p.1, marks k p.2.length) :: markedSS (k + p.2.length) r
theorem markedSS_append : ∀ (A C : List (Value × List Bs)) (k : Nat), markedSS k (A ++ C) = markedSS k A ++ markedSS (k + flenS A) C
  | [], C, k => by simp [markedSS, flenS]
  | p :: A, C, k => by
    rw [List.cons_append, markedSS, markedSS, markedSS_append A C, flenS, List.cons_append, Nat.add_assoc]
theorem markedSS_len : ∀ (A : List (Value × List Bs)) (k : Nat), (markedSS k A).length = A.length
  | [], _ => rfl
  | p :: A, k => by rw [markedSS, List.length_cons, List.length_cons, markedSS_len A]
theorem markedSS_fst : ∀ (A : List (Value × List Bs)) (k : Nat), (markedSS k A).map (·.1) = A.map (·.1)
  | [], _ => rfl
  | p :: A, k => by rw [markedSS, List.map_cons, List.map_cons, markedSS_fst A]
theorem OwnSS.mid {w w' : World} {B : Nat} {v : Value} {A C : List (Value × List Bs)} {p : Value × List Bs} {l : List Bs} (h : OwnSS w B v (A ++ p :: C)) (hl : l.length = p.2.length) (ho : w'.ownsRow B 9 1 p.1 p.2.length (l.map sv)) (ht : Turned (fun b => p.1.ownBlock = some b) w w') : OwnSS w' B v (A ++ (p.1, l) :: C) := by
  obtain ⟨h1, h2, h3⟩ := h
  have hp := h2 p (by simp)
  rw [List.pairwise_append, List.pairwise_cons] at h3
  obtain ⟨q1, ⟨q2, q3⟩, q4⟩ := h3
  refine ⟨?_, fun q hq => ?_, ?_⟩
  · have e1 : (A ++ (p.1, l) :: C).length = (A ++ p :: C).length := by simp
    have e2 : (A ++ (p.1, l) :: C).map (·.1) = (A ++ p :: C).map (·.1) := by simp
    rw [e1, e2]
    exact owns_turned h1 ht (fun b hb e => hp.2 b e hb)
  · rcases List.mem_append.1 hq with hq | hq
    · exact ⟨owns_turned (h2 q (List.mem_append_left _ hq)).1 ht (fun b hb e => q4 q hq p List.mem_cons_self b hb e), (h2 q (List.mem_append_left _ hq)).2⟩
    · rcases List.mem_cons.1 hq with rfl | hq
      · exact ⟨by rw [hl]; exact ho, hp.2⟩
      · have hm : q ∈ A ++ p :: C := List.mem_append_right _ (List.mem_cons_of_mem _ hq)
        exact ⟨owns_turned (h2 q hm).1 ht (fun b hb e => q2 q hq b e hb), (h2 q hm).2⟩
  · rw [List.pairwise_append, List.pairwise_cons]
    refine ⟨q1, ⟨fun q hq => q2 q hq, q3⟩, fun a ha q hq => ?_⟩
    rcases List.mem_cons.1 hq with rfl | hq
    · exact q4 a ha p List.mem_cons_self
    · exact q4 a ha q (List.mem_cons_of_mem _ hq)
theorem take_mid {α : Type} {i : Nat} {vs : List α} (h : i < vs.length) : vs = vs.take i ++ vs[i] :: vs.drop (i + 1) := by
  rw [← List.drop_eq_getElem_cons h, List.take_append_drop]
def BlkSS (vs : List (Value × List Bs)) (b : Nat) : Prop := ∃ p ∈ vs, p.1.ownBlock = some b

set_option maxRecDepth 100000 in
set_option maxHeartbeats 1000000 in
theorem laws_markStringSS (B : Nat) (v : Value) (vs : List (Value × List Bs)) (k : Nat) (w : World) (hown : OwnSS w B v vs) (h1 : 1 ≤ k) (h9 : k + flenS vs ≤ 9000000) (hl : vs.length ≤ 1000) :
    Calls Tryz.prog 35 #[v, .int .i64 k] w fun e w' => e = .returned (.int .i64 ((k + flenS vs : Nat) : Int)) ∧ OwnSS w' B v (markedSS k vs) ∧ Turned (BlkSS vs) w w' := by
  obtain ⟨aa, ca, rfl⟩ := owns_shape hown.1
  have Hown := Lib.hid hown
  have H9 := Lib.hid h9
  clear hown h9
  go_enter Tryz.func35, Tryz.ntmps35
  go_wp2_with fail
  go_loopw [1, 5] (fun kv iv wr => ∃ i : Nat, i ≤ vs.length ∧ iv = .int .i64 i ∧ kv = .int .i64 ((k + flenS (vs.take i) : Nat) : Int) ∧ OwnSS wr B (.slice aa vs.length ca) (markedSS k (vs.take i) ++ vs.drop i) ∧ Turned (BlkSS vs) w wr) (fun _ iv _ => vs.length - (intOf iv).toNat)
  case atStart => exact ⟨0, by omega, rfl, rfl, by simpa [markedSS] using Hown.out, Turned.refl _ _⟩
  case round =>
    obtain ⟨i, hi, rfl, rfl, ho, htu⟩ := hrel
    have Ho := Lib.hid ho
    have Htu := Lib.hid htu
    clear ho htu
    by_cases hlt : i < vs.length
    · have hmid := take_mid hlt
      obtain ⟨A, hA⟩ : ∃ A, A = vs.take i := ⟨_, rfl⟩
      obtain ⟨C, hC⟩ : ∃ C, C = vs.drop (i + 1) := ⟨_, rfl⟩
      obtain ⟨p, hp⟩ : ∃ p, p = vs[i] := ⟨_, rfl⟩
      have hpm : p ∈ vs := by rw [hp]; exact List.getElem_mem hlt
      have hAl : A.length = i := by rw [hA, List.length_take]; omega
      have hsn : vs.take (i + 1) = A ++ [p] := by rw [List.take_succ_eq_append_getElem hlt, hA, hp]
      have hdr : vs.drop i = p :: C := by rw [List.drop_eq_getElem_cons hlt, hC, hp]
      rw [← hA, ← hC, ← hp] at hmid
      rw [← hA, hdr] at Ho
      rw [← hA]
      have hfl : flenS vs = flenS A + (p.2.length + flenS C) := by rw [hmid, flenS_append]; rfl
      have h9 := H9.out
      have O1 : wr.ownsRow B 27 1 (.slice aa vs.length ca) vs.length ((markedSS k A ++ p :: C).map (·.1)) := by
        have h := Ho.out.1
        have e : (markedSS k A ++ p :: C).length = vs.length := by rw [hmid]; simp [markedSS_len]
        rw [e] at h; exact h
      obtain ⟨g, cap, e1, hg, hg2⟩ := O1.form (by omega)
      simp only [Value.slice.injEq] at e1
      obtain ⟨rfl, z1, rfl⟩ := e1
      have hc : wr.cell? ⟨g, i, none⟩ = some p.1 := by
        rw [O1.cellAt i (by omega), List.map_append, List.getElem?_append_right (by simp [markedSS_len, hAl])]
        simp [markedSS_len, hAl]
      have hop := (Ho.out.2.1 p (by simp)).1
      have Hop := Lib.hid hop
      have Hsn := Lib.hid hsn
      have Hpm := Lib.hid hpm
      have Hdr := Lib.hid hC.symm
      obtain ⟨m, hm⟩ : ∃ m, m = k + flenS A := ⟨_, rfl⟩
      have Hm := Lib.hid hm
      have hm1 : 1 ≤ m := by omega
      have hm9 : m + p.2.length ≤ 9000000 := by omega
      rw [← hm]
      clear hA hC hp hAl hmid hfl hm h9 z1 O1 hop hsn hpm hdr
      obtain ⟨pv, l⟩ := p
      dsimp only at hc Hop hm9
      go_wp2_with fail
      refine (laws_markStringST B pv l m _ Hop.out hm1 hm9).mono ?_
      rintro e w2 ⟨rfl, ho2, ht2⟩
      have Ho2 := Lib.hid (Ho.out.mid (p := (pv, l)) (l := marks m l.length) (marks_len _ _) ho2 ht2)
      have Ht2 := Lib.hid (Htu.out.trans (ht2.mono (fun b hb => (⟨(pv, l), Hpm.out, hb⟩ : BlkSS vs b))))
      have Hnx := Lib.hid (show OwnSS w2 B (.slice (some ⟨g, 0, none⟩) vs.length ca) (markedSS k (vs.take (i + 1)) ++ vs.drop (i + 1)) by
        have h := Ho2.out
        rw [Hm.out] at h
        rw [Hsn.out, Hdr.out, markedSS_append, List.append_assoc]
        exact h)
      have Hkn := Lib.hid (show (m + l.length : Nat) = k + flenS (vs.take (i + 1)) by rw [Hsn.out, flenS_append, Hm.out]; simp [flenS]; omega)
      clear ho2 ht2
      go_wp2_with fail
      go_roundw
      case rel => exact ⟨i + 1, by omega, by go_num, by rw [← Hkn.out]; go_num, Hnx.out, Ht2.out⟩
      case measure => simp [intOf]; omega
    · obtain rfl : i = vs.length := by omega
      rw [List.take_length, List.drop_length, List.append_nil] at Ho
      rw [List.take_length]
      go_wp2_with fail
      go_ret
      exact ⟨rfl, Ho.out, Htu.out⟩
set_option maxRecDepth 100000 in
set_option maxHeartbeats 1000000 in
theorem laws_heldStringSS (B : Nat) (v : Value) (vs : List (Value × List Bs)) (k : Nat) (w : World) (hown : OwnSS w B v (markedSS k vs)) (h1 : 1 ≤ k) (h9 : k + flenS vs ≤ 9000000) (hl : vs.length ≤ 1000) :
    Calls Tryz.prog 36 #[v, .int .i64 k] w fun e w' => e = .returned (.int .i64 ((k + flenS vs : Nat) : Int)) ∧ Below w.heap.size w w' := by
  obtain ⟨aa, ca, rfl⟩ := owns_shape hown.1
  have Hown := Lib.hid hown
  have H9 := Lib.hid h9
  clear hown h9
  rw [markedSS_len]
  rw [markedSS_len] at Hown
  go_enter Tryz.func36, Tryz.ntmps36
  go_wp2_with fail
  go_loopw [1, 5] (fun kv iv wr => ∃ i : Nat, i ≤ vs.length ∧ iv = .int .i64 i ∧ kv = .int .i64 ((k + flenS (vs.take i) : Nat) : Int) ∧ Below w.heap.size w wr) (fun _ iv _ => vs.length - (intOf iv).toNat)
  case atStart => exact ⟨0, by omega, rfl, rfl, Below.refl _ _⟩
  case round =>
    obtain ⟨i, hi, rfl, rfl, hbel⟩ := hrel
    have Hbel := Lib.hid hbel
    clear hbel
    by_cases hlt : i < vs.length
    · have hmid := take_mid hlt
      have Ho := Lib.hid (Hown.out.below Hbel.out)
      obtain ⟨A, hA⟩ : ∃ A, A = vs.take i := ⟨_, rfl⟩
      obtain ⟨C, hC⟩ : ∃ C, C = vs.drop (i + 1) := ⟨_, rfl⟩
      obtain ⟨p, hp⟩ : ∃ p, p = vs[i] := ⟨_, rfl⟩
      have hAl : A.length = i := by rw [hA, List.length_take]; omega
      have hsn : vs.take (i + 1) = A ++ [p] := by rw [List.take_succ_eq_append_getElem hlt, hA, hp]
      rw [← hA, ← hC, ← hp] at hmid
      rw [← hA]
      have hfl : flenS vs = flenS A + (p.2.length + flenS C) := by rw [hmid, flenS_append]; rfl
      have h9 := H9.out
      have hmk : markedSS k vs = markedSS k A ++ (p.1, marks (k + flenS A) p.2.length) :: markedSS (k + flenS A + p.2.length) C := by
        rw [hmid, markedSS_append]; rfl
      have O1 : wr.ownsRow B 27 1 (.slice aa vs.length ca) vs.length ((markedSS k vs).map (·.1)) := by
        have h := Ho.out.1
        rw [markedSS_len] at h; exact h
      obtain ⟨g, cap, e1, hg, hg2⟩ := O1.form (by omega)
      simp only [Value.slice.injEq] at e1
      obtain ⟨rfl, z1, rfl⟩ := e1
      have hc : wr.cell? ⟨g, i, none⟩ = some p.1 := by
        rw [O1.cellAt i (by omega), hmk, List.map_append, List.getElem?_append_right (by simp [markedSS_len, hAl])]
        simp [markedSS_len, hAl]
      have hop := (Ho.out.2.1 (p.1, marks (k + flenS A) p.2.length) (by rw [hmk]; simp)).1
      obtain ⟨m, hm⟩ : ∃ m, m = k + flenS A := ⟨_, rfl⟩
      rw [← hm] at hop
      have Hrd := Lib.hid (Reads.of_owns hop)
      have Hm := Lib.hid hm
      have Hsn := Lib.hid hsn
      have hm1 : 1 ≤ m := by omega
      have hm9 : m + p.2.length ≤ 9000000 := by omega
      rw [← hm]
      clear hA hC hp hAl hmid hfl hm h9 z1 O1 hop hsn hmk
      obtain ⟨pv, l⟩ := p
      dsimp only at hc Hrd hm9
      go_wp2_with fail
      refine (laws_heldStringS pv l.length m _ (Hrd.out.below (by (repeat (with_reducible first | exact Below.refl _ _ | assumption | refine ba ?_ _ | refine bd ?_ | refine bdN ?_ _ | refine bs ?_ (by first | exact Nat.le_refl _ | (dsimp only; omega) | (simp; done)) _ | refine bt ?_ (by assumption))))) hm1 hm9).mono ?_
      rintro e w2 ⟨rfl, hb2⟩
      have Hb2 := Lib.hid (bt Hbel.out hb2)
      have Hkn := Lib.hid (show (m + l.length : Nat) = k + flenS (vs.take (i + 1)) by rw [Hsn.out, flenS_append, Hm.out]; simp [flenS]; omega)
      have hpos : ¬ (((m + l.length : Nat) : Int) < 0) := by omega
      clear hb2
      go_wp2_with fail
      go_roundw
      case rel => exact ⟨i + 1, by omega, by go_num, by rw [← Hkn.out]; go_num, Hb2.out⟩
      case measure => simp [intOf]; omega
    · obtain rfl : i = vs.length := by omega
      rw [List.take_length]
      go_wp2_with fail
      go_ret
      exact ⟨rfl, Hbel.out⟩
/-! ### The same, said by the texts alone: for the walk of an exact law. -/
def flenL : List (List Bs) → Nat
  | [] => 0
  | l :: r => l.length + flenL r
theorem flenS_eq : ∀ vs : List (Value × List Bs), flenS vs = flenL (vs.map (·.2))
  | [] => rfl
  | p :: r => by rw [flenS, List.map_cons, flenL, flenS_eq r]
theorem flenL_flat : ∀ ls : List (List Bs), flenL ls = ls.flatten.length
  | [] => rfl
  | l :: r => by rw [flenL, List.flatten_cons, List.length_append, flenL_flat r]
def RdSS (w : World) (v : Value) (ls : List (List Bs)) : Prop := ∃ B vs, vs.map (·.2) = ls ∧ OwnSS w B v vs
theorem RdSS.below {w w' : World} {v : Value} {ls : List (List Bs)} (h : RdSS w v ls) (hb : Below w.heap.size w w') : RdSS w' v ls := by
  obtain ⟨B, vs, h1, h2⟩ := h
  exact ⟨B, vs, h1, h2.below hb⟩
def MkSS (w : World) (v : Value) (k : Nat) (ls : List (List Bs)) : Prop := ∃ B vs, vs.map (·.2) = ls ∧ OwnSS w B v (markedSS k vs)
theorem MkSS.below {w w' : World} {v : Value} {k : Nat} {ls : List (List Bs)} (h : MkSS w v k ls) (hb : Below w.heap.size w w') : MkSS w' v k ls := by
  obtain ⟨B, vs, h1, h2⟩ := h
  exact ⟨B, vs, h1, h2.below hb⟩
def BlkV (v : Value) (vs : List (Value × List Bs)) (b : Nat) : Prop := v.ownBlock = some b ∨ BlkSS vs b
theorem blkV_ge {w : World} {B : Nat} {v : Value} {vs : List (Value × List Bs)} (h : OwnSS w B v vs) : ∀ b, BlkV v vs b → B ≤ b ∧ b < w.heap.size := by
  rintro b (hb | ⟨p, hp, hb⟩)
  · exact owns_block h.1 hb
  · exact owns_block (h.2.1 p hp).1 hb
theorem ss_turned {w w' : World} {B : Nat} {v : Value} {vs : List (Value × List Bs)} {S : Nat → Prop} (h : OwnSS w B v vs) (ht : Turned S w w') (hs : ∀ b, BlkV v vs b → ¬ S b) : OwnSS w' B v vs :=
  ⟨owns_turned h.1 ht (fun b hb => hs b (.inl hb)), fun p hp => ⟨owns_turned (h.2.1 p hp).1 ht (fun b hb => hs b (.inr ⟨p, hp, hb⟩)), (h.2.1 p hp).2⟩, h.2.2⟩
theorem laws_eqStringSSR (va vb : Value) (ls ks : List (List Bs)) (w : World) (h1 : RdSS w va ls) (h2 : RdSS w vb ks) (he : ls = ks) (hl : ls.length ≤ 400) (hx : ∀ l ∈ ls, l.length ≤ 300) :
    Calls Tryz.prog 34 #[va, vb] w fun e w' => e = .returned (.bool true) ∧ Below w.heap.size w w' := by
  obtain ⟨B1, vs, e1, o1⟩ := h1
  obtain ⟨B2, us, e2, o2⟩ := h2
  refine laws_eqStringSS B1 B2 va vb vs us w o1 o2 (by rw [e1, e2, he]) ?_ ?_
  · have := congrArg List.length e1; simp at this; omega
  · intro p hp
    have := hx p.2 (by rw [← e1]; exact List.mem_map.2 ⟨p, hp, rfl⟩)
    omega
theorem laws_markStringSSV (B : Nat) (v : Value) (vs : List (Value × List Bs)) (k : Nat) (w : World) (hown : OwnSS w B v vs) (h1 : 1 ≤ k) (h9 : k + flenL (vs.map (·.2)) ≤ 9000000) (hl : (vs.map (·.2)).length ≤ 1000) :
    Calls Tryz.prog 35 #[v, .int .i64 k] w fun e w' => e = .returned (.int .i64 ((k + flenL (vs.map (·.2)) : Nat) : Int)) ∧ OwnSS w' B v (markedSS k vs) ∧ Turned (BlkV v vs) w w' := by
  have h := laws_markStringSS B v vs k w hown h1 (by rw [flenS_eq]; exact h9) (by simpa using hl)
  rw [flenS_eq] at h
  exact h.mono (fun e w' q => ⟨q.1, q.2.1, q.2.2.mono (fun b hb => .inr hb)⟩)
theorem laws_heldStringSSR (v : Value) (ls : List (List Bs)) (k : Nat) (w : World) (h : MkSS w v k ls) (h1 : 1 ≤ k) (h9 : k + flenL ls ≤ 9000000) (hl : ls.length ≤ 1000) :
    Calls Tryz.prog 36 #[v, .int .i64 k] w fun e w' => e = .returned (.int .i64 ((k + flenL ls : Nat) : Int)) ∧ Below w.heap.size w w' := by
  obtain ⟨B, vs, e, o⟩ := h
  subst e
  have h := laws_heldStringSS B v vs k w o h1 (by rw [flenS_eq]; exact h9) (by simpa using hl)
  rw [flenS_eq] at h
  exact h
theorem len_le_flatM : ∀ (ls : List (List Bs)), (∀ l ∈ ls, l ≠ []) → ls.length ≤ ls.flatten.length ∧ ∀ l ∈ ls, l.length ≤ ls.flatten.length
  | [], _ => by simp
  | l :: r, h => by
    obtain ⟨h1, h2⟩ := len_le_flatM r (fun x hx => h x (List.mem_cons_of_mem _ hx))
    have h3 := List.length_pos_iff.2 (h l List.mem_cons_self)
    refine ⟨by simp only [List.length_cons, List.flatten_cons, List.length_append]; omega, fun x hx => ?_⟩
    rw [List.flatten_cons, List.length_append]
    rcases List.mem_cons.1 hx with rfl | hx
    · omega
    · have := h2 x hx; omega
theorem layers_lensM (fs : List Fil) (xs : List Int) (s : Bs) : (layersOf fs xs s).length ≤ 300 ∧ (∀ l ∈ layersOf fs xs s, l.length ≤ 300) ∧ flenL (layersOf fs xs s) ≤ 300 := by
  by_cases h : layersOf fs xs s = []
  · rw [h]; simp [flenL]
  · obtain ⟨a, b, _⟩ := layers_facts h
    obtain ⟨h1, h2⟩ := len_le_flatM _ (fun l hl => (a l hl).2.1)
    have h3 := (reachOf_facts fs xs s).1
    exact ⟨by omega, fun l hl => by have := h2 l hl; omega, by rw [flenL_flat]; omega⟩
end Go.Proofs.YtcmnldomcpjlcaaGreat
