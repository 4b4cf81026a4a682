/- Contracts of the program's functions that copy trees: with one more file, without one, with one that is edited. -/
import Derived.Test.YtfelbhpgifgkcaaGreatHasF
import Derived.Test.YtfelbhpgifgkcaaGreatMarks2
import Derived.Test.YtfelbhpgifgkcaaGreatBoth
import Derived.Test.YtfelbhpgifgkcaaGreatExTools
import Derived.Test.YtfelbhpgifgkcaaGreatDirs
import Derived.Test.YtfelbhpgifgkcaaGreatPlainG
import Derived.Maps.AppendAt
import Derived.WalkSpells
import Derived.Deep.RegionWith
set_option linter.unusedVariables false
set_option linter.unusedSimpArgs false
namespace Go.Proofs.YtfelbhpgifgkcaaGreat
open Go.RowKit Go.Proofs.YtfelbhpgifgkcaaGreat.Nm

/-- The slice v is a row of files, and their bodies are rows of statements: all of them made by make, append or a literal, or nil. -/
def RowsF (w : World) (v : Value) (ps : List (Fil × Value)) : Prop :=
  w.ownsRow 0 33 6 v ps.length (ps.flatMap filCells) ∧ ∀ p ∈ ps, w.ownsRow 0 132 5 p.2 p.1.body.length (p.1.body.flatMap stmCells)
theorem RowsF.of {w : World} {B : Nat} {v : Value} {ps : List (Fil × Value)} (h : OwnFils w B v ps) : RowsF w v ps := ⟨owns_mono h.1 (Nat.zero_le _), fun p hp => owns_mono (h.2.1 p hp) (Nat.zero_le _)⟩
theorem RowsF.below {w w' : World} {v : Value} {ps : List (Fil × Value)} (h : RowsF w v ps) (hb : Below w.heap.size w w') : RowsF w' v ps := ⟨owns_below h.1 hb, fun p hp => owns_below (h.2 p hp) hb⟩
theorem RowsF.fils {w : World} {v : Value} {ps : List (Fil × Value)} (h : RowsF w v ps) : FilsIn w (fun _ => True) v (ps.map (·.1)) := FilsIn.of_owns h.1 (fun _ _ => trivial) (fun p hp => StmsIn.of_owns (h.2 p hp) (fun _ _ => trivial))
theorem RowsF.len {w : World} {v : Value} {ps : List (Fil × Value)} (h : RowsF w v ps) : ∃ a cap, v = .slice a ps.length cap := owns_shape h.1
theorem stm_one (ss : List Stm) : ∀ u ∈ ss.flatMap stmCells, u.oneCell' = true := fun u hu => by
  obtain ⟨s, _, h⟩ := List.mem_flatMap.1 hu
  simp only [stmCells, List.mem_cons, List.not_mem_nil, or_false] at h
  rcases h with rfl | rfl | rfl | rfl | rfl <;> rfl
theorem fil_one (ps : List (Fil × Value)) (hv : ∀ p ∈ ps, ∃ a n c, p.2 = .slice a n c) : ∀ u ∈ ps.flatMap filCells, u.oneCell' = true := fun u hu => by
  obtain ⟨p, hp, h⟩ := List.mem_flatMap.1 hu
  obtain ⟨a, n, c, e⟩ := hv p hp
  simp only [filCells, List.mem_cons, List.not_mem_nil, or_false] at h
  rcases h with rfl | rfl | rfl | rfl | rfl | rfl
  all_goals first | rfl | (rw [e]; rfl)
theorem box_free {w wr : World} {cs : Array Value} {T : TypeId} (h : Boxed w cs T wr) (i : Nat) : wr.frozen? ⟨w.heap.size, i, none⟩ = false := by
  have := h.frozen (p := ⟨w.heap.size, i, none⟩) (by simp)
  rw [this]; simp [go_sem]
theorem six_of {w wr : World} {c0 c1 c2 c3 c4 c5 : Value} {T : TypeId} (h : Boxed w #[c0, c1, c2, c3, c4, c5] T wr) :
    wr.cell? ⟨w.heap.size, 0, none⟩ = some c0 ∧ wr.cell? ⟨w.heap.size, 1, none⟩ = some c1 ∧ wr.cell? ⟨w.heap.size, 2, none⟩ = some c2 ∧ wr.cell? ⟨w.heap.size, 3, none⟩ = some c3 ∧ wr.cell? ⟨w.heap.size, 4, none⟩ = some c4 ∧ wr.cell? ⟨w.heap.size, 5, none⟩ = some c5 :=
  ⟨h.cell 0, h.cell 1, h.cell 2, h.cell 3, h.cell 4, h.cell 5⟩
theorem keepIn_snoc (fs : List Fil) (S : List Pl) (k : Nat) (h : k < fs.length) : keepIn (fs.take (k + 1)) S = keepIn (fs.take k) S ++ (if place fs[k] ∈ S then [fs[k]] else []) := by
  unfold keepIn
  rw [List.take_succ_eq_append_getElem h, List.filter_append]
  by_cases e : place fs[k] ∈ S <;> simp [e]
theorem below2_of {w wr W w7 : World} {cs ds : Array Value} {T U : TypeId} {row : Option Nat} (h : Boxed2 w cs T ds U wr) (hb : Below wr.heap.size wr W) (hg : W.grownBy w7 row) (hr : ∀ g, row = some g → w.heap.size + 2 ≤ g) : Boxed2 w cs T ds U w7 :=
  (h.step hb).grown hg (h.step hb).size (fun g e => by simpa using hr g e)

theorem owns_set_other {w : World} {B e size n : Nat} {v : Value} {xs : List Value} (h : w.ownsRow B e size v n xs) {p : Addr} (hp : ∀ b, v.ownBlock = some b → b ≠ p.block) (u : Value) : (w.setCell p u).ownsRow B e size v n xs :=
  owns_heap h (fun b hb => Below.heap_setCell w p u b (hp b hb))
theorem bodies_grown {w w' : World} {B : Nat} {qs : List (Fil × Value)} {row : Option Nat} (h : OwnBodies w B qs) (hg : w.grownBy w' row) (hne : ∀ b, row = some b → ∀ p ∈ qs, p.2.ownBlock ≠ some b) : OwnBodies w' B qs :=
  h.heap (fun b _ hlt ⟨p, hp, hb⟩ => hg.block b hlt (fun e => hne b e.symm p hp hb))
/-- One more file with its own body behind others. -/
theorem fils_snoc {wr W w7 : World} {B : Nat} {ov v7 : Value} {qs : List (Fil × Value)} {q : Fil × Value} (h : OwnFils wr B ov qs) (hb : Below wr.heap.size wr W) (hB : B ≤ wr.heap.size)
    (hq : W.ownsRow wr.heap.size 132 5 q.2 q.1.body.length (q.1.body.flatMap stmCells)) (hg : W.grownBy w7 ov.ownBlock)
    (h7 : w7.ownsRow B 33 6 v7 (qs.length + 1) (qs.flatMap filCells ++ filCells q)) : OwnFils w7 B v7 (qs ++ [q]) := by
  refine ⟨by simpa using h7, ?_⟩
  have h1 := OwnBodies.snoc h.2 hb hB hq
  exact bodies_grown h1 hg (fun b hb' p hp => own_types (by decide) (owns_below h.1 hb) (h1.1 p hp) hb')

set_option maxRecDepth 100000 in
set_option maxHeartbeats 1000000 in
theorem impl_copyBody (fb : List Stm) (v : Value) (B : Nat) (w : World) (h : w.ownsRow B 132 5 v fb.length (fb.flatMap stmCells)) (hb : fb.length ≤ 1048576) :
    Calls Tryz.prog 115 #[v] w fun e w' => ∃ a c, e = .returned (.slice a fb.length c) ∧ w'.ownsRow w.heap.size 132 5 (.slice a fb.length c) fb.length (fb.flatMap stmCells) ∧ Below w.heap.size w w' := by
  obtain ⟨i1, hi1, hy0, hy1, hy2⟩ := info_parts infoStm
  have Hi1 := Lib.hid hi1
  have Hy0 := Lib.hid hy0
  have Hy1 := Lib.hid hy1
  have Hy2 := Lib.hid hy2
  have H := Lib.hid h
  obtain ⟨aa, ca, rfl⟩ := owns_shape h
  clear h hi1 hy0 hy1 hy2
  go_enter Tryz.func115, Tryz.ntmps115
  go_wp2_with (at_builtin; refine wpList_append_both rfl _ _ 26 rfl w.heap.size 132 i1 _ 5 56 Tryz.underlying26 Hi1.out Hy0.out Hy1.out Hy2.out rfl (by decide) _ 0 _ rfl (World.ownsRow_nil _ _ _ _) B _ fb.length _ rfl H.out (stm_one fb) (by unfold maxLen; omega) (by omega) (Nat.le_refl _) ?_; intro v6 w6 hown6 hgrow6; rw [Nat.zero_add, List.nil_append] at hown6; obtain ⟨a6, c6, hv6⟩ := owns_shape hown6; subst hv6; have Hown6 := Lib.hid hown6; have Hb6 := Lib.hid (show Below w.heap.size w w6 from (Below.refl _ _).grown hgrow6 (Nat.le_refl _) (fun g hg => by cases hg)); clear hown6 hgrow6)
  go_ret
  exact ⟨a6, c6, rfl, Hown6.out, Hb6.out⟩
set_option maxRecDepth 100000 in
set_option maxHeartbeats 4000000 in
theorem impl_copyAt (v : Value) (ps : List (Fil × Value)) (b n : Nat) (S : List Pl) (w : World) (h : RowsF w v ps) (hm : PlMap w b n S) (ho : OkPls (ps.map (·.1))) (hl : ps.length ≤ 1000000) (hbl : ∀ p ∈ ps, p.1.body.length ≤ 1048576) :
    Calls Tryz.prog 64 #[.agg #[v], .map (some b)] w (NewTree (keepIn (ps.map (·.1)) S) w) := by
  obtain ⟨i0, hi, hz0, hz1, hz2⟩ := info_parts infoFil
  obtain ⟨i1, hi1, hy0, hy1, hy2⟩ := info_parts infoStm
  have Hi := Lib.hid hi
  have Hz0 := Lib.hid hz0
  have Hz1 := Lib.hid hz1
  have Hz2 := Lib.hid hz2
  have Hi1 := Lib.hid hi1
  have Hy0 := Lib.hid hy0
  have Hy1 := Lib.hid hy1
  have Hy2 := Lib.hid hy2
  have H := Lib.hid h
  have Hm := Lib.hid hm
  have Ho := Lib.hid ho
  have Hbl := Lib.hid hbl
  obtain ⟨aa, ca, rfl⟩ := h.len
  clear h hm ho hbl hi hz0 hz1 hz2 hi1 hy0 hy1 hy2
  go_enter Tryz.func64, Tryz.ntmps64
  go_wp2_with fail
  go_loopw [5, 11] (fun ov iv wr => ∃ (k : Nat) (qs : List (Fil × Value)), k ≤ ps.length ∧ iv = .int .i64 k ∧ qs.map (·.1) = keepIn ((ps.map (·.1)).take k) S ∧ OwnFils wr (w.heap.size + 2) ov qs ∧ Boxed2 w #[.slice aa ps.length ca] 25 #[.slice none 0 0] 25 wr) (fun _ iv _ => ps.length - (intOf iv).toNat)
  case atStart => exact ⟨0, [], by omega, rfl, rfl, ⟨World.ownsRow_nil _ _ _ _, OwnBodies.nil _ _⟩, Boxed2.start _ _ _ _ _⟩
  case round =>
    obtain ⟨k, qs, hk, rfl, hqs, hown, hbx⟩ := hrel
    obtain ⟨oa, oc, rfl⟩ := hown.len
    have hbel := hbx.below
    have hsz := hbx.lt
    have Hqs := Lib.hid hqs
    have Hown := Lib.hid hown
    have Hbx := Lib.hid hbx
    have hql : qs.length ≤ 1000000 := by
      have h := congrArg List.length hqs
      have h2 : (keepIn ((ps.map (·.1)).take k) S).length ≤ ((ps.map (·.1)).take k).length := List.length_filter_le _ _
      simp at h h2
      omega
    clear hqs hown hbx
    by_cases hlt : k < ps.length
    · have hrow := (H.out.below hbel).1
      obtain ⟨g, cap, e1, hg, hg2⟩ := hrow.form (by omega)
      simp only [Value.slice.injEq] at e1
      obtain ⟨rfl, _, rfl⟩ := e1
      obtain ⟨⟨c0, c1, c2, c3, c4, c5⟩, _⟩ := own6 hrow k hlt
      have Hbody := Lib.hid ((H.out.below hbel).2 _ (List.getElem_mem hlt))
      have Hbk := Lib.hid (Hbl.out _ (List.getElem_mem hlt))
      have Hpl := Lib.hid (show okPl (place ps[k].1) from Ho.out _ (List.mem_map.2 ⟨_, List.getElem_mem hlt, rfl⟩))
      have Hsn := Lib.hid (keepIn_snoc (ps.map (·.1)) S k (by simpa using hlt))
      simp only [List.getElem_map] at Hsn
      have Hmp := Lib.hid (Hm.out.below hbel)
      obtain ⟨p, hp⟩ : ∃ p, p = ps[k] := ⟨_, rfl⟩
      rw [← hp] at c0 c1 c2 c3 c4 c5 Hbody Hpl Hsn Hbk
      clear hp hrow hg hg2
      obtain ⟨⟨fr, fp, fn, fi, fst, fb⟩, bv⟩ := p
      dsimp only at c0 c1 c2 c3 c4 c5 Hbody Hbk Hpl Hsn
      obtain ⟨ab, cb, rfl⟩ := owns_shape Hbody.out
      have Hb5 := Lib.hid (Boxed.start wr #[.int .i64 fr, .string (mk fp), .string (mk fn), .bool fi, .int .i64 fst, .slice ab fb.length cb] 33)
      by_cases hin : (fr, fp, fn, fi) ∈ S
      · have Hin := Lib.hid (decide_eq_true hin)
        have Hsn2 := Lib.hid (show keepIn ((ps.map (·.1)).take (k + 1)) S = keepIn ((ps.map (·.1)).take k) S ++ [(⟨fr, fp, fn, fi, fst, fb⟩ : Fil)] by rw [Hsn.out, if_pos (show place (⟨fr, fp, fn, fi, fst, fb⟩ : Fil) ∈ S from hin)])
        clear hin
        go_wp2_with fail
        refine (impl_placeOf _ _ _ _ _ _ _).mono ?_
        rintro _ w5 ⟨rfl, hb5⟩
        have Hx5 := Lib.hid (Hb5.out.step (show Below _ _ w5 by (repeat (with_reducible first | exact Below.refl _ _ | assumption | refine ba ?_ _ | refine bd ?_ | refine bdN ?_ _ | refine bs ?_ (by first | exact Nat.le_refl _ | (dsimp only; omega) | (simp; done)) _ | refine bt ?_ (by assumption)))))
        obtain ⟨d0, d1, d2, d3, d4, d5⟩ := six_of Hx5.out
        have hl5 := Hx5.out.lt
        clear hb5 c0 c1 c2 c3 c4 c5
        have Hp5 := Lib.hid (Hmp.out.below Hx5.out.below)
        have Hc5 := Lib.hid (owns_below Hbody.out Hx5.out.below)
        have hrun : (Instr.lookup 101 (.map (some b)) (plVal (fr, fp, fn, fi)) false).run Tryz.prog w5 = .ok (.bool true) w5 := by have h := Hp5.out.get (fr, fp, fn, fi) Hpl.out; rw [Hin.out] at h; exact h
        go_wp2_with (first
          | (at_builtin; refine wpList_append_own _ rfl _ _ 23 rfl (w.heap.size + 2) 33 i0 _ 6 80 Tryz.underlying23 Hi.out Hz0.out Hz1.out Hz2.out rfl (by decide) _ qs.length _ rfl (Hown6f.out.alloc _) ⟨_, 0, none⟩ 1 1 (filCells ((⟨fr, fp, fn, fi, fst, fb⟩ : Fil), .slice a6 fb.length c6)) rfl rfl ?_ (fun x hx => by simp [filCells] at hx; rcases hx with rfl | rfl | rfl | rfl | rfl | rfl <;> rfl) (by unfold maxLen; omega) (by omega) (by simp; omega) ?_; (exact new_cells _ (filCells ((⟨fr, fp, fn, fi, fst, fb⟩ : Fil), .slice a6 fb.length c6)).toArray _ _ (by first | rfl | simp)); intro v7 w7 hown7 hgrow7 hnil7)
          | (go_at_call 115; refine (impl_copyBody fb _ 0 w5 Hc5.out Hbk.out).mono ?_; rintro _ w6 ⟨a6, c6, rfl, hown6, hb6⟩; have Hown6 := Lib.hid hown6; have Hx6 := Lib.hid (Hx5.out.step hb6); clear d0 d1 d2 d3 d4 d5 hown6 hb6; obtain ⟨d0, d1, d2, d3, d4, d5⟩ := six_of Hx6.out; have z5 := box_free Hx6.out 5; have hl6 := Hx6.out.lt; have Hown6f := Lib.hid (show (w6.setCell ⟨wr.heap.size, 5, none⟩ (.slice a6 fb.length c6)).ownsRow (w.heap.size + 2) 33 6 (.slice oa qs.length oc) qs.length (qs.flatMap filCells) from owns_set_other (owns_below Hown.out.1 Hx6.out.below) (fun b hb => by have := (Hown.out.1.lt b hb).2; dsimp only; omega) _)))
        have HbW := Lib.hid (show Below wr.heap.size wr ((w6.setCell ⟨wr.heap.size, 5, none⟩ (.slice a6 fb.length c6)).alloc (.cells (filCells ((⟨fr, fp, fn, fi, fst, fb⟩ : Fil), .slice a6 fb.length c6)).toArray 33)) from ba (bs Hx6.out.below (p := ⟨wr.heap.size, 5, none⟩) (Nat.le_refl _) _) _)
        have Hq7 := Lib.hid (show ((w6.setCell ⟨wr.heap.size, 5, none⟩ (.slice a6 fb.length c6)).alloc (.cells (filCells ((⟨fr, fp, fn, fi, fst, fb⟩ : Fil), .slice a6 fb.length c6)).toArray 33)).ownsRow wr.heap.size 132 5 (.slice a6 fb.length c6) fb.length (fb.flatMap stmCells) from (owns_set_other (owns_mono Hown6.out (by omega)) (fun b hb => by have := (Hown6.out.lt b hb).1; dsimp only; omega) _).alloc _)
        have Hx7 := Lib.hid (below2_of Hbx.out HbW.out hgrow7 (fun g hg => (Hown.out.1.lt g hg).1))
        have Hf7 := Lib.hid (fils_snoc (q := ((⟨fr, fp, fn, fi, fst, fb⟩ : Fil), .slice a6 fb.length c6)) Hown.out HbW.out (by omega) Hq7.out hgrow7 hown7)
        have Hmp7 := Lib.hid (show (qs ++ [((⟨fr, fp, fn, fi, fst, fb⟩ : Fil), Value.slice a6 fb.length c6)]).map (·.1) = keepIn ((ps.map (·.1)).take (k + 1)) S by rw [List.map_append, Hqs.out, Hsn2.out]; rfl)
        clear hown7 hgrow7 hnil7
        go_roundw
        case rel => exact ⟨k + 1, qs ++ [((⟨fr, fp, fn, fi, fst, fb⟩ : Fil), Value.slice a6 fb.length c6)], by omega, by go_num, Hmp7.out, Hf7.out, Hx7.out⟩
        case measure => simp [intOf]; omega
      · have Hin := Lib.hid (decide_eq_false hin)
        have Hsn2 := Lib.hid (show keepIn ((ps.map (·.1)).take (k + 1)) S = keepIn ((ps.map (·.1)).take k) S by rw [Hsn.out, if_neg (show ¬ place (⟨fr, fp, fn, fi, fst, fb⟩ : Fil) ∈ S from hin), List.append_nil])
        clear hin
        go_wp2_with fail
        refine (impl_placeOf _ _ _ _ _ _ _).mono ?_
        rintro _ w5 ⟨rfl, hb5⟩
        have Hx5 := Lib.hid (Hb5.out.step (show Below _ _ w5 by (repeat (with_reducible first | exact Below.refl _ _ | assumption | refine ba ?_ _ | refine bd ?_ | refine bdN ?_ _ | refine bs ?_ (by first | exact Nat.le_refl _ | (dsimp only; omega) | (simp; done)) _ | refine bt ?_ (by assumption)))))
        clear hb5 c0 c1 c2 c3 c4 c5
        have Hp5 := Lib.hid (Hmp.out.below Hx5.out.below)
        have hrun : (Instr.lookup 101 (.map (some b)) (plVal (fr, fp, fn, fi)) false).run Tryz.prog w5 = .ok (.bool false) w5 := by have h := Hp5.out.get (fr, fp, fn, fi) Hpl.out; rw [Hin.out] at h; exact h
        go_wp2_with fail
        go_roundw
        case rel => exact ⟨k + 1, qs, by omega, by go_num, by rw [Hqs.out, Hsn2.out], Hown.out.below Hx5.out.below, Hbx.out.step Hx5.out.below⟩
        case measure => simp [intOf]; omega
    · obtain rfl : k = ps.length := by omega
      have Hf := Lib.hid (show qs.map (·.1) = keepIn (ps.map (·.1)) S by rw [Hqs.out, List.take_of_length_le (by simp)])
      have q0 : wr.cell? ⟨w.heap.size + 1, 0, none⟩ = some (.slice none 0 0) := Hbx.out.cell 0
      have f0 : wr.frozen? ⟨w.heap.size + 1, 0, none⟩ = false := by have := box_free Hbx.out.two 0; simpa using this
      generalize qs.length = qn at *
      go_wp2_with fail
      refine bodyPost_ret (v := .agg #[.slice oa qn oc]) (by simp [results, Tryz.results64, go_sem, *]) rfl ?_
      refine ⟨_, qs, rfl, Hf.out, ?_, by (repeat (with_reducible first | exact Below.refl _ _ | assumption | refine ba ?_ _ | refine bd ?_ | refine bdN ?_ _ | refine bs ?_ (by first | exact Nat.le_refl _ | (dsimp only; omega) | (simp; done)) _ | refine bt ?_ (by assumption)))⟩
      exact ((Hown.out.set_low (by dsimp only; omega) _).mono (by omega))

/-- What is appended is a row of its own, nil or not: in a region that draws its order. -/
theorem step_append_both {P : Program} {ops : Array Oper} {o : Oper} {a : Act} {w : World} {K : Act → World → Prop} {Q : Exit → Act → World → Prop} {E : Prop} (hgd : o.guard = none) (s x : Operand) (t : TypeId)
    (ho : o.op = .call { callee := .builtin .append, args := #[s, x], argTypes := #[t, t] })
    (base : Nat) (e : TypeId) (i : TypeInfo) (z : Value) (size bytes : Nat) (ht : P.underlying t = some (.slice e)) (hi : P.info? e = some i) (hz : i.zero = some z)
    (hsize : i.size = size) (hby : i.bytes = bytes) (hzs : z.cells.size = size) (hsz : 0 < size)
    (v : Value) (n : Nat) (xs : List Value) (hs : a.eval s = v) (hown : w.ownsRow base e size v n xs)
    (B' : Nat) (u : Value) (m : Nat) (news : List Value) (hx : a.eval x = u) (hsrc : w.ownsRow B' e size u m news) (h1 : ∀ u ∈ news, u.oneCell' = true)
    (h63 : n + m ≤ maxLen) (hbytes : (n + m) * bytes ≤ 140737488355328) (hbase : base ≤ w.heap.size)
    (h : ∀ v' w', w'.ownsRow base e size v' (n + m) (xs ++ news) → w.grownBy w' v.ownBlock → K (a.put o.dst v') w') :
    if Region.wanted o (yielded ops a.tmps) = true then Oper.wp P o a w K Q else E := by
  have hw : Region.wanted o (yielded ops a.tmps) = true := by simp [Region.wanted, hgd]
  rw [if_pos hw]
  rcases hsrc.2 with ⟨hu, hm⟩ | ⟨g, cap, cur, hu, hrest⟩
  · subst hm
    have hn : news = [] := List.eq_nil_of_length_eq_zero (by simpa using hsrc.1)
    subst hn
    have hrun := run_append_owned_none (P := P) (w := w) base t o.type e i size ht hi v n xs hown
    unfold Oper.wp
    simp [execOp, ho, resolve, invoke, builtin, hs, hx, hu, hrun, Result.andThen]
    exact h v w (by simpa using hown) ⟨rfl, rfl, rfl, Nat.le_refl _, fun _ _ _ => rfl⟩
  · obtain ⟨v', w', hr, h2, h3, h4, h5⟩ := run_append_own_at (P := P) (w := w) base t o.type e i z size bytes ht hi hz hsize hby hzs hsz v n xs hown ⟨g, 0, none⟩ m cap news hsrc.1 (hsrc.cells (by rw [hu]; rfl)) h1 h63 hbytes hbase
    unfold Oper.wp execOp
    simp only [ho, resolve, invoke, builtin, Sem.run_bind, Sem.run_pure, Result.andThen_ok, List.map_toArray, List.map_cons, List.map_nil, hs, hx, hu, hr]
    exact h v' w' h2 h3

/-- What a function that returns a tree, and whether it is one, comes to. -/
def NewTreeB (r : List Fil × Bool) (w : World) (e : Ending) (w' : World) : Prop :=
  ∃ v ps, e = .returned (.tuple #[.agg #[v], .bool r.2]) ∧ ps.map (·.1) = r.1 ∧ OwnFils w' w.heap.size v ps ∧ Below w.heap.size w w'
def NewRowF (ps : List (Fil × Value)) (w : World) (e : Ending) (w' : World) : Prop :=
  ∃ v, e = .returned v ∧ w'.ownsRow w.heap.size 33 6 v ps.length (ps.flatMap filCells) ∧ Below w.heap.size w w'
theorem rowsF_slices {w : World} {v : Value} {ps : List (Fil × Value)} (h : RowsF w v ps) : ∀ p ∈ ps, ∃ a n c, p.2 = .slice a n c := fun p hp => by
  obtain ⟨a, c, e⟩ := owns_shape (h.2 p hp)
  exact ⟨a, _, c, e⟩
theorem treeB_no {r : List Fil × Bool} {w w' : World} (h : r = ([], false)) (hb : Below w.heap.size w w') : NewTreeB r w (.returned (.tuple #[.agg #[.slice none 0 0], .bool false])) w' := by
  subst h; exact ⟨_, [], rfl, rfl, ⟨World.ownsRow_nil _ _ _ _, OwnBodies.nil _ _⟩, hb⟩

set_option maxRecDepth 100000 in
set_option maxHeartbeats 1000000 in
theorem slices_Clone (v : Value) (ps : List (Fil × Value)) (w : World) (h : RowsF w v ps) (hl : ps.length ≤ 1000000) :
    Calls Tryz.prog 46 #[v] w (NewRowF ps w) := by
  obtain ⟨i0, hi, hz0, hz1, hz2⟩ := info_parts infoFil
  have Hi := Lib.hid hi
  have Hz0 := Lib.hid hz0
  have Hz1 := Lib.hid hz1
  have Hz2 := Lib.hid hz2
  have H := Lib.hid h
  have H1 := Lib.hid (fil_one ps (rowsF_slices h))
  have q : ∀ (w : World) (a : Option Addr) (n c n' c' : Nat), (binOp .eql 23 (.slice a n c) (.slice none n' c')).run Tryz.prog w = .ok (.bool a.isNone) w := fun w a n c n' c' => Lib.run_eql_slice_nil w _ _ a n c n' c' Tryz.underlying23
  rcases h.1.2 with ⟨hu, hm⟩ | ⟨g, cap, cur, hu, hrest⟩
  · subst hu
    have hn : ps = [] := List.eq_nil_of_length_eq_zero hm
    have Hn := Lib.hid hn
    clear h hi hz0 hz1 hz2 hm hn
    go_enter Tryz.func46, Tryz.ntmps46
    go_wp2_with fail
    go_ret
    rw [Hn.out]
    exact ⟨_, rfl, World.ownsRow_nil _ _ _ _, by (repeat (with_reducible first | exact Below.refl _ _ | assumption | refine ba ?_ _ | refine bd ?_ | refine bdN ?_ _ | refine bs ?_ (by first | exact Nat.le_refl _ | (dsimp only; omega) | (simp; done)) _ | refine bt ?_ (by assumption)))⟩
  · subst hu
    clear h hi hz0 hz1 hz2 hrest
    go_enter Tryz.func46, Tryz.ntmps46
    go_wp2_with (at_builtin; refine wpList_append_both rfl _ _ 23 rfl w.heap.size 33 i0 _ 6 80 Tryz.underlying23 Hi.out Hz0.out Hz1.out Hz2.out rfl (by decide) _ 0 _ rfl (World.ownsRow_made (base := w.heap.size) (size := 6) (e := 33) w #[] 0 (Nat.le_refl _) (by unfold maxLen; omega) rfl) 0 _ ps.length _ rfl ((H.out.1).alloc _) H1.out (by unfold maxLen; omega) (by omega) (by simp) ?_; intro v6 w6 hown6 hgrow6; rw [Nat.zero_add] at hown6; have Hb6 := Lib.hid (show Below w.heap.size w w6 from (ba (Below.refl _ _) _).grown hgrow6 (by simp) (fun g hg => by cases hg; exact Nat.le_refl _)); have Hown6 := Lib.hid (show w6.ownsRow w.heap.size 33 6 v6 ps.length (ps.flatMap filCells) by simpa using hown6); clear hown6 hgrow6)
    go_ret
    exact ⟨_, rfl, Hown6.out, Hb6.out⟩
theorem okPls_tree {fs : List Fil} (h : okTree fs = true) : OkPls fs := fun f hf => okFil_pl (okTree_file h hf)
theorem body8 {ps : List (Fil × Value)} (h : okTree (ps.map (·.1)) = true) : ∀ p ∈ ps, p.1.body.length ≤ 1048576 := fun p hp => by
  have h1 := okFil_body (okTree_file h (List.mem_map.2 ⟨p, hp, rfl⟩))
  unfold okBody at h1
  simp only [Bool.and_eq_true, decide_eq_true_eq] at h1
  omega
set_option maxRecDepth 100000 in
set_option maxHeartbeats 2000000 in
theorem impl_copyIfValid (v : Value) (ps : List (Fil × Value)) (w : World) (h : RowsF w v ps) (hz : ShortT 8000000 (ps.map (·.1))) :
    Calls Tryz.prog 47 #[.agg #[v]] w (NewTreeB (if okTree (ps.map (·.1)) then (ps.map (·.1), true) else ([], false)) w) := by
  have H := Lib.hid h
  have Hz := Lib.hid hz
  obtain ⟨aa, ca, rfl⟩ := h.len
  have hlen : (ps.map (·.1)).length = ps.length := List.length_map ..
  have Hf := Lib.hid (show FilsIn w (fun _ => True) (.slice aa ps.length ca) (ps.map (·.1)) from h.fils)
  obtain ⟨fs, hfs⟩ : ∃ fs, fs = ps.map (·.1) := ⟨_, rfl⟩
  rw [← hfs] at Hz Hf hlen ⊢
  have Hfs := Lib.hid hfs
  clear h hz hfs
  cases hok : okTree fs
  · have Hok := Lib.hid hok
    clear hok
    go_enter Tryz.func47, Tryz.ntmps47
    go_wp2_with fail
    refine (impl_ValidTree _ fs _ _ (Hf.out.below (by (repeat (with_reducible first | exact Below.refl _ _ | assumption | refine ba ?_ _ | refine bd ?_ | refine bdN ?_ _ | refine bs ?_ (by first | exact Nat.le_refl _ | (dsimp only; omega) | (simp; done)) _ | refine bt ?_ (by assumption))))) Hz.out).mono ?_
    rintro _ w5 ⟨rfl, hb5⟩
    rw [Hok.out]
    obtain ⟨hc, hf, hs⟩ := bcell hb5
    go_wp2_with fail
    exact bodyPost_ret (v := .tuple #[.agg #[.slice none 0 0], .bool false]) (by simp [results, Tryz.results47, go_sem, hc, hs]) rfl (treeB_no rfl (by (repeat (with_reducible first | exact Below.refl _ _ | assumption | refine ba ?_ _ | refine bd ?_ | refine bdN ?_ _ | refine bs ?_ (by first | exact Nat.le_refl _ | (dsimp only; omega) | (simp; done)) _ | refine bt ?_ (by assumption)))))
  · have Hok := Lib.hid hok
    have Hp := Lib.hid (okPls_tree hok)
    have H12 := Lib.hid (okTree_all hok).2.2
    have Hb8 := Lib.hid (body8 (ps := ps) (by rw [← Hfs.out]; exact hok))
    have Hkeep := Lib.hid (keepIn_all fs (dedup (fs.map place)) (fun f hf => mem_dedup.2 (List.mem_map.2 ⟨f, hf, rfl⟩)))
    clear hok
    go_enter Tryz.func47, Tryz.ntmps47
    go_wp2_with fail
    refine (impl_ValidTree _ fs _ _ (Hf.out.below (by (repeat (with_reducible first | exact Below.refl _ _ | assumption | refine ba ?_ _ | refine bd ?_ | refine bdN ?_ _ | refine bs ?_ (by first | exact Nat.le_refl _ | (dsimp only; omega) | (simp; done)) _ | refine bt ?_ (by assumption))))) Hz.out).mono ?_
    rintro _ w5 ⟨rfl, hb5⟩
    rw [Hok.out]
    have Hx5 := Lib.hid (show Boxed2 w #[.slice aa ps.length ca] 25 #[.slice none 0 0] 25 w5 by unfold Boxed2; (repeat (with_reducible first | exact Below.refl _ _ | assumption | refine ba ?_ _ | refine bd ?_ | refine bdN ?_ _ | refine bs ?_ (by first | exact Nat.le_refl _ | (dsimp only; omega) | (simp; done)) _ | refine bt ?_ (by assumption))))
    have a0 : w5.cell? ⟨w.heap.size, 0, none⟩ = some (.slice aa ps.length ca) := Hx5.out.one.cell 0
    have s5 := Hx5.out.lt
    clear hb5
    go_wp2_with fail
    go_region_with (first
      | (go_at_call 62; refine (impl_placesOf _ fs (fun _ => True) _ (Hf.out.below (bt Hx5.out.below (by (repeat (with_reducible first | exact Below.refl _ _ | assumption | refine ba ?_ _ | refine bd ?_ | refine bdN ?_ _ | refine bs ?_ (by first | exact Nat.le_refl _ | (dsimp only; omega) | (simp; done)) _ | refine bt ?_ (by assumption)))))) Hp.out (by have := H12.out; omega)).mono ?_; rintro _ w6 ⟨b6, rfl, hle6, hm6, hb6⟩; have Hm6 := Lib.hid hm6; have Hx6 := Lib.hid (Hx5.out.step (show Below w5.heap.size w5 w6 by (repeat (with_reducible first | exact Below.refl _ _ | assumption | refine ba ?_ _ | refine bd ?_ | refine bdN ?_ _ | refine bs ?_ (by first | exact Nat.le_refl _ | (dsimp only; omega) | (simp; done)) _ | refine bt ?_ (by assumption))))); have a6 : w6.cell? ⟨w.heap.size, 0, none⟩ = some (.slice aa ps.length ca) := Hx6.out.one.cell 0; have s6 := Hx6.out.lt; clear hm6)
      | (go_at_call 64; refine (impl_copyAt _ ps b6 _ _ _ (H.out.below (bt Hx6.out.below (by (repeat (with_reducible first | exact Below.refl _ _ | assumption | refine ba ?_ _ | refine bd ?_ | refine bdN ?_ _ | refine bs ?_ (by first | exact Nat.le_refl _ | (dsimp only; omega) | (simp; done)) _ | refine bt ?_ (by assumption)))))) (Hm6.out.below (by (repeat (with_reducible first | exact Below.refl _ _ | assumption | refine ba ?_ _ | refine bd ?_ | refine bdN ?_ _ | refine bs ?_ (by first | exact Nat.le_refl _ | (dsimp only; omega) | (simp; done)) _ | refine bt ?_ (by assumption))))) (by rw [← Hfs.out]; exact Hp.out) (by have := H12.out; omega) Hb8.out).mono ?_; rintro _ w7 ⟨v7, qs, rfl, hqs, hown7, hb7⟩; rw [← Hfs.out, Hkeep.out] at hqs; have Hqs := Lib.hid hqs; obtain ⟨a7, c7, rfl⟩ := hown7.len; have Hown7 := Lib.hid hown7; have Hx7 := Lib.hid (Hx6.out.step (show Below w6.heap.size w6 w7 by (repeat (with_reducible first | exact Below.refl _ _ | assumption | refine ba ?_ _ | refine bd ?_ | refine bdN ?_ _ | refine bs ?_ (by first | exact Nat.le_refl _ | (dsimp only; omega) | (simp; done)) _ | refine bt ?_ (by assumption))))); clear hown7 hqs; generalize qs.length = qn at *; have q0 : w7.cell? ⟨w.heap.size + 1, 0, none⟩ = some (.slice none 0 0) := Hx7.out.cell 0; have f0 : w7.frozen? ⟨w.heap.size + 1, 0, none⟩ = false := (by have := box_free Hx7.out.two 0; simpa using this); have s7 := Hx7.out.lt))
    all_goals
      go_wp2_with fail
      refine bodyPost_ret (v := .tuple #[.agg #[.slice a7 qn c7], .bool true]) (by simp [results, Tryz.results47, go_sem, *]) rfl ?_
      have hbw := Hx7.out.below
      have hz6 := Hx6.out.lt
      refine ⟨_, qs, rfl, Hqs.out, ?_, by (repeat (with_reducible first | exact Below.refl _ _ | assumption | refine ba ?_ _ | refine bd ?_ | refine bdN ?_ _ | refine bs ?_ (by first | exact Nat.le_refl _ | (dsimp only; omega) | (simp; done)) _ | refine bt ?_ (by assumption)))⟩
      exact ((Hown7.out.mono (B' := w.heap.size + 2) (by first | omega | (simp; omega))).set_low (by dsimp only; omega) _).mono (by omega)

theorem copyIfValid_as (v : Value) (ps : List (Fil × Value)) (gs : List Fil) (r : List Fil × Bool) (w : World) (h : RowsF w v ps) (hz : ShortT 8000000 gs) (hg : ps.map (·.1) = gs) (hr : (if okTree gs then (gs, true) else ([], false)) = r) :
    Calls Tryz.prog 47 #[.agg #[v]] w (NewTreeB r w) := by subst hg hr; exact impl_copyIfValid v ps w h hz
end Go.Proofs.YtfelbhpgifgkcaaGreat
