/- Contract of the program's function that says whether a valid tree has a file with an index. -/
import Derived.Test.YtgecemngfpgcoaaTrees
import Derived.Test.YtgecemngfpgcoaaMarks2
import Derived.Test.YtgecemngfpgcoaaBoth
import Derived.Test.YtgecemngfpgcoaaExTools
import Derived.Test.YtgecemngfpgcoaaDirs
import Derived.Test.YtgecemngfpgcoaaPlainG
import Derived.Maps.AppendAt
import Derived.WalkSpells
import Derived.Deep.RegionWith
import Derived.Deep.RegionLaw
set_option linter.unusedVariables false
set_option linter.unusedSimpArgs false
namespace Go.Proofs.Ytgecemngfpgcoaa
open Go.RowKit Go.Proofs.Ytgecemngfpgcoaa.Nm

set_option maxRecDepth 100000 in
set_option maxHeartbeats 400000 in
theorem impl_hasFile (v : Value) (fs : List Fil) (D : Nat → Prop) (i : Int) (w : World) (hr : FilsIn w D v fs) (hz : ShortT 8000000 fs) (hn : fs.length ≤ 9000000000) :
    Calls Try.prog 50 #[.agg #[v], .int .i64 i] w fun e w' => e = .returned (.bool (okTree fs && inr i 0 ((fs.length : Int) - 1))) ∧ Below w.heap.size w w' := by
  have Hr := Lib.hid hr
  have Hz := Lib.hid hz
  obtain ⟨aa, ca, rfl, hl, hm⟩ := hr.len
  clear hr hz hl hm
  cases h1 : okTree fs
  · have H1 := Lib.hid h1
    clear h1
    go_enter Try.func50, Try.ntmps50
    go_wp2_with (go_at_call 59; refine (impl_ValidTree _ fs D _ (Hr.out.below (by (repeat (with_reducible first | exact Below.refl _ _ | assumption | refine ba ?_ _ | refine bd ?_ | refine bdN ?_ _ | refine bs ?_ (by first | exact Nat.le_refl _ | (dsimp only; omega) | (simp; done)) _ | refine bt ?_ (by assumption))))) Hz.out).mono ?_; (rintro _ _ ⟨rfl, hb⟩; obtain ⟨hc, hf, hs⟩ := bcell hb); rw [H1.out])
    go_ret
    exact ⟨rfl, by (repeat (with_reducible first | exact Below.refl _ _ | assumption | refine ba ?_ _ | refine bd ?_ | refine bdN ?_ _ | refine bs ?_ (by first | exact Nat.le_refl _ | (dsimp only; omega) | (simp; done)) _ | refine bt ?_ (by assumption)))⟩
  · have H1 := Lib.hid h1
    clear h1
    go_enter Try.func50, Try.ntmps50
    go_wp2_with (first
      | (go_at_call 59; refine (impl_ValidTree _ fs D _ (Hr.out.below (by (repeat (with_reducible first | exact Below.refl _ _ | assumption | refine ba ?_ _ | refine bd ?_ | refine bdN ?_ _ | refine bs ?_ (by first | exact Nat.le_refl _ | (dsimp only; omega) | (simp; done)) _ | refine bt ?_ (by assumption))))) Hz.out).mono ?_; (rintro _ _ ⟨rfl, hb⟩; obtain ⟨hc, hf, hs⟩ := bcell hb); rw [H1.out])
      | (go_at_call 57; refine (impl_inRange _ _ _).mono ?_; rintro _ _ ⟨rfl, rfl⟩))
    go_ret
    exact ⟨rfl, by (repeat (with_reducible first | exact Below.refl _ _ | assumption | refine ba ?_ _ | refine bd ?_ | refine bdN ?_ _ | refine bs ?_ (by first | exact Nat.le_refl _ | (dsimp only; omega) | (simp; done)) _ | refine bt ?_ (by assumption)))⟩

/-! ### Contracts of the program's functions that copy trees: with one more file, without one, with one that is edited. -/
/-- The slice v is a row of files, and their bodies are rows of statements: all of them made by make, append or a literal, or nil. -/
def RowsF (w : World) (v : Value) (ps : List (Fil × Value)) : Prop :=
  w.ownsRow 0 36 6 v ps.length (ps.flatMap filCells) ∧ ∀ p ∈ ps, w.ownsRow 0 138 5 p.2 p.1.body.length (p.1.body.flatMap stmCells)
theorem RowsF.of {w : World} {B : Nat} {v : Value} {ps : List (Fil × Value)} (h : OwnFils w B v ps) : RowsF w v ps := ⟨owns_mono h.1 (Nat.zero_le _), fun p hp => owns_mono (h.2.1 p hp) (Nat.zero_le _)⟩
theorem RowsF.below {w w' : World} {v : Value} {ps : List (Fil × Value)} (h : RowsF w v ps) (hb : Below w.heap.size w w') : RowsF w' v ps := ⟨owns_below h.1 hb, fun p hp => owns_below (h.2 p hp) hb⟩
theorem RowsF.fils {w : World} {v : Value} {ps : List (Fil × Value)} (h : RowsF w v ps) : FilsIn w (fun _ => True) v (ps.map (·.1)) := FilsIn.of_owns h.1 (fun _ _ => trivial) (fun p hp => StmsIn.of_owns (h.2 p hp) (fun _ _ => trivial))
theorem RowsF.len {w : World} {v : Value} {ps : List (Fil × Value)} (h : RowsF w v ps) : ∃ a cap, v = .slice a ps.length cap := owns_shape h.1
theorem stm_one (ss : List Stm) : ∀ u ∈ ss.flatMap stmCells, u.oneCell' = true := fun u hu => by
  obtain ⟨s, _, h⟩ := List.mem_flatMap.1 hu
  simp only [stmCells, List.mem_cons, List.not_mem_nil, or_false] at h
  rcases h with rfl | rfl | rfl | rfl | rfl <;> rfl
theorem fil_one (ps : List (Fil × Value)) (hv : ∀ p ∈ ps, ∃ a n c, p.2 = .slice a n c) : ∀ u ∈ ps.flatMap filCells, u.oneCell' = true := fun u hu => by
  obtain ⟨p, hp, h⟩ := List.mem_flatMap.1 hu
  obtain ⟨a, n, c, e⟩ := hv p hp
  simp only [filCells, List.mem_cons, List.not_mem_nil, or_false] at h
  rcases h with rfl | rfl | rfl | rfl | rfl | rfl
  all_goals first | rfl | (rw [e]; rfl)
theorem box_free {w wr : World} {cs : Array Value} {T : TypeId} (h : Boxed w cs T wr) (i : Nat) : wr.frozen? ⟨w.heap.size, i, none⟩ = false := by
  have := h.frozen (p := ⟨w.heap.size, i, none⟩) (by simp)
  rw [this]; simp [go_sem]
theorem six_of {w wr : World} {c0 c1 c2 c3 c4 c5 : Value} {T : TypeId} (h : Boxed w #[c0, c1, c2, c3, c4, c5] T wr) :
    wr.cell? ⟨w.heap.size, 0, none⟩ = some c0 ∧ wr.cell? ⟨w.heap.size, 1, none⟩ = some c1 ∧ wr.cell? ⟨w.heap.size, 2, none⟩ = some c2 ∧ wr.cell? ⟨w.heap.size, 3, none⟩ = some c3 ∧ wr.cell? ⟨w.heap.size, 4, none⟩ = some c4 ∧ wr.cell? ⟨w.heap.size, 5, none⟩ = some c5 :=
  ⟨h.cell 0, h.cell 1, h.cell 2, h.cell 3, h.cell 4, h.cell 5⟩
theorem keepIn_snoc (fs : List Fil) (S : List Pl) (k : Nat) (h : k < fs.length) : keepIn (fs.take (k + 1)) S = keepIn (fs.take k) S ++ (if place fs[k] ∈ S then [fs[k]] else []) := by
  unfold keepIn
  rw [List.take_succ_eq_append_getElem h, List.filter_append]
  by_cases e : place fs[k] ∈ S <;> simp [e]
theorem below2_of {w wr W w7 : World} {cs ds : Array Value} {T U : TypeId} {row : Option Nat} (h : Boxed2 w cs T ds U wr) (hb : Below wr.heap.size wr W) (hg : W.grownBy w7 row) (hr : ∀ g, row = some g → w.heap.size + 2 ≤ g) : Boxed2 w cs T ds U w7 :=
  (h.step hb).grown hg (h.step hb).size (fun g e => by simpa using hr g e)

theorem owns_set_other {w : World} {B e size n : Nat} {v : Value} {xs : List Value} (h : w.ownsRow B e size v n xs) {p : Addr} (hp : ∀ b, v.ownBlock = some b → b ≠ p.block) (u : Value) : (w.setCell p u).ownsRow B e size v n xs :=
  owns_heap h (fun b hb => Below.heap_setCell w p u b (hp b hb))
theorem bodies_grown {w w' : World} {B : Nat} {qs : List (Fil × Value)} {row : Option Nat} (h : OwnBodies w B qs) (hg : w.grownBy w' row) (hne : ∀ b, row = some b → ∀ p ∈ qs, p.2.ownBlock ≠ some b) : OwnBodies w' B qs :=
  h.heap (fun b _ hlt ⟨p, hp, hb⟩ => hg.block b hlt (fun e => hne b e.symm p hp hb))
/-- One more file with its own body behind others. -/
theorem fils_snoc {wr W w7 : World} {B : Nat} {ov v7 : Value} {qs : List (Fil × Value)} {q : Fil × Value} (h : OwnFils wr B ov qs) (hb : Below wr.heap.size wr W) (hB : B ≤ wr.heap.size)
    (hq : W.ownsRow wr.heap.size 138 5 q.2 q.1.body.length (q.1.body.flatMap stmCells)) (hg : W.grownBy w7 ov.ownBlock)
    (h7 : w7.ownsRow B 36 6 v7 (qs.length + 1) (qs.flatMap filCells ++ filCells q)) : OwnFils w7 B v7 (qs ++ [q]) := by
  refine ⟨by simpa using h7, ?_⟩
  have h1 := OwnBodies.snoc h.2 hb hB hq
  exact bodies_grown h1 hg (fun b hb' p hp => own_types (by decide) (owns_below h.1 hb) (h1.1 p hp) hb')

set_option maxRecDepth 100000 in
set_option maxHeartbeats 1000000 in
theorem impl_copyBody (fb : List Stm) (v : Value) (B : Nat) (w : World) (h : w.ownsRow B 138 5 v fb.length (fb.flatMap stmCells)) (hb : fb.length ≤ 1048576) :
    Calls Try.prog 91 #[v] w fun e w' => ∃ a c, e = .returned (.slice a fb.length c) ∧ w'.ownsRow w.heap.size 138 5 (.slice a fb.length c) fb.length (fb.flatMap stmCells) ∧ Below w.heap.size w w' := by
  obtain ⟨i1, hi1, hy0, hy1, hy2⟩ := info_parts infoStm
  have Hi1 := Lib.hid hi1
  have Hy0 := Lib.hid hy0
  have Hy1 := Lib.hid hy1
  have Hy2 := Lib.hid hy2
  have H := Lib.hid h
  obtain ⟨aa, ca, rfl⟩ := owns_shape h
  clear h hi1 hy0 hy1 hy2
  go_enter Try.func91, Try.ntmps91
  go_wp2_with (at_builtin; refine wpList_append_both rfl _ _ 34 rfl w.heap.size 138 i1 _ 5 56 Try.underlying34 Hi1.out Hy0.out Hy1.out Hy2.out rfl (by decide) _ 0 _ rfl (World.ownsRow_nil _ _ _ _) B _ fb.length _ rfl H.out (stm_one fb) (by unfold maxLen; omega) (by omega) (Nat.le_refl _) ?_; intro v6 w6 hown6 hgrow6; rw [Nat.zero_add, List.nil_append] at hown6; obtain ⟨a6, c6, hv6⟩ := owns_shape hown6; subst hv6; have Hown6 := Lib.hid hown6; have Hb6 := Lib.hid (show Below w.heap.size w w6 from (Below.refl _ _).grown hgrow6 (Nat.le_refl _) (fun g hg => by cases hg)); clear hown6 hgrow6)
  go_ret
  exact ⟨a6, c6, rfl, Hown6.out, Hb6.out⟩
set_option maxRecDepth 100000 in
set_option maxHeartbeats 4000000 in
theorem impl_copyAt (v : Value) (ps : List (Fil × Value)) (b n : Nat) (S : List Pl) (w : World) (h : RowsF w v ps) (hm : PlMap w b n S) (ho : OkPls (ps.map (·.1))) (hl : ps.length ≤ 1000000) (hbl : ∀ p ∈ ps, p.1.body.length ≤ 1048576) :
    Calls Try.prog 53 #[.agg #[v], .map (some b)] w (NewTree (keepIn (ps.map (·.1)) S) w) := by
  obtain ⟨i0, hi, hz0, hz1, hz2⟩ := info_parts infoFil
  obtain ⟨i1, hi1, hy0, hy1, hy2⟩ := info_parts infoStm
  have Hi := Lib.hid hi
  have Hz0 := Lib.hid hz0
  have Hz1 := Lib.hid hz1
  have Hz2 := Lib.hid hz2
  have Hi1 := Lib.hid hi1
  have Hy0 := Lib.hid hy0
  have Hy1 := Lib.hid hy1
  have Hy2 := Lib.hid hy2
  have H := Lib.hid h
  have Hm := Lib.hid hm
  have Ho := Lib.hid ho
  have Hbl := Lib.hid hbl
  obtain ⟨aa, ca, rfl⟩ := h.len
  clear h hm ho hbl hi hz0 hz1 hz2 hi1 hy0 hy1 hy2
  go_enter Try.func53, Try.ntmps53
  go_wp2_with fail
  go_loopw [5, 11] (fun ov iv wr => ∃ (k : Nat) (qs : List (Fil × Value)), k ≤ ps.length ∧ iv = .int .i64 k ∧ qs.map (·.1) = keepIn ((ps.map (·.1)).take k) S ∧ OwnFils wr (w.heap.size + 2) ov qs ∧ Boxed2 w #[.slice aa ps.length ca] 25 #[.slice none 0 0] 25 wr) (fun _ iv _ => ps.length - (intOf iv).toNat)
  case atStart => exact ⟨0, [], by omega, rfl, rfl, ⟨World.ownsRow_nil _ _ _ _, OwnBodies.nil _ _⟩, Boxed2.start _ _ _ _ _⟩
  case round =>
    obtain ⟨k, qs, hk, rfl, hqs, hown, hbx⟩ := hrel
    obtain ⟨oa, oc, rfl⟩ := hown.len
    have hbel := hbx.below
    have hsz := hbx.lt
    have Hqs := Lib.hid hqs
    have Hown := Lib.hid hown
    have Hbx := Lib.hid hbx
    have hql : qs.length ≤ 1000000 := by
      have h := congrArg List.length hqs
      have h2 : (keepIn ((ps.map (·.1)).take k) S).length ≤ ((ps.map (·.1)).take k).length := List.length_filter_le _ _
      simp at h h2
      omega
    clear hqs hown hbx
    by_cases hlt : k < ps.length
    · have hrow := (H.out.below hbel).1
      obtain ⟨g, cap, e1, hg, hg2⟩ := hrow.form (by omega)
      simp only [Value.slice.injEq] at e1
      obtain ⟨rfl, _, rfl⟩ := e1
      obtain ⟨⟨c0, c1, c2, c3, c4, c5⟩, _⟩ := own6 hrow k hlt
      have Hbody := Lib.hid ((H.out.below hbel).2 _ (List.getElem_mem hlt))
      have Hbk := Lib.hid (Hbl.out _ (List.getElem_mem hlt))
      have Hpl := Lib.hid (show okPl (place ps[k].1) from Ho.out _ (List.mem_map.2 ⟨_, List.getElem_mem hlt, rfl⟩))
      have Hsn := Lib.hid (keepIn_snoc (ps.map (·.1)) S k (by simpa using hlt))
      simp only [List.getElem_map] at Hsn
      have Hmp := Lib.hid (Hm.out.below hbel)
      obtain ⟨p, hp⟩ : ∃ p, p = ps[k] := ⟨_, rfl⟩
      rw [← hp] at c0 c1 c2 c3 c4 c5 Hbody Hpl Hsn Hbk
      clear hp hrow hg hg2
      obtain ⟨⟨fr, fp, fn, fi, fst, fb⟩, bv⟩ := p
      dsimp only at c0 c1 c2 c3 c4 c5 Hbody Hbk Hpl Hsn
      obtain ⟨ab, cb, rfl⟩ := owns_shape Hbody.out
      have Hb5 := Lib.hid (Boxed.start wr #[.int .i64 fr, .string (mk fp), .string (mk fn), .bool fi, .int .i64 fst, .slice ab fb.length cb] 36)
      by_cases hin : (fr, fp, fn, fi) ∈ S
      · have Hin := Lib.hid (decide_eq_true hin)
        have Hsn2 := Lib.hid (show keepIn ((ps.map (·.1)).take (k + 1)) S = keepIn ((ps.map (·.1)).take k) S ++ [(⟨fr, fp, fn, fi, fst, fb⟩ : Fil)] by rw [Hsn.out, if_pos (show place (⟨fr, fp, fn, fi, fst, fb⟩ : Fil) ∈ S from hin)])
        clear hin
        go_wp2_with fail
        refine (impl_placeOf _ _ _ _ _ _ _).mono ?_
        rintro _ w5 ⟨rfl, hb5⟩
        have Hx5 := Lib.hid (Hb5.out.step (show Below _ _ w5 by (repeat (with_reducible first | exact Below.refl _ _ | assumption | refine ba ?_ _ | refine bd ?_ | refine bdN ?_ _ | refine bs ?_ (by first | exact Nat.le_refl _ | (dsimp only; omega) | (simp; done)) _ | refine bt ?_ (by assumption)))))
        obtain ⟨d0, d1, d2, d3, d4, d5⟩ := six_of Hx5.out
        have hl5 := Hx5.out.lt
        clear hb5 c0 c1 c2 c3 c4 c5
        have Hp5 := Lib.hid (Hmp.out.below Hx5.out.below)
        have Hc5 := Lib.hid (owns_below Hbody.out Hx5.out.below)
        have hrun : (Instr.lookup 85 (.map (some b)) (plVal (fr, fp, fn, fi)) false).run Try.prog w5 = .ok (.bool true) w5 := by have h := Hp5.out.get (fr, fp, fn, fi) Hpl.out; rw [Hin.out] at h; exact h
        go_wp2_with (first
          | (at_builtin; refine wpList_append_own _ rfl _ _ 23 rfl (w.heap.size + 2) 36 i0 _ 6 80 Try.underlying23 Hi.out Hz0.out Hz1.out Hz2.out rfl (by decide) _ qs.length _ rfl (Hown6f.out.alloc _) ⟨_, 0, none⟩ 1 1 (filCells ((⟨fr, fp, fn, fi, fst, fb⟩ : Fil), .slice a6 fb.length c6)) rfl rfl ?_ (fun x hx => by simp [filCells] at hx; rcases hx with rfl | rfl | rfl | rfl | rfl | rfl <;> rfl) (by unfold maxLen; omega) (by omega) (by simp; omega) ?_; (exact new_cells _ (filCells ((⟨fr, fp, fn, fi, fst, fb⟩ : Fil), .slice a6 fb.length c6)).toArray _ _ (by first | rfl | simp)); intro v7 w7 hown7 hgrow7 hnil7)
          | (go_at_call 91; refine (impl_copyBody fb _ 0 w5 Hc5.out Hbk.out).mono ?_; rintro _ w6 ⟨a6, c6, rfl, hown6, hb6⟩; have Hown6 := Lib.hid hown6; have Hx6 := Lib.hid (Hx5.out.step hb6); clear d0 d1 d2 d3 d4 d5 hown6 hb6; obtain ⟨d0, d1, d2, d3, d4, d5⟩ := six_of Hx6.out; have z5 := box_free Hx6.out 5; have hl6 := Hx6.out.lt; have Hown6f := Lib.hid (show (w6.setCell ⟨wr.heap.size, 5, none⟩ (.slice a6 fb.length c6)).ownsRow (w.heap.size + 2) 36 6 (.slice oa qs.length oc) qs.length (qs.flatMap filCells) from owns_set_other (owns_below Hown.out.1 Hx6.out.below) (fun b hb => by have := (Hown.out.1.lt b hb).2; dsimp only; omega) _)))
        have HbW := Lib.hid (show Below wr.heap.size wr ((w6.setCell ⟨wr.heap.size, 5, none⟩ (.slice a6 fb.length c6)).alloc (.cells (filCells ((⟨fr, fp, fn, fi, fst, fb⟩ : Fil), .slice a6 fb.length c6)).toArray 36)) from ba (bs Hx6.out.below (p := ⟨wr.heap.size, 5, none⟩) (Nat.le_refl _) _) _)
        have Hq7 := Lib.hid (show ((w6.setCell ⟨wr.heap.size, 5, none⟩ (.slice a6 fb.length c6)).alloc (.cells (filCells ((⟨fr, fp, fn, fi, fst, fb⟩ : Fil), .slice a6 fb.length c6)).toArray 36)).ownsRow wr.heap.size 138 5 (.slice a6 fb.length c6) fb.length (fb.flatMap stmCells) from (owns_set_other (owns_mono Hown6.out (by omega)) (fun b hb => by have := (Hown6.out.lt b hb).1; dsimp only; omega) _).alloc _)
        have Hx7 := Lib.hid (below2_of Hbx.out HbW.out hgrow7 (fun g hg => (Hown.out.1.lt g hg).1))
        have Hf7 := Lib.hid (fils_snoc (q := ((⟨fr, fp, fn, fi, fst, fb⟩ : Fil), .slice a6 fb.length c6)) Hown.out HbW.out (by omega) Hq7.out hgrow7 hown7)
        have Hmp7 := Lib.hid (show (qs ++ [((⟨fr, fp, fn, fi, fst, fb⟩ : Fil), Value.slice a6 fb.length c6)]).map (·.1) = keepIn ((ps.map (·.1)).take (k + 1)) S by rw [List.map_append, Hqs.out, Hsn2.out]; rfl)
        clear hown7 hgrow7 hnil7
        go_roundw
        case rel => exact ⟨k + 1, qs ++ [((⟨fr, fp, fn, fi, fst, fb⟩ : Fil), Value.slice a6 fb.length c6)], by omega, by go_num, Hmp7.out, Hf7.out, Hx7.out⟩
        case measure => simp [intOf]; omega
      · have Hin := Lib.hid (decide_eq_false hin)
        have Hsn2 := Lib.hid (show keepIn ((ps.map (·.1)).take (k + 1)) S = keepIn ((ps.map (·.1)).take k) S by rw [Hsn.out, if_neg (show ¬ place (⟨fr, fp, fn, fi, fst, fb⟩ : Fil) ∈ S from hin), List.append_nil])
        clear hin
        go_wp2_with fail
        refine (impl_placeOf _ _ _ _ _ _ _).mono ?_
        rintro _ w5 ⟨rfl, hb5⟩
        have Hx5 := Lib.hid (Hb5.out.step (show Below _ _ w5 by (repeat (with_reducible first | exact Below.refl _ _ | assumption | refine ba ?_ _ | refine bd ?_ | refine bdN ?_ _ | refine bs ?_ (by first | exact Nat.le_refl _ | (dsimp only; omega) | (simp; done)) _ | refine bt ?_ (by assumption)))))
        clear hb5 c0 c1 c2 c3 c4 c5
        have Hp5 := Lib.hid (Hmp.out.below Hx5.out.below)
        have hrun : (Instr.lookup 85 (.map (some b)) (plVal (fr, fp, fn, fi)) false).run Try.prog w5 = .ok (.bool false) w5 := by have h := Hp5.out.get (fr, fp, fn, fi) Hpl.out; rw [Hin.out] at h; exact h
        go_wp2_with fail
        go_roundw
        case rel => exact ⟨k + 1, qs, by omega, by go_num, by rw [Hqs.out, Hsn2.out], Hown.out.below Hx5.out.below, Hbx.out.step Hx5.out.below⟩
        case measure => simp [intOf]; omega
    · obtain rfl : k = ps.length := by omega
      have Hf := Lib.hid (show qs.map (·.1) = keepIn (ps.map (·.1)) S by rw [Hqs.out, List.take_of_length_le (by simp)])
      have q0 : wr.cell? ⟨w.heap.size + 1, 0, none⟩ = some (.slice none 0 0) := Hbx.out.cell 0
      have f0 : wr.frozen? ⟨w.heap.size + 1, 0, none⟩ = false := by have := box_free Hbx.out.two 0; simpa using this
      generalize qs.length = qn at *
      go_wp2_with fail
      refine bodyPost_ret (v := .agg #[.slice oa qn oc]) (by simp [results, Try.results53, go_sem, *]) rfl ?_
      refine ⟨_, qs, rfl, Hf.out, ?_, by (repeat (with_reducible first | exact Below.refl _ _ | assumption | refine ba ?_ _ | refine bd ?_ | refine bdN ?_ _ | refine bs ?_ (by first | exact Nat.le_refl _ | (dsimp only; omega) | (simp; done)) _ | refine bt ?_ (by assumption)))⟩
      exact ((Hown.out.set_low (by dsimp only; omega) _).mono (by omega))

/-- What is appended is a row of its own, nil or not: in a region that draws its order. -/
theorem step_append_both {P : Program} {ops : Array Oper} {o : Oper} {a : Act} {w : World} {K : Act → World → Prop} {Q : Exit → Act → World → Prop} {E : Prop} (hgd : o.guard = none) (s x : Operand) (t : TypeId)
    (ho : o.op = .call { callee := .builtin .append, args := #[s, x], argTypes := #[t, t] })
    (base : Nat) (e : TypeId) (i : TypeInfo) (z : Value) (size bytes : Nat) (ht : P.underlying t = some (.slice e)) (hi : P.info? e = some i) (hz : i.zero = some z)
    (hsize : i.size = size) (hby : i.bytes = bytes) (hzs : z.cells.size = size) (hsz : 0 < size)
    (v : Value) (n : Nat) (xs : List Value) (hs : a.eval s = v) (hown : w.ownsRow base e size v n xs)
    (B' : Nat) (u : Value) (m : Nat) (news : List Value) (hx : a.eval x = u) (hsrc : w.ownsRow B' e size u m news) (h1 : ∀ u ∈ news, u.oneCell' = true)
    (h63 : n + m ≤ maxLen) (hbytes : (n + m) * bytes ≤ 140737488355328) (hbase : base ≤ w.heap.size)
    (h : ∀ v' w', w'.ownsRow base e size v' (n + m) (xs ++ news) → w.grownBy w' v.ownBlock → K (a.put o.dst v') w') :
    if Region.wanted o (yielded ops a.tmps) = true then Oper.wp P o a w K Q else E := by
  have hw : Region.wanted o (yielded ops a.tmps) = true := by simp [Region.wanted, hgd]
  rw [if_pos hw]
  rcases hsrc.2 with ⟨hu, hm⟩ | ⟨g, cap, cur, hu, hrest⟩
  · subst hm
    have hn : news = [] := List.eq_nil_of_length_eq_zero (by simpa using hsrc.1)
    subst hn
    have hrun := run_append_owned_none (P := P) (w := w) base t o.type e i size ht hi v n xs hown
    unfold Oper.wp
    simp [execOp, ho, resolve, invoke, builtin, hs, hx, hu, hrun, Result.andThen]
    exact h v w (by simpa using hown) ⟨rfl, rfl, rfl, Nat.le_refl _, fun _ _ _ => rfl⟩
  · obtain ⟨v', w', hr, h2, h3, h4, h5⟩ := run_append_own_at (P := P) (w := w) base t o.type e i z size bytes ht hi hz hsize hby hzs hsz v n xs hown ⟨g, 0, none⟩ m cap news hsrc.1 (hsrc.cells (by rw [hu]; rfl)) h1 h63 hbytes hbase
    unfold Oper.wp execOp
    simp only [ho, resolve, invoke, builtin, Sem.run_bind, Sem.run_pure, Result.andThen_ok, List.map_toArray, List.map_cons, List.map_nil, hs, hx, hu, hr]
    exact h v' w' h2 h3

/-- What a function that returns a tree, and whether it is one, comes to. -/
def NewTreeB (r : List Fil × Bool) (w : World) (e : Ending) (w' : World) : Prop :=
  ∃ v ps, e = .returned (.tuple #[.agg #[v], .bool r.2]) ∧ ps.map (·.1) = r.1 ∧ OwnFils w' w.heap.size v ps ∧ Below w.heap.size w w'
def NewRowF (ps : List (Fil × Value)) (w : World) (e : Ending) (w' : World) : Prop :=
  ∃ v, e = .returned v ∧ w'.ownsRow w.heap.size 36 6 v ps.length (ps.flatMap filCells) ∧ Below w.heap.size w w'
theorem rowsF_slices {w : World} {v : Value} {ps : List (Fil × Value)} (h : RowsF w v ps) : ∀ p ∈ ps, ∃ a n c, p.2 = .slice a n c := fun p hp => by
  obtain ⟨a, c, e⟩ := owns_shape (h.2 p hp)
  exact ⟨a, _, c, e⟩
theorem treeB_no {r : List Fil × Bool} {w w' : World} (h : r = ([], false)) (hb : Below w.heap.size w w') : NewTreeB r w (.returned (.tuple #[.agg #[.slice none 0 0], .bool false])) w' := by
  subst h; exact ⟨_, [], rfl, rfl, ⟨World.ownsRow_nil _ _ _ _, OwnBodies.nil _ _⟩, hb⟩

set_option maxRecDepth 100000 in
set_option maxHeartbeats 1000000 in
theorem slices_Clone (v : Value) (ps : List (Fil × Value)) (w : World) (h : RowsF w v ps) (hl : ps.length ≤ 1000000) :
    Calls Try.prog 105 #[v] w (NewRowF ps w) := by
  obtain ⟨i0, hi, hz0, hz1, hz2⟩ := info_parts infoFil
  have Hi := Lib.hid hi
  have Hz0 := Lib.hid hz0
  have Hz1 := Lib.hid hz1
  have Hz2 := Lib.hid hz2
  have H := Lib.hid h
  have H1 := Lib.hid (fil_one ps (rowsF_slices h))
  have q : ∀ (w : World) (a : Option Addr) (n c n' c' : Nat), (binOp .eql 23 (.slice a n c) (.slice none n' c')).run Try.prog w = .ok (.bool a.isNone) w := fun w a n c n' c' => Lib.run_eql_slice_nil w _ _ a n c n' c' Try.underlying23
  rcases h.1.2 with ⟨hu, hm⟩ | ⟨g, cap, cur, hu, hrest⟩
  · subst hu
    have hn : ps = [] := List.eq_nil_of_length_eq_zero hm
    have Hn := Lib.hid hn
    clear h hi hz0 hz1 hz2 hm hn
    go_enter Try.func105, Try.ntmps105
    go_wp2_with fail
    go_ret
    rw [Hn.out]
    exact ⟨_, rfl, World.ownsRow_nil _ _ _ _, by (repeat (with_reducible first | exact Below.refl _ _ | assumption | refine ba ?_ _ | refine bd ?_ | refine bdN ?_ _ | refine bs ?_ (by first | exact Nat.le_refl _ | (dsimp only; omega) | (simp; done)) _ | refine bt ?_ (by assumption)))⟩
  · subst hu
    clear h hi hz0 hz1 hz2 hrest
    go_enter Try.func105, Try.ntmps105
    go_wp2_with (at_builtin; refine wpList_append_both rfl _ _ 23 rfl w.heap.size 36 i0 _ 6 80 Try.underlying23 Hi.out Hz0.out Hz1.out Hz2.out rfl (by decide) _ 0 _ rfl (World.ownsRow_made (base := w.heap.size) (size := 6) (e := 36) w #[] 0 (Nat.le_refl _) (by unfold maxLen; omega) rfl) 0 _ ps.length _ rfl ((H.out.1).alloc _) H1.out (by unfold maxLen; omega) (by omega) (by simp) ?_; intro v6 w6 hown6 hgrow6; rw [Nat.zero_add] at hown6; have Hb6 := Lib.hid (show Below w.heap.size w w6 from (ba (Below.refl _ _) _).grown hgrow6 (by simp) (fun g hg => by cases hg; exact Nat.le_refl _)); have Hown6 := Lib.hid (show w6.ownsRow w.heap.size 36 6 v6 ps.length (ps.flatMap filCells) by simpa using hown6); clear hown6 hgrow6)
    go_ret
    exact ⟨_, rfl, Hown6.out, Hb6.out⟩
theorem okPls_tree {fs : List Fil} (h : okTree fs = true) : OkPls fs := fun f hf => okFil_pl (okTree_file h hf)
theorem body8 {ps : List (Fil × Value)} (h : okTree (ps.map (·.1)) = true) : ∀ p ∈ ps, p.1.body.length ≤ 1048576 := fun p hp => by
  have h1 := okFil_body (okTree_file h (List.mem_map.2 ⟨p, hp, rfl⟩))
  unfold okBody at h1
  simp only [Bool.and_eq_true, decide_eq_true_eq] at h1
  omega
set_option maxRecDepth 100000 in
set_option maxHeartbeats 2000000 in
theorem impl_copyIfValid (v : Value) (ps : List (Fil × Value)) (w : World) (h : RowsF w v ps) (hz : ShortT 8000000 (ps.map (·.1))) :
    Calls Try.prog 104 #[.agg #[v]] w (NewTreeB (if okTree (ps.map (·.1)) then (ps.map (·.1), true) else ([], false)) w) := by
  have H := Lib.hid h
  have Hz := Lib.hid hz
  obtain ⟨aa, ca, rfl⟩ := h.len
  have hlen : (ps.map (·.1)).length = ps.length := List.length_map ..
  have Hf := Lib.hid (show FilsIn w (fun _ => True) (.slice aa ps.length ca) (ps.map (·.1)) from h.fils)
  obtain ⟨fs, hfs⟩ : ∃ fs, fs = ps.map (·.1) := ⟨_, rfl⟩
  rw [← hfs] at Hz Hf hlen ⊢
  have Hfs := Lib.hid hfs
  clear h hz hfs
  cases hok : okTree fs
  · have Hok := Lib.hid hok
    clear hok
    go_enter Try.func104, Try.ntmps104
    go_wp2_with fail
    refine (impl_ValidTree _ fs _ _ (Hf.out.below (by (repeat (with_reducible first | exact Below.refl _ _ | assumption | refine ba ?_ _ | refine bd ?_ | refine bdN ?_ _ | refine bs ?_ (by first | exact Nat.le_refl _ | (dsimp only; omega) | (simp; done)) _ | refine bt ?_ (by assumption))))) Hz.out).mono ?_
    rintro _ w5 ⟨rfl, hb5⟩
    rw [Hok.out]
    obtain ⟨hc, hf, hs⟩ := bcell hb5
    go_wp2_with fail
    exact bodyPost_ret (v := .tuple #[.agg #[.slice none 0 0], .bool false]) (by simp [results, Try.results104, go_sem, hc, hs]) rfl (treeB_no rfl (by (repeat (with_reducible first | exact Below.refl _ _ | assumption | refine ba ?_ _ | refine bd ?_ | refine bdN ?_ _ | refine bs ?_ (by first | exact Nat.le_refl _ | (dsimp only; omega) | (simp; done)) _ | refine bt ?_ (by assumption)))))
  · have Hok := Lib.hid hok
    have Hp := Lib.hid (okPls_tree hok)
    have H12 := Lib.hid (okTree_all hok).2.2
    have Hb8 := Lib.hid (body8 (ps := ps) (by rw [← Hfs.out]; exact hok))
    have Hkeep := Lib.hid (keepIn_all fs (dedup (fs.map place)) (fun f hf => mem_dedup.2 (List.mem_map.2 ⟨f, hf, rfl⟩)))
    clear hok
    go_enter Try.func104, Try.ntmps104
    go_wp2_with fail
    refine (impl_ValidTree _ fs _ _ (Hf.out.below (by (repeat (with_reducible first | exact Below.refl _ _ | assumption | refine ba ?_ _ | refine bd ?_ | refine bdN ?_ _ | refine bs ?_ (by first | exact Nat.le_refl _ | (dsimp only; omega) | (simp; done)) _ | refine bt ?_ (by assumption))))) Hz.out).mono ?_
    rintro _ w5 ⟨rfl, hb5⟩
    rw [Hok.out]
    have Hx5 := Lib.hid (show Boxed2 w #[.slice aa ps.length ca] 25 #[.slice none 0 0] 25 w5 by unfold Boxed2; (repeat (with_reducible first | exact Below.refl _ _ | assumption | refine ba ?_ _ | refine bd ?_ | refine bdN ?_ _ | refine bs ?_ (by first | exact Nat.le_refl _ | (dsimp only; omega) | (simp; done)) _ | refine bt ?_ (by assumption))))
    have a0 : w5.cell? ⟨w.heap.size, 0, none⟩ = some (.slice aa ps.length ca) := Hx5.out.one.cell 0
    have s5 := Hx5.out.lt
    clear hb5
    go_wp2_with fail
    go_region_with (first
      | (go_at_call 51; refine (impl_placesOf _ fs (fun _ => True) _ (Hf.out.below (bt Hx5.out.below (by (repeat (with_reducible first | exact Below.refl _ _ | assumption | refine ba ?_ _ | refine bd ?_ | refine bdN ?_ _ | refine bs ?_ (by first | exact Nat.le_refl _ | (dsimp only; omega) | (simp; done)) _ | refine bt ?_ (by assumption)))))) Hp.out (by have := H12.out; omega)).mono ?_; rintro _ w6 ⟨b6, rfl, hle6, hm6, hb6⟩; have Hm6 := Lib.hid hm6; have Hx6 := Lib.hid (Hx5.out.step (show Below w5.heap.size w5 w6 by (repeat (with_reducible first | exact Below.refl _ _ | assumption | refine ba ?_ _ | refine bd ?_ | refine bdN ?_ _ | refine bs ?_ (by first | exact Nat.le_refl _ | (dsimp only; omega) | (simp; done)) _ | refine bt ?_ (by assumption))))); have a6 : w6.cell? ⟨w.heap.size, 0, none⟩ = some (.slice aa ps.length ca) := Hx6.out.one.cell 0; have s6 := Hx6.out.lt; clear hm6)
      | (go_at_call 53; refine (impl_copyAt _ ps b6 _ _ _ (H.out.below (bt Hx6.out.below (by (repeat (with_reducible first | exact Below.refl _ _ | assumption | refine ba ?_ _ | refine bd ?_ | refine bdN ?_ _ | refine bs ?_ (by first | exact Nat.le_refl _ | (dsimp only; omega) | (simp; done)) _ | refine bt ?_ (by assumption)))))) (Hm6.out.below (by (repeat (with_reducible first | exact Below.refl _ _ | assumption | refine ba ?_ _ | refine bd ?_ | refine bdN ?_ _ | refine bs ?_ (by first | exact Nat.le_refl _ | (dsimp only; omega) | (simp; done)) _ | refine bt ?_ (by assumption))))) (by rw [← Hfs.out]; exact Hp.out) (by have := H12.out; omega) Hb8.out).mono ?_; rintro _ w7 ⟨v7, qs, rfl, hqs, hown7, hb7⟩; rw [← Hfs.out, Hkeep.out] at hqs; have Hqs := Lib.hid hqs; obtain ⟨a7, c7, rfl⟩ := hown7.len; have Hown7 := Lib.hid hown7; have Hx7 := Lib.hid (Hx6.out.step (show Below w6.heap.size w6 w7 by (repeat (with_reducible first | exact Below.refl _ _ | assumption | refine ba ?_ _ | refine bd ?_ | refine bdN ?_ _ | refine bs ?_ (by first | exact Nat.le_refl _ | (dsimp only; omega) | (simp; done)) _ | refine bt ?_ (by assumption))))); clear hown7 hqs; generalize qs.length = qn at *; have q0 : w7.cell? ⟨w.heap.size + 1, 0, none⟩ = some (.slice none 0 0) := Hx7.out.cell 0; have f0 : w7.frozen? ⟨w.heap.size + 1, 0, none⟩ = false := (by have := box_free Hx7.out.two 0; simpa using this); have s7 := Hx7.out.lt))
    all_goals
      go_wp2_with fail
      refine bodyPost_ret (v := .tuple #[.agg #[.slice a7 qn c7], .bool true]) (by simp [results, Try.results104, go_sem, *]) rfl ?_
      have hbw := Hx7.out.below
      have hz6 := Hx6.out.lt
      refine ⟨_, qs, rfl, Hqs.out, ?_, by (repeat (with_reducible first | exact Below.refl _ _ | assumption | refine ba ?_ _ | refine bd ?_ | refine bdN ?_ _ | refine bs ?_ (by first | exact Nat.le_refl _ | (dsimp only; omega) | (simp; done)) _ | refine bt ?_ (by assumption)))⟩
      exact ((Hown7.out.mono (B' := w.heap.size + 2) (by first | omega | (simp; omega))).set_low (by dsimp only; omega) _).mono (by omega)

theorem copyIfValid_as (v : Value) (ps : List (Fil × Value)) (gs : List Fil) (r : List Fil × Bool) (w : World) (h : RowsF w v ps) (hz : ShortT 8000000 gs) (hg : ps.map (·.1) = gs) (hr : (if okTree gs then (gs, true) else ([], false)) = r) :
    Calls Try.prog 104 #[.agg #[v]] w (NewTreeB r w) := by subst hg hr; exact impl_copyIfValid v ps w h hz
theorem rows_snoc {w : World} {v : Value} {ps : List (Fil × Value)} {q : Fil × Value} (h : w.ownsRow 0 36 6 v (ps.length + 1) (ps.flatMap filCells ++ filCells q)) (hb : ∀ p ∈ ps, w.ownsRow 0 138 5 p.2 p.1.body.length (p.1.body.flatMap stmCells)) (hq : w.ownsRow 0 138 5 q.2 q.1.body.length (q.1.body.flatMap stmCells)) : RowsF w v (ps ++ [q]) := by
  refine ⟨by simpa using h, fun p hp => ?_⟩
  rcases List.mem_append.1 hp with hp | hp
  · exact hb p hp
  · simp at hp; subst hp; exact hq
theorem addFil_no {t : List Fil} {f : Fil} (h : okTree t = false) : addFil t f = ([], false) := by unfold addFil; rw [h]; rfl
theorem addFil_yes {t : List Fil} {f : Fil} (h : okTree t = true) : (if okTree (t ++ [f]) then (t ++ [f], true) else ([], false)) = addFil t f := by unfold addFil; rw [h]; simp
set_option maxRecDepth 100000 in
set_option maxHeartbeats 4000000 in
theorem impl_AddFile (v : Value) (ps : List (Fil × Value)) (r st : Int) (p n : Bs) (i : Bool) (bv : Value) (body : List Stm) (w : World) (h : RowsF w v ps) (hz : ShortT 2000000 (ps.map (·.1))) (hb : w.ownsRow 0 138 5 bv body.length (body.flatMap stmCells)) (hbz : ShortF 2000000 ⟨r, p, n, i, st, body⟩) :
    Calls Try.prog 67 #[.agg #[v], .agg #[.int .i64 r, .string (mk p), .string (mk n), .bool i, .int .i64 st, bv]] w (NewTreeB (addFil (ps.map (·.1)) ⟨r, p, n, i, st, body⟩) w) := by
  obtain ⟨i0, hi, hz0, hz1, hz2⟩ := info_parts infoFil
  have Hi := Lib.hid hi
  have Hz0 := Lib.hid hz0
  have Hz1 := Lib.hid hz1
  have Hz2 := Lib.hid hz2
  have H := Lib.hid h
  have Hb := Lib.hid hb
  have Hz := Lib.hid (show ShortT 8000000 (ps.map (·.1)) from fun f hf => shortF_mono (by omega) (hz f hf))
  have Hzz := Lib.hid (show ShortT 8000000 (ps.map (·.1) ++ [⟨r, p, n, i, st, body⟩]) from fun f hf => by
    rcases List.mem_append.1 hf with h | h
    · exact shortF_mono (by omega) (hz f h)
    · simp at h; subst h; exact shortF_mono (by omega) hbz)
  have Hf := Lib.hid h.fils
  obtain ⟨aa, ca, rfl⟩ := h.len
  obtain ⟨ab, cb, rfl⟩ := owns_shape hb
  clear h hb hz hbz hi hz0 hz1 hz2
  cases hok : okTree (ps.map (·.1))
  · have Hok := Lib.hid hok
    have Hno := Lib.hid (addFil_no (f := ⟨r, p, n, i, st, body⟩) hok)
    clear hok
    go_enter Try.func67, Try.ntmps67
    go_wp2_with fail
    refine (impl_ValidTree _ _ _ _ (Hf.out.below (by (repeat (with_reducible first | exact Below.refl _ _ | assumption | refine ba ?_ _ | refine bd ?_ | refine bdN ?_ _ | refine bs ?_ (by first | exact Nat.le_refl _ | (dsimp only; omega) | (simp; done)) _ | refine bt ?_ (by assumption))))) Hz.out).mono ?_
    rintro _ w5 ⟨rfl, hb5⟩
    rw [Hok.out]
    obtain ⟨hc, hf, hs⟩ := bcell hb5
    go_wp2_with fail
    exact bodyPost_ret (v := .tuple #[.agg #[.slice none 0 0], .bool false]) (by simp [results, Try.results67, go_sem, hc, hs]) rfl (treeB_no Hno.out (by (repeat (with_reducible first | exact Below.refl _ _ | assumption | refine ba ?_ _ | refine bd ?_ | refine bdN ?_ _ | refine bs ?_ (by first | exact Nat.le_refl _ | (dsimp only; omega) | (simp; done)) _ | refine bt ?_ (by assumption)))))
  · have Hok := Lib.hid hok
    have Hyes := Lib.hid (addFil_yes (f := ⟨r, p, n, i, st, body⟩) hok)
    have h12 : ps.length ≤ 12 := by have := (okTree_all hok).2.2; rwa [List.length_map] at this
    clear hok
    obtain ⟨Wb, hWb⟩ : ∃ Wb, Wb = ((w.alloc (.cells #[.slice aa ps.length ca] 25)).alloc (.cells #[.int .i64 r, .string (mk p), .string (mk n), .bool i, .int .i64 st, .slice ab body.length cb] 36)).alloc (.cells #[.slice none 0 0] 25) := ⟨_, rfl⟩
    have HBw := Lib.hid (show Below w.heap.size w Wb by rw [hWb]; (repeat (with_reducible first | exact Below.refl _ _ | assumption | refine ba ?_ _ | refine bd ?_ | refine bdN ?_ _ | refine bs ?_ (by first | exact Nat.le_refl _ | (dsimp only; omega) | (simp; done)) _ | refine bt ?_ (by assumption))))
    have hWs : Wb.heap.size = w.heap.size + 3 := by rw [hWb]; simp
    have HWs := Lib.hid hWs
    have HX0 := Lib.hid (show BoxC Wb w.heap.size #[.slice aa ps.length ca] by rw [hWb]; exact (BoxC.start w _ _).below (by (repeat (with_reducible first | exact Below.refl _ _ | assumption | refine ba ?_ _ | refine bd ?_ | refine bdN ?_ _ | refine bs ?_ (by first | exact Nat.le_refl _ | (dsimp only; omega) | (simp; done)) _ | refine bt ?_ (by assumption)))))
    have HX1 := Lib.hid (show BoxC Wb (w.heap.size + 1) #[.int .i64 r, .string (mk p), .string (mk n), .bool i, .int .i64 st, .slice ab body.length cb] by rw [hWb]; exact ((BoxC.start (w.alloc (.cells #[.slice aa ps.length ca] 25)) _ _).below (by (repeat (with_reducible first | exact Below.refl _ _ | assumption | refine ba ?_ _ | refine bd ?_ | refine bdN ?_ _ | refine bs ?_ (by first | exact Nat.le_refl _ | (dsimp only; omega) | (simp; done)) _ | refine bt ?_ (by assumption))))).at (by simp))
    have HX2 := Lib.hid (show BoxC Wb (w.heap.size + 1 + 1) #[.slice none 0 0] by rw [hWb]; exact (BoxC.start ((w.alloc (.cells #[.slice aa ps.length ca] 25)).alloc (.cells #[.int .i64 r, .string (mk p), .string (mk n), .bool i, .int .i64 st, .slice ab body.length cb] 36)) _ _).at (by simp))
    have HF2 := Lib.hid (show Wb.frozen? ⟨w.heap.size + 1 + 1, 0, none⟩ = false by rw [hWb]; simp [go_sem])
    have HWe := Lib.hid hWb
    clear hWb hWs
    have Hk := Lib.hid (fun (w' : World) (hC : Below Wb.heap.size Wb w') => (⟨(HX0.out.below hC).2 0, (HX1.out.below hC).2 0, (HX1.out.below hC).2 1, (HX1.out.below hC).2 2, (HX1.out.below hC).2 3, (HX1.out.below hC).2 4, (HX1.out.below hC).2 5⟩ : w'.cell? ⟨w.heap.size, 0, none⟩ = some (.slice aa ps.length ca) ∧ w'.cell? ⟨w.heap.size + 1, 0, none⟩ = some (.int .i64 r) ∧ w'.cell? ⟨w.heap.size + 1, 1, none⟩ = some (.string (mk p)) ∧ w'.cell? ⟨w.heap.size + 1, 2, none⟩ = some (.string (mk n)) ∧ w'.cell? ⟨w.heap.size + 1, 3, none⟩ = some (.bool i) ∧ w'.cell? ⟨w.heap.size + 1, 4, none⟩ = some (.int .i64 st) ∧ w'.cell? ⟨w.heap.size + 1, 5, none⟩ = some (.slice ab body.length cb)))
    go_enter Try.func67, Try.ntmps67
    go_wp2_with fail
    rw [← HWe.out]
    refine (impl_ValidTree _ _ _ _ (Hf.out.below (by have := HBw.out; (repeat (with_reducible first | exact Below.refl _ _ | assumption | refine ba ?_ _ | refine bd ?_ | refine bdN ?_ _ | refine bs ?_ (by first | exact Nat.le_refl _ | (dsimp only; omega) | (simp; done)) _ | refine bt ?_ (by assumption))))) Hz.out).mono ?_
    rintro _ w5 ⟨rfl, hb5⟩
    rw [Hok.out]
    have Hb5 := Lib.hid hb5
    obtain ⟨a0, d0, d1, d2, d3, d4, d5⟩ := Hk.out w5 hb5
    have H5 := Lib.hid (H.out.below (bt HBw.out hb5))
    have Hq5 := Lib.hid (owns_below Hb.out (bt HBw.out hb5))
    clear a0 d0 d1 d2 d3 d4 d5 hb5
    go_wp2_with fail
    go_region_held3 (fun w' => w'.cell? ⟨w.heap.size, 0, none⟩ = some (.slice aa ps.length ca) ∧ w'.cell? ⟨w.heap.size + 1, 0, none⟩ = some (.int .i64 r) ∧ w'.cell? ⟨w.heap.size + 1, 1, none⟩ = some (.string (mk p)) ∧ w'.cell? ⟨w.heap.size + 1, 2, none⟩ = some (.string (mk n)) ∧ w'.cell? ⟨w.heap.size + 1, 3, none⟩ = some (.bool i) ∧ w'.cell? ⟨w.heap.size + 1, 4, none⟩ = some (.int .i64 st) ∧ w'.cell? ⟨w.heap.size + 1, 5, none⟩ = some (.slice ab body.length cb))
      (first | exact HkZ.out _ | (refine Hk.out _ ?_; have := HbA.out; (repeat (with_reducible first | exact Below.refl _ _ | assumption | refine ba ?_ _ | refine bd ?_ | refine bdN ?_ _ | refine bs ?_ (by first | exact Nat.le_refl _ | (dsimp only; omega) | (simp; done)) _ | refine bt ?_ (by assumption))); done) | (refine Hk.out _ ?_; have := Hb5.out; (repeat (with_reducible first | exact Below.refl _ _ | assumption | refine ba ?_ _ | refine bd ?_ | refine bdN ?_ _ | refine bs ?_ (by first | exact Nat.le_refl _ | (dsimp only; omega) | (simp; done)) _ | refine bt ?_ (by assumption))); done))
      (first
        | (go_at_call 105; refine (slices_Clone _ ps _ (H5.out.below (by (repeat (with_reducible first | exact Below.refl _ _ | assumption | refine ba ?_ _ | refine bd ?_ | refine bdN ?_ _ | refine bs ?_ (by first | exact Nat.le_refl _ | (dsimp only; omega) | (simp; done)) _ | refine bt ?_ (by assumption))))) (by omega)).mono ?_; rintro _ w6 ⟨v6, rfl, hown6, hb6⟩; have Hown6 := Lib.hid (owns_mono hown6 (show Below w5.heap.size w5 _ by (repeat (with_reducible first | exact Below.refl _ _ | assumption | refine ba ?_ _ | refine bd ?_ | refine bdN ?_ _ | refine bs ?_ (by first | exact Nat.le_refl _ | (dsimp only; omega) | (simp; done)) _ | refine bt ?_ (by assumption)))).size); have Hb6 := Lib.hid (show Below w5.heap.size w5 w6 by (repeat (with_reducible first | exact Below.refl _ _ | assumption | refine ba ?_ _ | refine bd ?_ | refine bdN ?_ _ | refine bs ?_ (by first | exact Nat.le_refl _ | (dsimp only; omega) | (simp; done)) _ | refine bt ?_ (by assumption)))); have hle6 : w5.heap.size ≤ w6.heap.size := Hb6.out.size; clear hown6)
        | (refine step_append_both rfl (.tmp 12) (.tmp 14) 23 rfl w5.heap.size 36 i0 _ 6 80 Try.underlying23 Hi.out Hz0.out Hz1.out Hz2.out rfl (by decide) v6 ps.length (ps.flatMap filCells) rfl (Hown6.out.alloc _) w5.heap.size (.slice (some ⟨w6.heap.size, 0, none⟩) 1 1) 1 (filCells ((⟨r, p, n, i, st, body⟩ : Fil), Value.slice ab body.length cb)) rfl (World.ownsRow_lit (size := 6) w6 (filCells ((⟨r, p, n, i, st, body⟩ : Fil), Value.slice ab body.length cb)).toArray 1 hle6 (by unfold maxLen; omega) rfl) (fun x hx => by simp [filCells] at hx; rcases hx with rfl | rfl | rfl | rfl | rfl | rfl <;> rfl) (by unfold maxLen; omega) (by omega) (by simp; omega) ?_; intro vA wA hownA hgA; have HA5 := Lib.hid (show Below w5.heap.size w5 wA from (ba Hb6.out _).grown hgA (ba Hb6.out _).size (fun k hk => (Hown6.out.lt k hk).1)); have HbA := Lib.hid (show Below Wb.heap.size Wb wA from bt Hb5.out HA5.out); obtain ⟨aA, cA, hvA⟩ := owns_shape hownA; subst hvA; have HRA := Lib.hid (rows_snoc (q := ((⟨r, p, n, i, st, body⟩ : Fil), Value.slice ab body.length cb)) (owns_mono hownA (Nat.zero_le _)) (fun p hp => owns_below (H5.out.2 p hp) HA5.out) (owns_below Hq5.out HA5.out)); clear hownA hgA)
        | (refine step_append_both rfl (.tmp 12) (.tmp 14) 23 rfl w5.heap.size 36 i0 _ 6 80 Try.underlying23 Hi.out Hz0.out Hz1.out Hz2.out rfl (by decide) v6 ps.length (ps.flatMap filCells) rfl Hown6.out w5.heap.size (.slice (some ⟨w5.heap.size, 0, none⟩) 1 1) 1 (filCells ((⟨r, p, n, i, st, body⟩ : Fil), Value.slice ab body.length cb)) rfl (owns_below (World.ownsRow_lit (size := 6) w5 #[.int .i64 r, .string (mk p), .string (mk n), .bool i, .int .i64 st, .slice ab body.length cb] 1 (Nat.le_refl _) (by unfold maxLen; omega) rfl) (show Below _ _ w6 by (repeat (with_reducible first | exact Below.refl _ _ | assumption | refine ba ?_ _ | refine bd ?_ | refine bdN ?_ _ | refine bs ?_ (by first | exact Nat.le_refl _ | (dsimp only; omega) | (simp; done)) _ | refine bt ?_ (by assumption))))) (fun x hx => by simp [filCells] at hx; rcases hx with rfl | rfl | rfl | rfl | rfl | rfl <;> rfl) (by unfold maxLen; omega) (by omega) hle6 ?_; intro vA wA hownA hgA; have HA5 := Lib.hid (show Below w5.heap.size w5 wA from Hb6.out.grown hgA Hb6.out.size (fun k hk => (Hown6.out.lt k hk).1)); have HbA := Lib.hid (show Below Wb.heap.size Wb wA from bt Hb5.out HA5.out); obtain ⟨aA, cA, hvA⟩ := owns_shape hownA; subst hvA; have HRA := Lib.hid (rows_snoc (q := ((⟨r, p, n, i, st, body⟩ : Fil), Value.slice ab body.length cb)) (owns_mono hownA (Nat.zero_le _)) (fun p hp => owns_below (H5.out.2 p hp) HA5.out) (owns_below Hq5.out HA5.out)); clear hownA hgA)
        | (go_at_call 104; refine (copyIfValid_as _ (ps ++ [((⟨r, p, n, i, st, body⟩ : Fil), Value.slice ab body.length cb)]) (ps.map (·.1) ++ [⟨r, p, n, i, st, body⟩]) (addFil (ps.map (·.1)) ⟨r, p, n, i, st, body⟩) _ (HRA.out.below (by (repeat (with_reducible first | exact Below.refl _ _ | assumption | refine ba ?_ _ | refine bd ?_ | refine bdN ?_ _ | refine bs ?_ (by first | exact Nat.le_refl _ | (dsimp only; omega) | (simp; done)) _ | refine bt ?_ (by assumption))))) Hzz.out (by simp) Hyes.out).mono ?_; rintro _ w7 ⟨v7, qs, rfl, hqs, hown7, hb7⟩; have Hqs := Lib.hid hqs; obtain ⟨a7, c7, rfl⟩ := hown7.len; have Hown7 := Lib.hid (hown7.mono (show Below wA.heap.size wA _ by (repeat (with_reducible first | exact Below.refl _ _ | assumption | refine ba ?_ _ | refine bd ?_ | refine bdN ?_ _ | refine bs ?_ (by first | exact Nat.le_refl _ | (dsimp only; omega) | (simp; done)) _ | refine bt ?_ (by assumption)))).size); have Hx7 := Lib.hid (show Below Wb.heap.size Wb w7 from bt HbA.out (show Below wA.heap.size wA w7 by (repeat (with_reducible first | exact Below.refl _ _ | assumption | refine ba ?_ _ | refine bd ?_ | refine bdN ?_ _ | refine bs ?_ (by first | exact Nat.le_refl _ | (dsimp only; omega) | (simp; done)) _ | refine bt ?_ (by assumption))))); clear hown7 hqs; generalize qs.length = qn at *; have q0 : w7.cell? ⟨w.heap.size + 1 + 1, 0, none⟩ = some (.slice none 0 0) := (HX2.out.below Hx7.out).2 0; have f0 : w7.frozen? ⟨w.heap.size + 1 + 1, 0, none⟩ = false := (Hx7.out.frozen (p := ⟨w.heap.size + 1 + 1, 0, none⟩) (by have := HWs.out; dsimp only; omega)).trans HF2.out; have s7 := (HX2.out.below Hx7.out).1; have HkZ := Lib.hid (fun (u : Value) => (have h0 := (HX0.out.below Hx7.out).keep (w' := w7.setCell ⟨w.heap.size + 1 + 1, 0, none⟩ u) (by simp) (Below.heap_setCell _ _ _ _ (by dsimp only; omega)); have h1 := (HX1.out.below Hx7.out).keep (w' := w7.setCell ⟨w.heap.size + 1 + 1, 0, none⟩ u) (by simp) (Below.heap_setCell _ _ _ _ (by dsimp only; omega)); ⟨h0.2 0, h1.2 0, h1.2 1, h1.2 2, h1.2 3, h1.2 4, h1.2 5⟩ : (w7.setCell ⟨w.heap.size + 1 + 1, 0, none⟩ u).cell? ⟨w.heap.size, 0, none⟩ = some (.slice aa ps.length ca) ∧ (w7.setCell ⟨w.heap.size + 1 + 1, 0, none⟩ u).cell? ⟨w.heap.size + 1, 0, none⟩ = some (.int .i64 r) ∧ (w7.setCell ⟨w.heap.size + 1 + 1, 0, none⟩ u).cell? ⟨w.heap.size + 1, 1, none⟩ = some (.string (mk p)) ∧ (w7.setCell ⟨w.heap.size + 1 + 1, 0, none⟩ u).cell? ⟨w.heap.size + 1, 2, none⟩ = some (.string (mk n)) ∧ (w7.setCell ⟨w.heap.size + 1 + 1, 0, none⟩ u).cell? ⟨w.heap.size + 1, 3, none⟩ = some (.bool i) ∧ (w7.setCell ⟨w.heap.size + 1 + 1, 0, none⟩ u).cell? ⟨w.heap.size + 1, 4, none⟩ = some (.int .i64 st) ∧ (w7.setCell ⟨w.heap.size + 1 + 1, 0, none⟩ u).cell? ⟨w.heap.size + 1, 5, none⟩ = some (.slice ab body.length cb)))))
    all_goals
      go_wp2_with fail
      refine bodyPost_ret (v := .tuple #[.agg #[.slice a7 qn c7], .bool (addFil (ps.map (·.1)) ⟨r, p, n, i, st, body⟩).2]) (by simp [results, Try.results67, go_sem, *]) rfl ?_
      have hbw := HBw.out.trans (Hx7.out.mono HBw.out.size)
      refine ⟨_, qs, rfl, Hqs.out, ?_, by (repeat (with_reducible first | exact Below.refl _ _ | assumption | refine ba ?_ _ | refine bd ?_ | refine bdN ?_ _ | refine bs ?_ (by first | exact Nat.le_refl _ | (dsimp only; omega) | (simp; done)) _ | refine bt ?_ (by assumption)))⟩
      have hzA := HbA.out.size
      have hWs := HWs.out
      exact ((Hown7.out.mono (B' := w.heap.size + 3) (by omega)).set_low (by dsimp only; omega) _).mono (by omega)

/-! ### Contracts of the program's functions that give a tree without a file, or with one that is edited. -/
theorem put45 (L : List (Fil × Value)) (i : Nat) (hi : i < L.length) (st : Int) (b : List Stm) (bv : Value) :
    ((L.flatMap filCells).set (i * 6 + 4) (.int .i64 st)).set (i * 6 + 5) bv = (L.set i (turned L[i].1 st b, bv)).flatMap filCells := by
  have hA := fm_take_len filCells 6 L i hi filCells_len
  have ha : filCells L[i] = [.int .i64 L[i].1.root, .string (mk L[i].1.pack), .string (mk L[i].1.name), .bool L[i].1.init, .int .i64 L[i].1.stamp, L[i].2] := rfl
  rw [fm_split filCells L i hi, ha, fm_put filCells L i _ hi]
  rw [set_mid _ _ _ (i * 6) 4 _ hA (by simp), set_mid _ _ _ (i * 6) 5 _ hA (by simp)]
  rfl
theorem map_turned (ps : List (Fil × Value)) (i : Nat) (hi : i < ps.length) (st : Int) (b : List Stm) (bv : Value) :
    (ps.set i (turned ps[i].1 st b, bv)).map (·.1) = (ps.map (·.1)).modify i (fun f => turned f st b) := by
  rw [List.map_set]
  apply List.ext_getElem?
  intro j
  by_cases e : i = j
  · subst e; simp [hi, List.getElem?_modify]
  · simp [e, List.getElem?_modify, List.getElem?_set_ne e]
theorem remFil_no {t : List Fil} {i : Int} (h : (okTree t && inr i 0 ((t.length : Int) - 1)) = false) : remFil t i = ([], false) := by unfold remFil; rw [h]; rfl
theorem edFil_no {t : List Fil} {i st : Int} {b : List Stm} (h : (okTree t && inr i 0 ((t.length : Int) - 1)) = false) : edFil t i st b = ([], false) := by unfold edFil; rw [h]; rfl
theorem edFil_yes {t : List Fil} {k : Nat} {st : Int} {b : List Stm} (h : okTree t = true) (hk : k < t.length) : (if okTree (t.modify k (fun f => turned f st b)) then (t.modify k (fun f => turned f st b), true) else ([], false)) = edFil t k st b := by
  unfold edFil
  rw [okTree_modify h hk, h]
  have hi : inr (k : Int) 0 ((t.length : Int) - 1) = true := by unfold inr; simp; omega
  rw [hi]
  simp
theorem inr_nat {i : Int} {n : Nat} (h : inr i 0 ((n : Int) - 1) = true) : ∃ k : Nat, k < n ∧ i = (k : Int) := by
  unfold inr at h
  simp only [Bool.and_eq_true, decide_eq_true_eq] at h
  exact ⟨i.toNat, by omega, by omega⟩

theorem body8R {ps : List (Fil × Value)} (h : okTree (ps.map (·.1)) = true) : ∀ p ∈ ps, p.1.body.length ≤ 1048576 := fun p hp => by
  have h1 := okFil_body (okTree_file h (List.mem_map.2 ⟨p, hp, rfl⟩))
  unfold okBody at h1
  simp only [Bool.and_eq_true, decide_eq_true_eq] at h1
  omega
theorem remFil_yes {t : List Fil} {k : Nat} (h : okTree t = true) (hk : k < t.length) : (keepIn t ((dedup (t.map place)).erase (place t[k])), true) = remFil t k := by
  have hn := (okTree_all h).2.1
  have hi : inr (k : Int) 0 ((t.length : Int) - 1) = true := by unfold inr; simp; omega
  unfold remFil
  rw [h, hi, dedup_nodup hn, keepIn_erase hn hk]
  rfl
set_option maxRecDepth 100000 in
set_option maxHeartbeats 4000000 in
theorem impl_RemoveFile (v : Value) (ps : List (Fil × Value)) (i : Int) (w : World) (h : RowsF w v ps) (hz : ShortT 2000000 (ps.map (·.1))) (hn : ps.length ≤ 9000000) :
    Calls Try.prog 14 #[.agg #[v], .int .i64 i] w (NewTreeB (remFil (ps.map (·.1)) i) w) := by
  have H := Lib.hid h
  have Hz := Lib.hid (show ShortT 8000000 (ps.map (·.1)) from fun f hf => shortF_mono (by omega) (hz f hf))
  have Hf := Lib.hid h.fils
  have hlen : (ps.map (·.1)).length = ps.length := List.length_map ..
  obtain ⟨aa, ca, rfl⟩ := h.len
  obtain ⟨fs, hfs⟩ : ∃ fs, fs = ps.map (·.1) := ⟨_, rfl⟩
  rw [← hfs] at Hz Hf hlen ⊢
  have Hfs := Lib.hid hfs
  clear h hz hfs
  cases hok : (okTree fs && inr i 0 ((fs.length : Int) - 1))
  · have Hok := Lib.hid hok
    have Hno := Lib.hid (remFil_no hok)
    clear hok
    go_enter Try.func14, Try.ntmps14
    go_wp2_with fail
    refine (impl_hasFile _ fs _ i _ (Hf.out.below (by (repeat (with_reducible first | exact Below.refl _ _ | assumption | refine ba ?_ _ | refine bd ?_ | refine bdN ?_ _ | refine bs ?_ (by first | exact Nat.le_refl _ | (dsimp only; omega) | (simp; done)) _ | refine bt ?_ (by assumption))))) Hz.out (by omega)).mono ?_
    rintro _ w5 ⟨rfl, hb5⟩
    rw [Hok.out]
    obtain ⟨hc, hf, hs⟩ := bcell hb5
    go_wp2_with fail
    exact bodyPost_ret (v := .tuple #[.agg #[.slice none 0 0], .bool false]) (by simp [results, Try.results14, go_sem, hc, hs]) rfl (treeB_no Hno.out (by (repeat (with_reducible first | exact Below.refl _ _ | assumption | refine ba ?_ _ | refine bd ?_ | refine bdN ?_ _ | refine bs ?_ (by first | exact Nat.le_refl _ | (dsimp only; omega) | (simp; done)) _ | refine bt ?_ (by assumption)))))
  · have Hok := Lib.hid hok
    simp only [Bool.and_eq_true] at hok
    obtain ⟨ht, hin⟩ := hok
    obtain ⟨k, hk, rfl⟩ := inr_nat hin
    have hkp : k < ps.length := by omega
    have Hyes := Lib.hid (remFil_yes ht hk)
    have Hp := Lib.hid (okPls_of (okTree_all ht).1)
    have Hpk := Lib.hid (show okPl (place fs[k]) from okPls_of (okTree_all ht).1 _ (List.getElem_mem hk))
    have H12 := Lib.hid (okTree_all ht).2.2
    have Hb8 := Lib.hid (body8R (ps := ps) (by rw [← Hfs.out]; exact ht))
    have hg : ps[k].1 = fs[k] := by
      have e : fs[k] = (ps.map (·.1))[k]'(by simpa using hkp) := by congr 1 <;> exact Hfs.out
      rw [e]; simp
    have Hg := Lib.hid hg
    obtain ⟨f, hfk⟩ : ∃ f, f = fs[k] := ⟨_, rfl⟩
    rw [← hfk] at Hyes Hpk Hg
    have hk1 : (k : Int) < (fs.length : Int) := by omega
    have hk1' : (k : Int) < (ps.length : Int) := by omega
    have hk0 : (0 : Int) ≤ (k : Int) := by omega
    clear ht hin hg hfk
    go_enter Try.func14, Try.ntmps14
    go_wp2_with fail
    refine (impl_hasFile _ fs _ k _ (Hf.out.below (by (repeat (with_reducible first | exact Below.refl _ _ | assumption | refine ba ?_ _ | refine bd ?_ | refine bdN ?_ _ | refine bs ?_ (by first | exact Nat.le_refl _ | (dsimp only; omega) | (simp; done)) _ | refine bt ?_ (by assumption))))) Hz.out (by omega)).mono ?_
    rintro _ w5 ⟨rfl, hb5⟩
    rw [Hok.out]
    have Hx5 := Lib.hid (show Boxed2 w #[.slice aa ps.length ca] 25 #[.slice none 0 0] 25 w5 by unfold Boxed2; (repeat (with_reducible first | exact Below.refl _ _ | assumption | refine ba ?_ _ | refine bd ?_ | refine bdN ?_ _ | refine bs ?_ (by first | exact Nat.le_refl _ | (dsimp only; omega) | (simp; done)) _ | refine bt ?_ (by assumption))))
    have a5 : w5.cell? ⟨w.heap.size, 0, none⟩ = some (.slice aa ps.length ca) := Hx5.out.one.cell 0
    clear hb5
    go_wp2_with fail
    refine (impl_placesOf _ fs (fun _ => True) _ (Hf.out.below (bt Hx5.out.below (by (repeat (with_reducible first | exact Below.refl _ _ | assumption | refine ba ?_ _ | refine bd ?_ | refine bdN ?_ _ | refine bs ?_ (by first | exact Nat.le_refl _ | (dsimp only; omega) | (simp; done)) _ | refine bt ?_ (by assumption)))))) Hp.out (by have := H12.out; omega)).mono ?_
    rintro _ w6 ⟨b6, rfl, hle6, hm6, hb6⟩
    have Hm6 := Lib.hid hm6
    have Hx6 := Lib.hid (Hx5.out.step (show Below w5.heap.size w5 w6 by (repeat (with_reducible first | exact Below.refl _ _ | assumption | refine ba ?_ _ | refine bd ?_ | refine bdN ?_ _ | refine bs ?_ (by first | exact Nat.le_refl _ | (dsimp only; omega) | (simp; done)) _ | refine bt ?_ (by assumption)))))
    clear a5 hm6 hb6
    have a6 : w6.cell? ⟨w.heap.size, 0, none⟩ = some (.slice aa ps.length ca) := Hx6.out.one.cell 0
    have hrow := (H.out.below Hx6.out.below).1
    obtain ⟨g, cap, e1, hg1, hg2⟩ := hrow.form (by omega)
    simp only [Value.slice.injEq] at e1
    obtain ⟨rfl, _, rfl⟩ := e1
    obtain ⟨⟨c0, c1, c2, c3, c4, c5⟩, _⟩ := own6 hrow k hkp
    obtain ⟨ab, cb, hbv⟩ := owns_shape (H.out.2 _ (List.getElem_mem hkp))
    rw [hbv] at c5
    rw [Hg.out] at c0 c1 c2 c3 c4 c5
    obtain ⟨bl, hbl⟩ : ∃ bl, bl = f.body.length := ⟨_, rfl⟩
    rw [← hbl] at c5
    clear hrow hg1 hg2 hbv hbl
    have Hxx := Lib.hid Hg.out
    obtain ⟨fr, fp, fn, fi, fst, fb⟩ := f
    dsimp only at c0 c1 c2 c3 c4 c5
    go_wp2_with fail
    refine (impl_placeOf _ _ _ _ _ _ _).mono ?_
    rintro _ w7 ⟨rfl, hb7⟩
    have Hx7 := Lib.hid (Hx6.out.step (show Below w6.heap.size w6 w7 by (repeat (with_reducible first | exact Below.refl _ _ | assumption | refine ba ?_ _ | refine bd ?_ | refine bdN ?_ _ | refine bs ?_ (by first | exact Nat.le_refl _ | (dsimp only; omega) | (simp; done)) _ | refine bt ?_ (by assumption)))))
    have Hb7 := Lib.hid (show Below w6.heap.size w6 w7 by (repeat (with_reducible first | exact Below.refl _ _ | assumption | refine ba ?_ _ | refine bd ?_ | refine bdN ?_ _ | refine bs ?_ (by first | exact Nat.le_refl _ | (dsimp only; omega) | (simp; done)) _ | refine bt ?_ (by assumption))))
    obtain ⟨w8, hrun, hpl8, hg8⟩ := (Hm6.out.below Hb7.out).del (fr, fp, fn, fi) Hpk.out 0
    have Hpl8 := Lib.hid hpl8
    have Hx8 := Lib.hid (show Boxed2 w #[.slice (some ⟨g, 0, none⟩) ps.length ca] 25 #[.slice none 0 0] 25 w8 from Hx7.out.grown hg8 Hx7.out.size (fun k e => by cases e; simpa using (show w.heap.size + 2 ≤ b6 by have := Hx5.out.lt; omega)))
    clear hpl8 hg8 a6 c0 c1 c2 c3 c4 c5 hb7
    have a8 : w8.cell? ⟨w.heap.size, 0, none⟩ = some (.slice (some ⟨g, 0, none⟩) ps.length ca) := Boxed.cell (Boxed2.one (show Boxed2 w #[.slice (some ⟨g, 0, none⟩) ps.length ca] 25 #[.slice none 0 0] 25 w8 from Hx8.out)) 0
    go_wp2_with fail
    refine (impl_copyAt _ ps b6 _ _ _ (H.out.below (bt Hx8.out.below (by (repeat (with_reducible first | exact Below.refl _ _ | assumption | refine ba ?_ _ | refine bd ?_ | refine bdN ?_ _ | refine bs ?_ (by first | exact Nat.le_refl _ | (dsimp only; omega) | (simp; done)) _ | refine bt ?_ (by assumption)))))) (Hpl8.out.below (by (repeat (with_reducible first | exact Below.refl _ _ | assumption | refine ba ?_ _ | refine bd ?_ | refine bdN ?_ _ | refine bs ?_ (by first | exact Nat.le_refl _ | (dsimp only; omega) | (simp; done)) _ | refine bt ?_ (by assumption))))) (by rw [← Hfs.out]; exact Hp.out) (by have := H12.out; omega) Hb8.out).mono ?_
    rintro _ w9 ⟨v9, qs, rfl, hqs, hown9, hb9⟩
    rw [← Hfs.out] at hqs
    have Hqs := Lib.hid hqs
    obtain ⟨a9, c9, rfl⟩ := hown9.len
    have Hown9 := Lib.hid (hown9.mono (show Below w8.heap.size w8 _ by (repeat (with_reducible first | exact Below.refl _ _ | assumption | refine ba ?_ _ | refine bd ?_ | refine bdN ?_ _ | refine bs ?_ (by first | exact Nat.le_refl _ | (dsimp only; omega) | (simp; done)) _ | refine bt ?_ (by assumption)))).size)
    have Hx9 := Lib.hid (show Boxed2 w #[.slice (some ⟨g, 0, none⟩) ps.length ca] 25 #[.slice none 0 0] 25 w9 from Hx8.out.step (show Below w8.heap.size w8 w9 by (repeat (with_reducible first | exact Below.refl _ _ | assumption | refine ba ?_ _ | refine bd ?_ | refine bdN ?_ _ | refine bs ?_ (by first | exact Nat.le_refl _ | (dsimp only; omega) | (simp; done)) _ | refine bt ?_ (by assumption)))))
    clear hown9 hqs a8 hb9
    generalize qs.length = qn at *
    have q0 : w9.cell? ⟨w.heap.size + 1, 0, none⟩ = some (.slice none 0 0) := Hx9.out.cell 0
    have f0 : w9.frozen? ⟨w.heap.size + 1, 0, none⟩ = false := (by have := box_free Hx9.out.two 0; simpa using this)
    have s9 := Hx9.out.lt
    have Hz8 := Lib.hid (show w.heap.size + 2 ≤ w8.heap.size by have := Hpl8.out.lt; have := Boxed2.lt Hx8.out; omega)
    go_wp2_with fail
    refine bodyPost_ret (v := .tuple #[.agg #[.slice a9 qn c9], .bool true]) (by simp [results, Try.results14, go_sem, *]) rfl ?_
    have hbw := Hx9.out.below
    rw [← Hyes.out]
    refine ⟨_, qs, rfl, Hqs.out, ?_, by (repeat (with_reducible first | exact Below.refl _ _ | assumption | refine ba ?_ _ | refine bd ?_ | refine bdN ?_ _ | refine bs ?_ (by first | exact Nat.le_refl _ | (dsimp only; omega) | (simp; done)) _ | refine bt ?_ (by assumption)))⟩
    exact ((Hown9.out.mono (B' := w.heap.size + 2) Hz8.out).set_low (by dsimp only; omega) _).mono (by omega)


/-! ### Contracts of the model's functions that copy trees: with one more file, without one, with one that is edited. -/
theorem made_at (W : World) (g base size : Nat) (e : TypeId) (hg : g = W.heap.size) (hb : base ≤ g) : (W.alloc (.cells #[] e)).ownsRow base e size (.slice (some ⟨g, 0, none⟩) 0 0) 0 [] := by
  subst hg
  exact World.ownsRow_made (base := base) (size := size) (e := e) W #[] 0 hb (by unfold maxLen; omega) (by simp)
set_option maxRecDepth 100000 in
set_option maxHeartbeats 2000000 in
theorem spec_copyFile (r st : Int) (p n : Bs) (i : Bool) (bv : Value) (body : List Stm) (w : World) (hb : w.ownsRow 0 138 5 bv body.length (body.flatMap stmCells)) (hl : body.length ≤ 1048576) :
    Calls Try.prog 100 #[.agg #[.int .i64 r, .string (mk p), .string (mk n), .bool i, .int .i64 st, bv]] w (NewFil ⟨r, p, n, i, st, body⟩ w) := by
  obtain ⟨i1, hi1, hy0, hy1, hy2⟩ := info_parts infoStm
  have Hi1 := Lib.hid hi1
  have Hy0 := Lib.hid hy0
  have Hy1 := Lib.hid hy1
  have Hy2 := Lib.hid hy2
  have Hb := Lib.hid hb
  obtain ⟨ab, cb, rfl⟩ := owns_shape hb
  clear hb hi1 hy0 hy1 hy2
  obtain ⟨Wb, hWb⟩ : ∃ Wb, Wb = (w.alloc (.cells #[.int .i64 r, .string (mk p), .string (mk n), .bool i, .int .i64 st, .slice ab body.length cb] 36)).alloc (.cells #[.int .i64 0, .string ⟨#[]⟩, .string ⟨#[]⟩, .bool false, .int .i64 0, .slice none 0 0] 36) := ⟨_, rfl⟩
  have HBw := Lib.hid (show Below w.heap.size w Wb by rw [hWb]; (repeat (with_reducible first | exact Below.refl _ _ | assumption | refine ba ?_ _ | refine bd ?_ | refine bdN ?_ _ | refine bs ?_ (by first | exact Nat.le_refl _ | (dsimp only; omega) | (simp; done)) _ | refine bt ?_ (by assumption))))
  have hWs : Wb.heap.size = w.heap.size + 2 := by rw [hWb]; simp
  have HWs := Lib.hid hWs
  have HX0 := Lib.hid (show BoxC Wb w.heap.size #[.int .i64 r, .string (mk p), .string (mk n), .bool i, .int .i64 st, .slice ab body.length cb] by rw [hWb]; exact (BoxC.start w _ _).below (by (repeat (with_reducible first | exact Below.refl _ _ | assumption | refine ba ?_ _ | refine bd ?_ | refine bdN ?_ _ | refine bs ?_ (by first | exact Nat.le_refl _ | (dsimp only; omega) | (simp; done)) _ | refine bt ?_ (by assumption)))))
  have HX1 := Lib.hid (show BoxC Wb (w.heap.size + 1) #[.int .i64 0, .string ⟨#[]⟩, .string ⟨#[]⟩, .bool false, .int .i64 0, .slice none 0 0] by rw [hWb]; exact (BoxC.start (w.alloc (.cells #[.int .i64 r, .string (mk p), .string (mk n), .bool i, .int .i64 st, .slice ab body.length cb] 36)) _ _).at (by simp))
  have HF0 := Lib.hid (fun (j : Nat) => (show Wb.frozen? ⟨w.heap.size, j, none⟩ = false by rw [hWb]; simp [go_sem]))
  have HF1 := Lib.hid (fun (j : Nat) => (show Wb.frozen? ⟨w.heap.size + 1, j, none⟩ = false by rw [hWb]; simp [go_sem]))
  have HWe := Lib.hid hWb
  clear hWb hWs
  go_enter Try.func100, Try.ntmps100
  go_wp2_with (at_builtin; refine wpList_append_both rfl _ _ 34 rfl (w.heap.size + 2) 138 i1 _ 5 56 Try.underlying34 Hi1.out Hy0.out Hy1.out Hy2.out rfl (by decide) _ 0 _ rfl (made_at _ (w.heap.size + 1 + 1) (w.heap.size + 2) 5 138 (by simp) (by omega)) 0 _ body.length _ rfl (owns_below Hb.out (by (repeat (with_reducible first | exact Below.refl _ _ | assumption | refine ba ?_ _ | refine bd ?_ | refine bdN ?_ _ | refine bs ?_ (by first | exact Nat.le_refl _ | (dsimp only; omega) | (simp; done)) _ | refine bt ?_ (by assumption))))) (stm_one body) (by unfold maxLen; omega) (by omega) (by simp; try omega) ?_; intro v6 w6 hown6 hgrow6; rw [← HWe.out] at hgrow6; rw [Nat.zero_add, List.nil_append] at hown6; obtain ⟨a6, c6, hv6⟩ := owns_shape hown6; subst hv6; have Hx6 := Lib.hid (show Below Wb.heap.size Wb w6 from (ba (Below.refl _ _) _).grown hgrow6 (by simp) (fun k e => by cases e; have := HWs.out; dsimp only; omega)); have Hown6 := Lib.hid hown6; clear hown6 hgrow6; have d0 : w6.cell? ⟨w.heap.size, 0, none⟩ = some (.int .i64 r) := (HX0.out.below Hx6.out).2 0; have d1 : w6.cell? ⟨w.heap.size, 1, none⟩ = some (.string (mk p)) := (HX0.out.below Hx6.out).2 1; have d2 : w6.cell? ⟨w.heap.size, 2, none⟩ = some (.string (mk n)) := (HX0.out.below Hx6.out).2 2; have d3 : w6.cell? ⟨w.heap.size, 3, none⟩ = some (.bool i) := (HX0.out.below Hx6.out).2 3; have d4 : w6.cell? ⟨w.heap.size, 4, none⟩ = some (.int .i64 st) := (HX0.out.below Hx6.out).2 4; have d5 : w6.cell? ⟨w.heap.size, 5, none⟩ = some (.slice ab body.length cb) := (HX0.out.below Hx6.out).2 5; have z5 : w6.frozen? ⟨w.heap.size, 5, none⟩ = false := (Hx6.out.frozen (p := ⟨w.heap.size, 5, none⟩) (by have := HWs.out; dsimp only; omega)).trans (HF0.out 5); have q0 : w6.cell? ⟨w.heap.size + 1, 0, none⟩ = some (.int .i64 0) := (HX1.out.below Hx6.out).2 0; have q1 : w6.cell? ⟨w.heap.size + 1, 1, none⟩ = some (.string ⟨#[]⟩) := (HX1.out.below Hx6.out).2 1; have q2 : w6.cell? ⟨w.heap.size + 1, 2, none⟩ = some (.string ⟨#[]⟩) := (HX1.out.below Hx6.out).2 2; have q3 : w6.cell? ⟨w.heap.size + 1, 3, none⟩ = some (.bool false) := (HX1.out.below Hx6.out).2 3; have q4 : w6.cell? ⟨w.heap.size + 1, 4, none⟩ = some (.int .i64 0) := (HX1.out.below Hx6.out).2 4; have q5 : w6.cell? ⟨w.heap.size + 1, 5, none⟩ = some (.slice none 0 0) := (HX1.out.below Hx6.out).2 5; have hfz := fun (j : Nat) => (show w6.frozen? ⟨w.heap.size + 1, j, none⟩ = false from (Hx6.out.frozen (p := ⟨w.heap.size + 1, j, none⟩) (by have := HWs.out; dsimp only; omega)).trans (HF1.out j)); have g0 := hfz 0; have g1 := hfz 1; have g2 := hfz 2; have g3 := hfz 3; have g4 := hfz 4; have g5 := hfz 5; clear hfz; have s0 := (HX0.out.below Hx6.out).1; have s1 := (HX1.out.below Hx6.out).1)
  refine bodyPost_ret (v := filV (⟨r, p, n, i, st, body⟩, .slice a6 body.length c6)) (by simp [results, Try.results100, go_sem, filV, *]) rfl ⟨_, rfl, ?_, ?_⟩
  · refine owns_mono (B := w.heap.size + 2) ?_ (by omega)
    (repeat (with_reducible first | refine World.ownsRow.alloc ?_ _ | refine owns_set_low ?_ (by first | (dsimp only; omega) | (simp; done) | (simp; omega)) _))
    exact Hown6.out
  · have hbw := HBw.out.trans (Hx6.out.mono HBw.out.size)
    (repeat (with_reducible first | exact Below.refl _ _ | assumption | refine ba ?_ _ | refine bd ?_ | refine bdN ?_ _ | refine bs ?_ (by first | exact Nat.le_refl _ | (dsimp only; omega) | (simp; done)) _ | refine bt ?_ (by assumption)))

theorem cell_block {w w' : World} {b : Nat} (h : w'.heap[b]? = w.heap[b]?) (o : Nat) : w'.cell? ⟨b, o, none⟩ = w.cell? ⟨b, o, none⟩ := by rw [World.cell?_of_block (w := w) h]
/-- The state of the loop that copies a tree: the box of the tree, the box of what is returned, the box of the copy. -/
structure CopyAt (w wr : World) (sl : Value) (ov : Value) (qs : List (Fil × Value)) : Prop where
  tree : wr.cell? ⟨w.heap.size, 0, none⟩ = some sl
  res : wr.cell? ⟨w.heap.size + 1, 0, none⟩ = some (.slice none 0 0)
  rfree : wr.frozen? ⟨w.heap.size + 1, 0, none⟩ = false
  out : wr.cell? ⟨w.heap.size + 1 + 1, 0, none⟩ = some ov
  ofree : wr.frozen? ⟨w.heap.size + 1 + 1, 0, none⟩ = false
  size : w.heap.size + 3 ≤ wr.heap.size
  own : OwnFils wr (w.heap.size + 3) ov qs
  below : Below w.heap.size w wr
/-- Another value in the box of the copy. -/
theorem CopyAt.next {w wr w' : World} {sl ov : Value} {qs : List (Fil × Value)} (h : CopyAt w wr sl ov qs) {v' : Value} {qs' : List (Fil × Value)} (hb : Below (w.heap.size + 3) wr w') (hown : OwnFils w' (w.heap.size + 3) v' qs') :
    CopyAt w (w'.setCell ⟨w.heap.size + 1 + 1, 0, none⟩ v') sl v' qs' := by
  have hs := h.size
  have hz := hb.size
  have ht := (hb.cell (p := ⟨w.heap.size, 0, none⟩) (by dsimp only; omega)).trans h.tree
  have hr := (hb.cell (p := ⟨w.heap.size + 1, 0, none⟩) (by dsimp only; omega)).trans h.res
  have hf := (hb.frozen (p := ⟨w.heap.size + 1, 0, none⟩) (by dsimp only; omega)).trans h.rfree
  have ho := (hb.cell (p := ⟨w.heap.size + 1 + 1, 0, none⟩) (by dsimp only; omega)).trans h.out
  have hg := (hb.frozen (p := ⟨w.heap.size + 1 + 1, 0, none⟩) (by dsimp only; omega)).trans h.ofree
  refine ⟨?_, ?_, ?_, ?_, ?_, ?_, hown.set_low (by dsimp only; omega) _, (h.below.trans (hb.mono (by omega))).setCell (by dsimp only; omega) _⟩
  · rw [World.cell?_of_block (w := w') (Below.heap_setCell _ _ _ _ (by dsimp only; omega))]; exact ht
  · rw [World.cell?_of_block (w := w') (Below.heap_setCell _ _ _ _ (by dsimp only; omega))]; exact hr
  · simp [go_sem, hf]
  · simp [go_sem, ho]
  · simp [go_sem, hg]
  · simp; omega
set_option maxRecDepth 100000 in
set_option maxHeartbeats 4000000 in
theorem spec_copyTree (v : Value) (ps : List (Fil × Value)) (w : World) (h : RowsF w v ps) (hl : ps.length ≤ 2000000) (hbl : ∀ p ∈ ps, p.1.body.length ≤ 1048576) :
    Calls Try.prog 87 #[.agg #[v]] w (NewTree (ps.map (·.1)) w) := by
  obtain ⟨i0, hi, hz0, hz1, hz2⟩ := info_parts infoFil
  have Hi := Lib.hid hi
  have Hz0 := Lib.hid hz0
  have Hz1 := Lib.hid hz1
  have Hz2 := Lib.hid hz2
  have H := Lib.hid h
  have Hbl := Lib.hid hbl
  obtain ⟨aa, ca, rfl⟩ := h.len
  clear h hbl hi hz0 hz1 hz2
  go_enter Try.func87, Try.ntmps87
  go_wp2_with fail
  go_loopw [4] (fun iv wr => ∃ (k : Nat) (qs : List (Fil × Value)) (oa : Option Addr) (oc : Nat), k ≤ ps.length ∧ iv = .int .i64 k ∧ qs.map (·.1) = (ps.map (·.1)).take k ∧ CopyAt w wr (.slice aa ps.length ca) (.slice oa qs.length oc) qs) (fun iv _ => ps.length - (intOf iv).toNat)
  case atStart =>
    refine ⟨0, [], none, 0, by omega, rfl, rfl, ⟨?_, ?_, ?_, ?_, ?_, ?_, ⟨World.ownsRow_nil _ _ _ _, OwnBodies.nil _ _⟩, by (repeat (with_reducible first | exact Below.refl _ _ | assumption | refine ba ?_ _ | refine bd ?_ | refine bdN ?_ _ | refine bs ?_ (by first | exact Nat.le_refl _ | (dsimp only; omega) | (simp; done)) _ | refine bt ?_ (by assumption)))⟩⟩ <;> simp [go_sem]
  case round =>
    obtain ⟨k, qs, oa, oc, hk, rfl, hqs, hst⟩ := hrel
    have Hqs := Lib.hid hqs
    have Hst := Lib.hid hst
    have hql : qs.length ≤ 2000000 := by have h := congrArg List.length hqs; simp at h; omega
    have hA := hst.tree
    have hO := hst.out
    have hOf := hst.ofree
    have hsz := hst.size
    have hs0 : w.heap.size < wr.heap.size := by omega
    have hs1 : w.heap.size + 1 < wr.heap.size := by omega
    have hs2 : w.heap.size + 1 + 1 < wr.heap.size := by omega
    clear hqs
    by_cases hlt : k < ps.length
    · have hrow := (H.out.below hst.below).1
      obtain ⟨g, cap, e1, hg, hg2⟩ := hrow.form (by omega)
      simp only [Value.slice.injEq] at e1
      obtain ⟨rfl, _, rfl⟩ := e1
      obtain ⟨⟨c0, c1, c2, c3, c4, c5⟩, _⟩ := own6 hrow k hlt
      have hgs : g < wr.heap.size := (hrow.lt g rfl).2
      have Hgw := Lib.hid (show g < w.heap.size from (H.out.1.lt g rfl).2)
      have Hbody := Lib.hid ((H.out.below hst.below).2 _ (List.getElem_mem hlt))
      have Hbk := Lib.hid (Hbl.out _ (List.getElem_mem hlt))
      have Hsn := Lib.hid (List.take_succ_eq_append_getElem (l := ps.map (·.1)) (show k < (ps.map (·.1)).length by simpa using hlt))
      simp only [List.getElem_map] at Hsn
      obtain ⟨p, hp⟩ : ∃ p, p = ps[k] := ⟨_, rfl⟩
      rw [← hp] at c0 c1 c2 c3 c4 c5 Hbody Hsn Hbk
      clear hp hrow hg hg2 hst
      obtain ⟨⟨fr, fp, fn, fi, fst, fb⟩, bv⟩ := p
      dsimp only at c0 c1 c2 c3 c4 c5 Hbody Hbk Hsn
      obtain ⟨ab, cb, rfl⟩ := owns_shape Hbody.out
      have hk1 : (k : Int) < (ps.length : Int) := by omega
      have hk0 : (0 : Int) ≤ (k : Int) := by omega
      go_wp2_with fail
      go_region_law (first
          | (go_simp; go_at_call 100; refine (spec_copyFile _ _ _ _ _ _ fb _ (owns_below Hbody.out (by (repeat (with_reducible first | exact Below.refl _ _ | assumption | refine ba ?_ _ | refine bd ?_ | refine bdN ?_ _ | refine bs ?_ (by first | exact Nat.le_refl _ | (dsimp only; omega) | (simp; done)) _ | refine bt ?_ (by assumption))))) Hbk.out).mono ?_; rintro _ w5 ⟨v5, rfl, hown5, hb5⟩; unfold filV; dsimp only; obtain ⟨a5, c5', hv5⟩ := owns_shape hown5; subst hv5; have Hown5 := Lib.hid (owns_mono hown5 (show Below wr.heap.size wr _ by (repeat (with_reducible first | exact Below.refl _ _ | assumption | refine ba ?_ _ | refine bd ?_ | refine bdN ?_ _ | refine bs ?_ (by first | exact Nat.le_refl _ | (dsimp only; omega) | (simp; done)) _ | refine bt ?_ (by assumption)))).size); have Hb5 := Lib.hid (show Below wr.heap.size wr w5 by (repeat (with_reducible first | exact Below.refl _ _ | assumption | refine ba ?_ _ | refine bd ?_ | refine bdN ?_ _ | refine bs ?_ (by first | exact Nat.le_refl _ | (dsimp only; omega) | (simp; done)) _ | refine bt ?_ (by assumption)))); have hO5 : w5.cell? ⟨w.heap.size + 1 + 1, 0, none⟩ = some (.slice oa qs.length oc) := (Hb5.out.cell (p := ⟨w.heap.size + 1 + 1, 0, none⟩) hs2).trans hO; have hz5 : wr.heap.size ≤ w5.heap.size := Hb5.out.size; have hy5 : w.heap.size + 1 + 1 < w5.heap.size := (by omega); clear hown5)
          | (refine step_append_both rfl (.tmp 14) (.tmp 21) 23 rfl (w.heap.size + 3) 36 i0 _ 6 80 Try.underlying23 Hi.out Hz0.out Hz1.out Hz2.out rfl (by decide) (.slice oa qs.length oc) qs.length (qs.flatMap filCells) (by simp [Act.eval, Act.put]) ((owns_below Hst.out.own.1 Hb5.out).alloc _) w5.heap.size (.slice (some ⟨w5.heap.size, 0, none⟩) 1 1) 1 (filCells ((⟨fr, fp, fn, fi, fst, fb⟩ : Fil), Value.slice a5 fb.length c5')) (by simp [Act.eval, Act.put]) (World.ownsRow_lit (size := 6) w5 (filCells ((⟨fr, fp, fn, fi, fst, fb⟩ : Fil), Value.slice a5 fb.length c5')).toArray 1 (Nat.le_refl _) (by unfold maxLen; omega) rfl) (fun x hx => by simp [filCells] at hx; rcases hx with rfl | rfl | rfl | rfl | rfl | rfl <;> rfl) (by unfold maxLen; omega) (by omega) (by simp; omega) ?_; intro vA wA hownA hgA; obtain ⟨aA, cA, hvA⟩ := owns_shape hownA; subst hvA; have HfA := Lib.hid (fils_snoc (q := ((⟨fr, fp, fn, fi, fst, fb⟩ : Fil), Value.slice a5 fb.length c5')) Hst.out.own (ba Hb5.out _) (by omega) (Hown5.out.alloc _) hgA hownA); have HbA := Lib.hid (show Below (w.heap.size + 3) wr wA from ((ba Hb5.out _).mono (by omega)).grown hgA (by simp; omega) (fun k e => (Hst.out.own.1.lt k e).1)); have HnA := Lib.hid (Hst.out.next HbA.out (by have h := HfA.out; exact h)); have hOA : wA.cell? ⟨w.heap.size + 1 + 1, 0, none⟩ = some (.slice oa qs.length oc) := (HbA.out.cell (p := ⟨w.heap.size + 1 + 1, 0, none⟩) (by dsimp only; omega)).trans hO; have hfA : wA.frozen? ⟨w.heap.size + 1 + 1, 0, none⟩ = false := (HbA.out.frozen (p := ⟨w.heap.size + 1 + 1, 0, none⟩) (by dsimp only; omega)).trans hOf; have hzA : w.heap.size + 1 + 1 < wA.heap.size := (by have := HbA.out.size; omega)))
      all_goals
        have HmA := Lib.hid (show (qs ++ [((⟨fr, fp, fn, fi, fst, fb⟩ : Fil), Value.slice a5 fb.length c5')]).map (·.1) = (ps.map (·.1)).take (k + 1) by rw [List.map_append, Hqs.out, Hsn.out]; rfl)
        have hqA : (qs ++ [((⟨fr, fp, fn, fi, fst, fb⟩ : Fil), Value.slice a5 fb.length c5')]).length = qs.length + 1 := by simp
        have HnB := Lib.hid HnA.out
        clear hOA hfA
        go_wp2_with fail
        go_roundw
        case rel => exact ⟨k + 1, qs ++ [((⟨fr, fp, fn, fi, fst, fb⟩ : Fil), Value.slice a5 fb.length c5')], aA, cA, by omega, by go_num, HmA.out, by rw [hqA]; exact HnB.out⟩
        case measure => simp [intOf]; omega
    · obtain rfl : k = ps.length := by omega
      have Hf := Lib.hid (show qs.map (·.1) = ps.map (·.1) by rw [Hqs.out, List.take_of_length_le (by simp)])
      have hR := hst.res
      have hRf := hst.rfree
      clear hst
      generalize qs.length = qn at *
      go_wp2_with fail
      refine bodyPost_ret (v := .agg #[.slice oa qn oc]) (by simp [results, Try.results87, go_sem, *]) rfl ?_
      have hbw := Hst.out.below
      refine ⟨_, qs, rfl, Hf.out, ?_, by (repeat (with_reducible first | exact Below.refl _ _ | assumption | refine ba ?_ _ | refine bd ?_ | refine bdN ?_ _ | refine bs ?_ (by first | exact Nat.le_refl _ | (dsimp only; omega) | (simp; done)) _ | refine bt ?_ (by assumption)))⟩
      exact ((Hst.out.own.set_low (by dsimp only; omega) _).mono (by omega))
end Go.Proofs.Ytgecemngfpgcoaa
