/- Contracts of the program's finders: what some roots have. -/
import Derived.Test.YtolhgklbkjdpiaaRoot
set_option linter.unusedVariables false
set_option linter.unusedSimpArgs false
namespace Go.Proofs.Ytolhgklbkjdpiaa
open Go.RowKit Go.Proofs.Ytolhgklbkjdpiaa.Nm

theorem Nm.Boxed.free {w wr : World} {cs : Array Value} {T : TypeId} (h : Boxed w cs T wr) (i : Nat) : wr.frozen? ⟨w.heap.size, i, none⟩ = false := by
  have := h.frozen (p := ⟨w.heap.size, i, none⟩) (by simp)
  rw [this]; simp [go_sem]
theorem Nm.Boxed.free2 {w wr : World} {cs ds : Array Value} {T U : TypeId} (h : Boxed (w.alloc (.cells cs T)) ds U wr) (i : Nat) : wr.frozen? ⟨w.heap.size + 1, i, none⟩ = false := by
  have := h.free i
  simpa using this
theorem int_one (xs : List Int) : ∀ u ∈ xs.map iv, u.oneCell' = true := fun x hx => by obtain ⟨y, _, rfl⟩ := List.mem_map.1 hx; rfl
theorem over_next {t : List Fil} {n : Bs} {rs : List Int} {ds : List Int} {k : Nat} (h : k < rs.length) (hf : (rootSpc t rs[k] n).file = -1) : overGo t n (rs.drop k) ds = overGo t n (rs.drop (k + 1)) (ds ++ (rootSpc t rs[k] n).roots) := by
  rw [List.drop_eq_getElem_cons h]
  show (if (rootSpc t rs[k] n).file = -1 then _ else _) = _
  rw [if_pos hf]
theorem over_hit {t : List Fil} {n : Bs} {rs : List Int} {ds : List Int} {k : Nat} (h : k < rs.length) (hf : (rootSpc t rs[k] n).file ≠ -1) : overGo t n (rs.drop k) ds = rootSpc t rs[k] n := by
  rw [List.drop_eq_getElem_cons h]
  show (if (rootSpc t rs[k] n).file = -1 then _ else _) = _
  rw [if_neg hf]
set_option maxRecDepth 100000 in
set_option maxHeartbeats 2000000 in
theorem impl_findOver (v : Value) (fs : List Fil) (D : Nat → Prop) (pv : Value) (path : List Int) (n : Bs) (w : World) (hr : FilsIn w D v fs) (hz : ShortT 2000000 fs) (ht : okTree fs = true) (hn : vn n = true) (hp : IntsIn w pv path) (hpl : path.length ≤ 100) :
    Calls Try.prog 86 #[.iface 105 (.agg #[v]), pv, .string (mk n)] w (NewSpc 3 (overSpc fs path n) w) := by
  obtain ⟨i0, hi, hz0, hz1, hz2⟩ := info_parts infoI
  have Hi := Lib.hid hi
  have Hz0 := Lib.hid hz0
  have Hz1 := Lib.hid hz1
  have Hz2 := Lib.hid hz2
  have Hr := Lib.hid hr
  have Hz := Lib.hid hz
  have Ht := Lib.hid ht
  have Hn := Lib.hid hn
  have Hp := Lib.hid hp
  obtain ⟨aa, ca, rfl, hl, hm⟩ := hr.len
  obtain ⟨pa, pc, rfl, hpl1, hpm⟩ := hp.len
  have Hv := Lib.hid (show overSpc fs path n = overGo fs n path [] from rfl)
  clear hr hl hm hz ht hn hp hi hz0 hz1 hz2
  unfold maxLen at hpm
  have hme : ∀ w : World, (method 247 105 (.agg #[.slice aa fs.length ca]) "loop.example/importhouse/impl.findInRoot").run Try.prog w = .ok (131, .agg #[.slice aa fs.length ca]) w := fun _ => by kernel_rfl
  go_enter Try.func86, Try.ntmps86
  go_wp2_with fail
  go_loopw [7, 13] (fun dv kv wr => ∃ (k : Nat) (ds : List Int), k ≤ path.length ∧ kv = .int .i64 k ∧ ds.length ≤ k ∧ overGo fs n path [] = overGo fs n (path.drop k) ds ∧ wr.ownsRow (w.heap.size + 1) 3 1 dv ds.length (ds.map iv) ∧ Boxed w #[.int .i64 0, .int .i64 0, .slice none 0 0] 58 wr) (fun _ kv _ => path.length - (intOf kv).toNat)
  case atStart => exact ⟨0, [], by omega, rfl, by simp, rfl, World.ownsRow_nil _ _ _ _, Boxed.start _ _ _⟩
  case round =>
    obtain ⟨k, ds, hk, rfl, hdl, hgo, hown, hbx⟩ := hrel
    have hbel := hbx.below
    have hsz := hbx.lt
    have Hown := Lib.hid hown
    have Hbx := Lib.hid hbx
    have Hgo := Lib.hid hgo
    clear hown hbx hgo
    by_cases hlt : k < path.length
    · obtain ⟨b, off, cap, e, hb, hc⟩ := (Hp.out.below hbel).at_ hlt
      simp only [Value.slice.injEq] at e
      obtain ⟨rfl, _, rfl⟩ := e
      have Hnx := Lib.hid (fun h => over_next (t := fs) (n := n) (rs := path) (ds := ds) hlt h)
      have Hht := Lib.hid (fun h => over_hit (t := fs) (n := n) (rs := path) (ds := ds) hlt h)
      have hrl := (rootSpc_file (t := fs) (r := path[k]) (n := n)).2
      have hrf := (rootSpc_file (t := fs) (r := path[k]) (n := n)).1
      obtain ⟨r, hr⟩ : ∃ r, r = path[k] := ⟨_, rfl⟩
      rw [← hr] at hc Hnx Hht hrl hrf
      clear hr
      obtain ⟨sp, hsp⟩ : ∃ sp, sp = rootSpc fs r n := ⟨_, rfl⟩
      rw [← hsp] at Hnx Hht hrl hrf
      have Hsp := Lib.hid hsp
      clear hsp
      obtain ⟨sk, sf, sr⟩ := sp
      dsimp only at hrl hrf
      have q0 := Hbx.out.cell 0
      have q1 := Hbx.out.cell 1
      have q2 := Hbx.out.cell 2
      have f0 := Hbx.out.free 0
      have f1 := Hbx.out.free 1
      have f2 := Hbx.out.free 2
      by_cases hsf : sf = -1
      · subst hsf
        have Hn2 := Lib.hid (Hnx.out rfl)
        clear hrf q0 q1 q2 f0 f1 f2
        go_wp2_with (first
          | (go_at_call 131; refine (impl_findInRoot _ fs D r n _ (Hr.out.below (by (repeat (with_reducible first | exact Below.refl _ _ | assumption | refine ba ?_ _ | refine bd ?_ | refine bdN ?_ _ | refine bs ?_ (by first | exact Nat.le_refl _ | (dsimp only; omega) | (simp; done)) _ | refine bt ?_ (by assumption))))) Hz.out Ht.out Hn.out).mono ?_; rintro _ w5 ⟨v5, rfl, hown5, hb5⟩; rw [← Hsp.out]; rw [← Hsp.out] at hown5; dsimp only at hown5 ⊢; obtain ⟨a5, c5, hv5⟩ := owns_shape hown5; subst hv5; have Hown5 := Lib.hid hown5; have Hb5 := Lib.hid (show Below wr.heap.size wr w5 by (repeat (with_reducible first | exact Below.refl _ _ | assumption | refine ba ?_ _ | refine bd ?_ | refine bdN ?_ _ | refine bs ?_ (by first | exact Nat.le_refl _ | (dsimp only; omega) | (simp; done)) _ | refine bt ?_ (by assumption)))); obtain ⟨hcc, hff, hss⟩ := bcell hb5; clear hown5)
          | (at_builtin; refine wpList_append_both rfl _ _ 53 rfl (w.heap.size + 1) 3 i0 (.int .i64 0) 1 8 Try.underlying53 Hi.out Hz0.out Hz1.out Hz2.out rfl (by decide) _ ds.length _ rfl ((owns_below Hown.out Hb5.out).alloc _) _ _ sr.length _ rfl (Hown5.out.alloc _) (int_one _) (by unfold maxLen; omega) (by omega) (by have := Hb5.out.size; simp; omega) ?_; intro v7 w7 hown7 hgrow7))
        have Hb6 := Lib.hid (show Below wr.heap.size wr (w5.alloc (.cells #[.int .i64 sk, .int .i64 (-1), .slice a5 sr.length c5] 58)) from ba Hb5.out _)
        have Hx7 := Lib.hid (below_first Hbx.out Hb6.out hgrow7 (fun g hg => (Hown.out.lt g hg).1))
        have Hown7 := Lib.hid (show w7.ownsRow (w.heap.size + 1) 3 1 v7 (ds ++ sr).length ((ds ++ sr).map iv) by rw [List.length_append, List.map_append]; exact hown7)
        clear hown7 hgrow7
        go_roundw
        case rel => exact ⟨k + 1, ds ++ sr, by omega, by go_num, by rw [List.length_append]; omega, by rw [Hgo.out, Hn2.out], Hown7.out, Hx7.out⟩
        case measure => simp [intOf]; omega
      · have Hh := Lib.hid (Hht.out hsf)
        have hneq : (sf == -1) = false := by rw [beq_eq_false_iff_ne]; exact hsf
        clear hsf
        go_wp2_with (go_at_call 131; refine (impl_findInRoot _ fs D r n _ (Hr.out.below (by (repeat (with_reducible first | exact Below.refl _ _ | assumption | refine ba ?_ _ | refine bd ?_ | refine bdN ?_ _ | refine bs ?_ (by first | exact Nat.le_refl _ | (dsimp only; omega) | (simp; done)) _ | refine bt ?_ (by assumption))))) Hz.out Ht.out Hn.out).mono ?_; rintro _ w5 ⟨v5, rfl, hown5, hb5⟩; rw [← Hsp.out]; rw [← Hsp.out] at hown5; dsimp only at hown5 ⊢; obtain ⟨a5, c5, hv5⟩ := owns_shape hown5; subst hv5; have Hown5 := Lib.hid hown5; have Hb5 := Lib.hid (show Below wr.heap.size wr w5 by (repeat (with_reducible first | exact Below.refl _ _ | assumption | refine ba ?_ _ | refine bd ?_ | refine bdN ?_ _ | refine bs ?_ (by first | exact Nat.le_refl _ | (dsimp only; omega) | (simp; done)) _ | refine bt ?_ (by assumption)))); have Hx5 := Lib.hid (Hbx.out.step Hb5.out); clear q0 q1 q2 f0 f1 f2 hown5 hb5; have q0 : w5.cell? ⟨w.heap.size, 0, none⟩ = some (.int .i64 0) := Hx5.out.cell 0; have q1 : w5.cell? ⟨w.heap.size, 1, none⟩ = some (.int .i64 0) := Hx5.out.cell 1; have q2 : w5.cell? ⟨w.heap.size, 2, none⟩ = some (.slice none 0 0) := Hx5.out.cell 2; have f0 := Hx5.out.free 0; have f1 := Hx5.out.free 1; have f2 := Hx5.out.free 2; have s5 := Hx5.out.lt)
        refine bodyPost_ret (v := .agg #[.int .i64 sk, .int .i64 sf, .slice a5 sr.length c5]) (by simp [results, Try.results86, go_sem, *]) rfl ?_
        rw [Hv.out, Hgo.out, Hh.out]
        have hbw := Hx5.out.below
        refine ⟨_, rfl, ?_, by (repeat (with_reducible first | exact Below.refl _ _ | assumption | refine ba ?_ _ | refine bd ?_ | refine bdN ?_ _ | refine bs ?_ (by first | exact Nat.le_refl _ | (dsimp only; omega) | (simp; done)) _ | refine bt ?_ (by assumption)))⟩
        refine owns_mono (B := w.heap.size + 1) ?_ (by omega)
        (repeat (with_reducible first | refine World.ownsRow.alloc ?_ _ | refine owns_set_low ?_ (by first | (dsimp only; omega) | (simp; done) | (simp; omega)) _))
        exact owns_mono Hown5.out (by first | omega | (simp; omega))
    · obtain rfl : k = path.length := by omega
      have Hg2 := Lib.hid (show overGo fs n path [] = if ds = [] then noSpc else ⟨3, -1, ds⟩ by rw [Hgo.out, List.drop_length]; rfl)
      have q0 : wr.cell? ⟨w.heap.size, 0, none⟩ = some (.int .i64 0) := Hbx.out.cell 0
      have q1 : wr.cell? ⟨w.heap.size, 1, none⟩ = some (.int .i64 0) := Hbx.out.cell 1
      have q2 : wr.cell? ⟨w.heap.size, 2, none⟩ = some (.slice none 0 0) := Hbx.out.cell 2
      have f0 := Hbx.out.free 0
      have f1 := Hbx.out.free 1
      have f2 := Hbx.out.free 2
      obtain ⟨a6, c6, hv6⟩ := owns_shape Hown.out
      subst hv6
      by_cases hd : ds = []
      · subst hd
        have Hg3 := Lib.hid (show overGo fs n path [] = noSpc by rw [Hg2.out]; rfl)
        go_wp2_with (go_at_call 85; refine (impl_nothing _).mono ?_; rintro _ w5 ⟨rfl, hb5⟩; have Hx5 := Lib.hid (Hbx.out.step hb5); clear q0 q1 q2 f0 f1 f2 hb5; have q0 : w5.cell? ⟨w.heap.size, 0, none⟩ = some (.int .i64 0) := Hx5.out.cell 0; have q1 : w5.cell? ⟨w.heap.size, 1, none⟩ = some (.int .i64 0) := Hx5.out.cell 1; have q2 : w5.cell? ⟨w.heap.size, 2, none⟩ = some (.slice none 0 0) := Hx5.out.cell 2; have f0 := Hx5.out.free 0; have f1 := Hx5.out.free 1; have f2 := Hx5.out.free 2; have s5 := Hx5.out.lt)
        have hbw := Hx5.out.below
        exact bodyPost_ret (v := .agg #[.int .i64 0, .int .i64 (-1), .slice none 0 0]) (by simp [results, Try.results86, go_sem, *]) rfl (noSpc_new (by rw [Hv.out, Hg3.out]) (by (repeat (with_reducible first | exact Below.refl _ _ | assumption | refine ba ?_ _ | refine bd ?_ | refine bdN ?_ _ | refine bs ?_ (by first | exact Nat.le_refl _ | (dsimp only; omega) | (simp; done)) _ | refine bt ?_ (by assumption)))))
      · have Hg3 := Lib.hid (show overGo fs n path [] = ⟨3, -1, ds⟩ by rw [Hg2.out, if_neg hd])
        have hdn : ((ds.length : Int) == 0) = false := by rw [beq_eq_false_iff_ne]; have := List.length_pos_iff.2 hd; omega
        clear hd
        go_wp2_with fail
        refine bodyPost_ret (v := .agg #[.int .i64 3, .int .i64 (-1), .slice a6 ds.length c6]) (by simp [results, Try.results86, go_sem, *]) rfl ?_
        rw [Hv.out, Hg3.out]
        refine ⟨_, rfl, ?_, by (repeat (with_reducible first | exact Below.refl _ _ | assumption | refine ba ?_ _ | refine bd ?_ | refine bdN ?_ _ | refine bs ?_ (by first | exact Nat.le_refl _ | (dsimp only; omega) | (simp; done)) _ | refine bt ?_ (by assumption)))⟩
        refine owns_mono (B := w.heap.size + 1) ?_ (by omega)
        (repeat (with_reducible first | refine World.ownsRow.alloc ?_ _ | refine owns_set_low ?_ (by first | (dsimp only; omega) | (simp; done) | (simp; omega)) _))
        exact Hown.out
end Go.Proofs.Ytolhgklbkjdpiaa
