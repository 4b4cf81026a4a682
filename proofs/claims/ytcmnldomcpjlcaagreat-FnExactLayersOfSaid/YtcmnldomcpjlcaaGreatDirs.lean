/- Contracts of the functions that tell what lies below a package, and whether a directory is there. -/
import Derived.Test.YtcmnldomcpjlcaaGreatTrees
import Derived.Test.YtcmnldomcpjlcaaGreatPlainT
import Derived.Test.YtcmnldomcpjlcaaGreatTreeMem
import Derived.Deep.AppendLies
set_option linter.unusedVariables false
set_option linter.unusedSimpArgs false
namespace Go.Proofs.YtcmnldomcpjlcaaGreat
open Go.RowKit Go.Proofs.YtcmnldomcpjlcaaGreat.Nm

theorem new_cells (w : World) (cs : Array Value) (T : TypeId) (b : Nat) (hb : b = w.heap.size) : ∀ (j : Nat) (u : Value), cs.toList[j]? = some u → (w.alloc (.cells cs T)).cell? ((⟨b, 0, none⟩ : Addr).add j) = some u := by
  subst hb
  intro j u hu
  have e : (w.alloc (.cells cs T)).heap[w.heap.size]? = some (.cells cs T (0, 0)) := by
    show (w.heap.push (Obj.cells cs T (0, 0)))[w.heap.size]? = _
    simp
  have ha : (⟨w.heap.size, 0, none⟩ : Addr).add j = ⟨w.heap.size, j, none⟩ := by unfold Addr.add; split <;> simp_all
  rw [ha]
  simp only [World.cell?, e]
  simpa using hu
theorem infoFilB : (Tryz.prog.info? 79).map (fun i => (i.zero, i.size, i.bytes)) = some (some (.agg #[.int .i64 0, .string ByteArray.empty, .string ByteArray.empty, .bool false, .int .i64 0, .slice none 0 0]), 6, 80) := by kernel_rfl
/-- A new row of files whose bodies are those of others. -/
def RowFils (fs : List Fil) (D : Nat → Prop) (w : World) (e : Ending) (w' : World) : Prop :=
  ∃ (v : Value) (ps : List (Fil × Value)), e = .returned v ∧ ps.map (·.1) = fs ∧ w'.ownsRow w.heap.size 79 6 v ps.length (ps.flatMap filCells) ∧ (∀ p ∈ ps, StmsIn w' D p.2 p.1.body) ∧ Below w.heap.size w w'
theorem base_le {wr W : World} {o : Obj} {B : Nat} (hb : Below wr.heap.size wr W) (h : B < wr.heap.size) : B + 1 ≤ (W.alloc o).heap.size := by
  have := hb.size; simp; omega
theorem below_first {w wr W w7 : World} {cs : Array Value} {T : TypeId} {row : Option Nat} (h : Boxed w cs T wr) (hb : Below wr.heap.size wr W) (hg : W.grownBy w7 row) (hr : ∀ g, row = some g → w.heap.size + 1 ≤ g) : Boxed w cs T w7 :=
  (h.step hb).grown hg (h.step hb).size (fun g e => by simpa using hr g e)
theorem stms_grown {w W : World} {D : Nat → Prop} {v : Value} {ss : List Stm} {row : Option Nat} (h : StmsIn w D v ss) (hg : w.grownBy W row) (hD : ∀ b, D b → some b ≠ row) : StmsIn W D v ss := h.keep hg.size (fun b hb hlt => hg.block b hlt (hD b hb))
theorem stms_all_below {w w' : World} {D : Nat → Prop} {ps : List (Fil × Value)} (h : ∀ p ∈ ps, StmsIn w D p.2 p.1.body) (hb : Below w.heap.size w w') : ∀ p ∈ ps, StmsIn w' D p.2 p.1.body := fun p hp => (h p hp).below hb
theorem stms_all_snoc {w : World} {D : Nat → Prop} {ps : List (Fil × Value)} {q : Fil × Value} (h : ∀ p ∈ ps, StmsIn w D p.2 p.1.body) (hq : StmsIn w D q.2 q.1.body) : ∀ p ∈ ps ++ [q], StmsIn w D p.2 p.1.body := fun p hp => by
  rcases List.mem_append.1 hp with hp | hp
  · exact h p hp
  · simp at hp; subst hp; exact hq
set_option maxRecDepth 100000 in
set_option maxHeartbeats 1000000 in
theorem impl_filesBelow (v : Value) (fs : List Fil) (D : Nat → Prop) (root : Int) (p : Bs) (w : World) (hr : FilsIn w D v fs) (hz : ShortT 2000000 fs) (hp : p.length ≤ 2000000) (hn : fs.length ≤ 1000000) :
    Calls Tryz.prog 232 #[.agg #[v], .int .i64 root, .string (mk p)] w (RowFils (belowFils fs root p) (fun b => D b ∧ b < w.heap.size) w) := by
  have hr := hr.mono (D' := fun b => D b ∧ b < w.heap.size) (fun b h1 h2 => ⟨h2, h1⟩)
  obtain ⟨i0, hi, hz0, hz1, hz2⟩ := info_parts infoFilB
  have Hr := Lib.hid hr
  obtain ⟨aa, ca, rfl, hl, hm⟩ := hr.len
  unfold maxLen at hm
  have Hz := Lib.hid hz
  have Hi := Lib.hid hi
  have Hz0 := Lib.hid hz0
  have Hz1 := Lib.hid hz1
  have Hz2 := Lib.hid hz2
  clear hr hz hi hz0 hz1 hz2
  go_enter Tryz.func232, Tryz.ntmps232
  go_wp2_with fail
  go_loopw [7, 13] (fun ov iv wr => ∃ (k : Nat) (ps : List (Fil × Value)), k ≤ fs.length ∧ iv = .int .i64 k ∧ ps.map (·.1) = belowFils (fs.take k) root p ∧ wr.ownsRow (w.heap.size + 1) 79 6 ov ps.length (ps.flatMap filCells) ∧ (∀ p ∈ ps, StmsIn wr (fun b => D b ∧ b < w.heap.size) p.2 p.1.body) ∧ Boxed w #[.slice aa fs.length ca] 31 wr) (fun _ iv _ => fs.length - (intOf iv).toNat)
  case atStart => exact ⟨0, [], by omega, rfl, rfl, World.ownsRow_nil _ _ _ _, by simp, Boxed.start _ _ _⟩
  case round =>
    obtain ⟨k, ps, hk, rfl, hps, hown, hbs, hbx⟩ := hrel
    have hbel := hbx.below
    have hsz := hbx.lt
    have Hps := Lib.hid hps
    have Hown := Lib.hid hown
    have Hbs := Lib.hid hbs
    have Hbx := Lib.hid hbx
    have hpl : ps.length ≤ 1000000 := by
      have h := congrArg List.length hps
      have h2 : (belowFils (fs.take k) root p).length ≤ (fs.take k).length := List.length_filter_le _ _
      simp at h h2
      omega
    clear hps hown hbs hbx
    by_cases hlt : k < fs.length
    · obtain ⟨b, off, cap, bv, e, hD, hb, hbody, c0, c1, c2, c3, c4, c5⟩ := (Hr.out.below hbel).at_ hlt
      simp only [Value.slice.injEq] at e
      obtain ⟨rfl, _, rfl⟩ := e
      obtain ⟨ba', bc', rfl, hbl, hbm⟩ := hbody.len
      obtain ⟨z1, z2, z3⟩ := Hz.out _ (List.getElem_mem hlt)
      have Hbody := Lib.hid hbody
      have Hs := Lib.hid (filter_snoc (isBelow root p) fs k hlt)
      obtain ⟨f, hf⟩ : ∃ f, f = fs[k] := ⟨_, rfl⟩
      rw [← hf] at c0 c1 c2 c3 c4 c5 z1 z2 Hbody Hs
      clear hf hbody hbm hbl z3
      obtain ⟨fr, fp, fn, fi, fst, fb⟩ := f
      dsimp only at c0 c1 c2 c3 c4 c5 z1 z2
      have Hb := Lib.hid (show isBelow root p ⟨fr, fp, fn, fi, fst, fb⟩ = (decide (fr = root) && (decide (fp = p) || isUnder fp p)) from rfl)
      by_cases hroot : fr = root
      · rw [hroot] at c0 Hs Hb
        clear hroot
        by_cases hpack : fp = p
        · rw [hpack] at c1 Hs Hb
          have hT : isBelow root p ⟨root, p, fn, fi, fst, fb⟩ = true := by rw [Hb.out]; simp
          rw [if_pos hT] at Hs
          clear hpack z1 hT
          go_wp2_with (at_builtin; refine wpList_append_own _ rfl _ _ 29 rfl (w.heap.size + 1) 79 i0 _ 6 80 Tryz.underlying29 Hi.out Hz0.out Hz1.out Hz2.out rfl (by decide) _ ps.length _ rfl ((owns_below Hown.out (by (repeat (with_reducible first | exact Below.refl _ _ | assumption | refine ba ?_ _ | refine bd ?_ | refine bdN ?_ _ | refine bs ?_ (by first | exact Nat.le_refl _ | (dsimp only; omega) | (simp; done)) _ | refine bt ?_ (by assumption))))).alloc _) ⟨_, 0, none⟩ 1 1 (filCells ((⟨root, p, fn, fi, fst, fb⟩ : Fil), .slice ba' fb.length bc')) rfl rfl ?_ (fun x hx => by simp [filCells] at hx; rcases hx with rfl | rfl | rfl | rfl | rfl | rfl <;> rfl) (by unfold maxLen; omega) (by omega) (base_le (by (repeat (with_reducible first | exact Below.refl _ _ | assumption | refine ba ?_ _ | refine bd ?_ | refine bdN ?_ _ | refine bs ?_ (by first | exact Nat.le_refl _ | (dsimp only; omega) | (simp; done)) _ | refine bt ?_ (by assumption)))) hsz) ?_; (exact new_cells _ (filCells ((⟨root, p, fn, fi, fst, fb⟩ : Fil), .slice ba' fb.length bc')).toArray _ _ (by first | rfl | simp)); intro v7 w7 hown7 hgrow7 hnil7)
          have Hx7 := Lib.hid (below_first Hbx.out (by (repeat (with_reducible first | exact Below.refl _ _ | assumption | refine ba ?_ _ | refine bd ?_ | refine bdN ?_ _ | refine bs ?_ (by first | exact Nat.le_refl _ | (dsimp only; omega) | (simp; done)) _ | refine bt ?_ (by assumption)))) hgrow7 (fun g hg => (Hown.out.lt g hg).1))
          have Hbs7 := Lib.hid (stms_all_snoc (q := ((⟨root, p, fn, fi, fst, fb⟩ : Fil), .slice ba' fb.length bc')) (fun p hp => stms_grown ((Hbs.out p hp).below (by (repeat (with_reducible first | exact Below.refl _ _ | assumption | refine ba ?_ _ | refine bd ?_ | refine bdN ?_ _ | refine bs ?_ (by first | exact Nat.le_refl _ | (dsimp only; omega) | (simp; done)) _ | refine bt ?_ (by assumption))))) hgrow7 (fun b' hb' he => absurd (Hown.out.lt b' he.symm).1 (by have := hb'.2; omega))) (stms_grown (Hbody.out.below (by (repeat (with_reducible first | exact Below.refl _ _ | assumption | refine ba ?_ _ | refine bd ?_ | refine bdN ?_ _ | refine bs ?_ (by first | exact Nat.le_refl _ | (dsimp only; omega) | (simp; done)) _ | refine bt ?_ (by assumption))))) hgrow7 (fun b' hb' he => absurd (Hown.out.lt b' he.symm).1 (by have := hb'.2; omega))))
          have Hown7 := Lib.hid (show w7.ownsRow (w.heap.size + 1) 79 6 v7 (ps ++ [((⟨root, p, fn, fi, fst, fb⟩ : Fil), Value.slice ba' fb.length bc')]).length ((ps ++ [((⟨root, p, fn, fi, fst, fb⟩ : Fil), Value.slice ba' fb.length bc')]).flatMap filCells) by simpa using hown7)
          clear hown7 hgrow7 hnil7
          go_roundw
          case rel => exact ⟨k + 1, ps ++ [((⟨root, p, fn, fi, fst, fb⟩ : Fil), .slice ba' fb.length bc')], by omega, by go_num, by rw [List.map_append, Hps.out]; exact Hs.out.symm, Hown7.out, Hbs7.out, Hx7.out⟩
          case measure => simp [intOf]; omega
        · have hpb : (fp == p) = false := by simpa using hpack
          cases hu : isUnder fp p
          · have Hu := Lib.hid hu
            have hT : isBelow root p ⟨root, fp, fn, fi, fst, fb⟩ = false := by rw [Hb.out, hu]; simp [hpack]
            rw [if_neg (by rw [hT]; exact Bool.false_ne_true), List.append_nil] at Hs
            clear hu hT hpack
            go_wp2_with (go_at_call 233; refine (impl_IsUnder fp p _ z1 hp).mono ?_; rintro _ _ ⟨rfl, hb⟩; obtain ⟨hc, hf, hs⟩ := bcell hb; rw [Hu.out])
            go_roundw
            case rel => exact ⟨k + 1, ps, by omega, by go_num, by rw [Hps.out]; exact Hs.out.symm, owns_below Hown.out (by (repeat (with_reducible first | exact Below.refl _ _ | assumption | refine ba ?_ _ | refine bd ?_ | refine bdN ?_ _ | refine bs ?_ (by first | exact Nat.le_refl _ | (dsimp only; omega) | (simp; done)) _ | refine bt ?_ (by assumption)))), stms_all_below Hbs.out (by (repeat (with_reducible first | exact Below.refl _ _ | assumption | refine ba ?_ _ | refine bd ?_ | refine bdN ?_ _ | refine bs ?_ (by first | exact Nat.le_refl _ | (dsimp only; omega) | (simp; done)) _ | refine bt ?_ (by assumption)))), Hbx.out.step (by (repeat (with_reducible first | exact Below.refl _ _ | assumption | refine ba ?_ _ | refine bd ?_ | refine bdN ?_ _ | refine bs ?_ (by first | exact Nat.le_refl _ | (dsimp only; omega) | (simp; done)) _ | refine bt ?_ (by assumption))))⟩
            case measure => simp [intOf]; omega
          · have Hu := Lib.hid hu
            have hT : isBelow root p ⟨root, fp, fn, fi, fst, fb⟩ = true := by rw [Hb.out, hu]; simp
            rw [if_pos hT] at Hs
            clear hu hT hpack
            go_wp2_with (first
              | (go_at_call 233; refine (impl_IsUnder fp p _ z1 hp).mono ?_; rintro _ _ ⟨rfl, hb⟩; obtain ⟨hc, hf, hs⟩ := bcell hb; rw [Hu.out])
              | (at_builtin; refine wpList_append_own _ rfl _ _ 29 rfl (w.heap.size + 1) 79 i0 _ 6 80 Tryz.underlying29 Hi.out Hz0.out Hz1.out Hz2.out rfl (by decide) _ ps.length _ rfl ((owns_below Hown.out (by (repeat (with_reducible first | exact Below.refl _ _ | assumption | refine ba ?_ _ | refine bd ?_ | refine bdN ?_ _ | refine bs ?_ (by first | exact Nat.le_refl _ | (dsimp only; omega) | (simp; done)) _ | refine bt ?_ (by assumption))))).alloc _) ⟨_, 0, none⟩ 1 1 (filCells ((⟨root, fp, fn, fi, fst, fb⟩ : Fil), .slice ba' fb.length bc')) rfl rfl ?_ (fun x hx => by simp [filCells] at hx; rcases hx with rfl | rfl | rfl | rfl | rfl | rfl <;> rfl) (by unfold maxLen; omega) (by omega) (base_le (by (repeat (with_reducible first | exact Below.refl _ _ | assumption | refine ba ?_ _ | refine bd ?_ | refine bdN ?_ _ | refine bs ?_ (by first | exact Nat.le_refl _ | (dsimp only; omega) | (simp; done)) _ | refine bt ?_ (by assumption)))) hsz) ?_; (exact new_cells _ (filCells ((⟨root, fp, fn, fi, fst, fb⟩ : Fil), .slice ba' fb.length bc')).toArray _ _ (by first | rfl | simp)); intro v7 w7 hown7 hgrow7 hnil7))
            have Hx7 := Lib.hid (below_first Hbx.out (by (repeat (with_reducible first | exact Below.refl _ _ | assumption | refine ba ?_ _ | refine bd ?_ | refine bdN ?_ _ | refine bs ?_ (by first | exact Nat.le_refl _ | (dsimp only; omega) | (simp; done)) _ | refine bt ?_ (by assumption)))) hgrow7 (fun g hg => (Hown.out.lt g hg).1))
            have Hbs7 := Lib.hid (stms_all_snoc (q := ((⟨root, fp, fn, fi, fst, fb⟩ : Fil), .slice ba' fb.length bc')) (fun p hp => stms_grown ((Hbs.out p hp).below (by (repeat (with_reducible first | exact Below.refl _ _ | assumption | refine ba ?_ _ | refine bd ?_ | refine bdN ?_ _ | refine bs ?_ (by first | exact Nat.le_refl _ | (dsimp only; omega) | (simp; done)) _ | refine bt ?_ (by assumption))))) hgrow7 (fun b' hb' he => absurd (Hown.out.lt b' he.symm).1 (by have := hb'.2; omega))) (stms_grown (Hbody.out.below (by (repeat (with_reducible first | exact Below.refl _ _ | assumption | refine ba ?_ _ | refine bd ?_ | refine bdN ?_ _ | refine bs ?_ (by first | exact Nat.le_refl _ | (dsimp only; omega) | (simp; done)) _ | refine bt ?_ (by assumption))))) hgrow7 (fun b' hb' he => absurd (Hown.out.lt b' he.symm).1 (by have := hb'.2; omega))))
            have Hown7 := Lib.hid (show w7.ownsRow (w.heap.size + 1) 79 6 v7 (ps ++ [((⟨root, fp, fn, fi, fst, fb⟩ : Fil), Value.slice ba' fb.length bc')]).length ((ps ++ [((⟨root, fp, fn, fi, fst, fb⟩ : Fil), Value.slice ba' fb.length bc')]).flatMap filCells) by simpa using hown7)
            clear hown7 hgrow7 hnil7
            go_roundw
            case rel => exact ⟨k + 1, ps ++ [((⟨root, fp, fn, fi, fst, fb⟩ : Fil), .slice ba' fb.length bc')], by omega, by go_num, by rw [List.map_append, Hps.out]; exact Hs.out.symm, Hown7.out, Hbs7.out, Hx7.out⟩
            case measure => simp [intOf]; omega
      · have hrb : (fr == root) = false := by simpa using hroot
        have hT : isBelow root p ⟨fr, fp, fn, fi, fst, fb⟩ = false := by rw [Hb.out]; simp [hroot]
        rw [if_neg (by rw [hT]; exact Bool.false_ne_true), List.append_nil] at Hs
        clear hroot hT
        go_wp2_with fail
        go_roundw
        case rel => exact ⟨k + 1, ps, by omega, by go_num, by rw [Hps.out]; exact Hs.out.symm, owns_below Hown.out (by (repeat (with_reducible first | exact Below.refl _ _ | assumption | refine ba ?_ _ | refine bd ?_ | refine bdN ?_ _ | refine bs ?_ (by first | exact Nat.le_refl _ | (dsimp only; omega) | (simp; done)) _ | refine bt ?_ (by assumption)))), stms_all_below Hbs.out (by (repeat (with_reducible first | exact Below.refl _ _ | assumption | refine ba ?_ _ | refine bd ?_ | refine bdN ?_ _ | refine bs ?_ (by first | exact Nat.le_refl _ | (dsimp only; omega) | (simp; done)) _ | refine bt ?_ (by assumption)))), Hbx.out.step (by (repeat (with_reducible first | exact Below.refl _ _ | assumption | refine ba ?_ _ | refine bd ?_ | refine bdN ?_ _ | refine bs ?_ (by first | exact Nat.le_refl _ | (dsimp only; omega) | (simp; done)) _ | refine bt ?_ (by assumption))))⟩
        case measure => simp [intOf]; omega
    · obtain rfl : k = fs.length := by omega
      have Hf := Lib.hid (show ps.map (·.1) = belowFils fs root p by rw [Hps.out, List.take_length])
      go_wp2_with fail
      go_ret
      exact ⟨_, ps, rfl, Hf.out, owns_mono Hown.out (by omega), Hbs.out, hbel⟩
end Go.Proofs.YtcmnldomcpjlcaaGreat
