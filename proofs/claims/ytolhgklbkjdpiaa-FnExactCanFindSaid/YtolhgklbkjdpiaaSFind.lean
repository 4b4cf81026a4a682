/- Contracts of the model's finders. -/
import Derived.Test.YtolhgklbkjdpiaaOver
import Derived.Test.YtolhgklbkjdpiaaTrees2
import Derived.Test.YtolhgklbkjdpiaaPlainQ
import Derived.Test.YtolhgklbkjdpiaaAbove
set_option linter.unusedVariables false
set_option linter.unusedSimpArgs false
namespace Go.Proofs.Ytolhgklbkjdpiaa
open Go.RowKit Go.Proofs.Ytolhgklbkjdpiaa.Nm
open Go.Sort (grow)

theorem below_first2 {w wr W w7 : World} {cs ds : Array Value} {T U : TypeId} {row : Option Nat} (h : Boxed2 w cs T ds U wr) (hb : Below wr.heap.size wr W) (hg : W.grownBy w7 row) (hr : ∀ g, row = some g → w.heap.size + 2 ≤ g) : Boxed2 w cs T ds U w7 :=
  (h.step hb).grown hg (h.step hb).size (fun g e => by simpa using hr g e)
theorem new_one {w : World} {x : Value} {t : TypeId} {b : Nat} (hb : b = w.heap.size) : ∀ j u, [x][j]? = some u → (w.alloc (.cells #[x] t)).cell? ((⟨b, 0, none⟩ : Addr).add j) = some u := by subst hb; exact cell_one_new w x t
theorem quiet_name {W w5 : World} {d : Nat} {os : Array Obj} (h : w5 = grow (redrawn W d) os) : Below W.heap.size W w5 := by subst h; exact below_regrown W d os

set_option maxRecDepth 100000 in
set_option maxHeartbeats 400000 in
theorem spec_noSpec (w : World) : Calls Try.prog 81 #[] w (NewSpc 3 noSpc w) := by
  go_enter Try.func81, Try.ntmps81
  go_wp2_with fail
  refine bodyPost_ret (v := .agg #[.int .i64 0, .int .i64 (-1), .slice (some ⟨w.heap.size + 1, 0, none⟩) 0 0]) (by simp [results, Try.results81, go_sem]) rfl ?_
  refine ⟨_, rfl, ?_, by (repeat (with_reducible first | exact Below.refl _ _ | assumption | refine ba ?_ _ | refine bd ?_ | refine bdN ?_ _ | refine bs ?_ (by first | exact Nat.le_refl _ | (dsimp only; omega) | (simp; done)) _ | refine bt ?_ (by assumption)))⟩
  first
    | exact lit_own #[] 0 (by simp) (by omega) (by unfold maxLen; omega) rfl
    | ((repeat (with_reducible first | refine World.ownsRow.alloc ?_ _ | refine owns_set_low ?_ (by first | (dsimp only; omega) | (simp; done) | (simp; omega)) _)); exact lit_own #[] 0 (by simp) (by omega) (by unfold maxLen; omega) rfl)

theorem sroot_init {t : List Fil} {r : Int} {p s : Bs} (hp : vpk p = true) (hs : vp s = true) (hn : vn (child p s) = true) (h : 0 ≤ firstAt t (r, child p s, [], true)) :
    rootSpc t r (child p s) = ⟨2, firstAt t (r, child p s, [], true), [r]⟩ ∧ dirIn t r (child p s) = true := ⟨by unfold rootSpc; rw [if_pos h], dir_of_init h (vn_ne hn)⟩
theorem sroot_mod {t : List Fil} {r : Int} {p s : Bs} (hp : vpk p = true) (hs : vp s = true) (hn : vn (child p s) = true) (h1 : ¬ 0 ≤ firstAt t (r, child p s, [], true)) (h : 0 ≤ firstAt t (r, p, s, false)) :
    rootSpc t r (child p s) = ⟨1, firstAt t (r, p, s, false), []⟩ := by
  obtain ⟨e1, e2, _⟩ := child_back hp hs hn
  unfold rootSpc; rw [if_neg h1, e1, e2, if_pos h]
theorem sroot_dir {t : List Fil} {r : Int} {p s : Bs} (hp : vpk p = true) (hs : vp s = true) (hn : vn (child p s) = true) (h1 : ¬ 0 ≤ firstAt t (r, child p s, [], true)) (h : ¬ 0 ≤ firstAt t (r, p, s, false)) :
    rootSpc t r (child p s) = if dirIn t r (child p s) then ⟨3, -1, [r]⟩ else noSpc := by
  obtain ⟨e1, e2, _⟩ := child_back hp hs hn
  unfold rootSpc; rw [if_neg h1, e1, e2, if_neg h]

set_option maxRecDepth 100000 in
set_option maxHeartbeats 4000000 in
theorem spec_findIn (v : Value) (fs : List Fil) (D : Nat → Prop) (pv : Value) (path : List Int) (p s : Bs) (w : World) (hr : FilsIn w D v fs) (hz : ShortT 2000000 fs) (ht : okTree fs = true) (hvp : vpk p = true) (hvs : vp s = true) (hvn : vn (child p s) = true) (hp : IntsIn w pv path) (hpl : path.length ≤ 100) :
    Calls Try.prog 82 #[.agg #[v], pv, .string (mk p), .string (mk s)] w (NewSpc 3 (overSpc fs path (child p s)) w) := by
  obtain ⟨i0, hi, hz0, hz1, hz2⟩ := info_parts infoI
  have Hi := Lib.hid hi
  have Hz0 := Lib.hid hz0
  have Hz1 := Lib.hid hz1
  have Hz2 := Lib.hid hz2
  have Hr := Lib.hid hr
  have Hz := Lib.hid hz
  have Hp := Lib.hid hp
  have Hvp := Lib.hid hvp
  have Hvs := Lib.hid hvs
  have Hvn := Lib.hid hvn
  have hnl := vn_len hvn
  have hpk := vpk_len hvp
  have hsl := (vp_len hvs).2
  obtain ⟨aa, ca, rfl, hl, hm⟩ := hr.len
  obtain ⟨pa, pc, rfl, hpl1, hpm⟩ := hp.len
  obtain ⟨n, hn⟩ : ∃ n, n = child p s := ⟨_, rfl⟩
  have Hn := Lib.hid hn
  rw [← hn] at hnl ⊢
  have Hv := Lib.hid (show overSpc fs path n = overGo fs n path [] from rfl)
  unfold maxLen at hpm
  clear hr hl hm hz ht hp hi hz0 hz1 hz2 hvp hvs hvn hn
  go_enter Try.func82, Try.ntmps82
  go_wp2_with fail
  go_loopw [9, 10] (fun dv kv wr => ∃ (k : Nat) (ds : List Int), k ≤ path.length ∧ kv = .int .i64 k ∧ ds.length ≤ k ∧ overGo fs n path [] = overGo fs n (path.drop k) ds ∧ wr.ownsRow (w.heap.size + 2) 3 1 dv ds.length (ds.map iv) ∧ Boxed2 w #[.slice aa fs.length ca] 32 #[.int .i64 0, .int .i64 0, .slice none 0 0] 58 wr) (fun _ kv _ => path.length - (intOf kv).toNat)
  case atStart => exact ⟨0, [], by omega, rfl, by simp, rfl, lit_own #[] 0 (by simp) (by simp) (by unfold maxLen; omega) rfl, ba (Boxed2.start _ _ _ _ _) _⟩
  case round =>
    obtain ⟨k, ds, hk, rfl, hdl, hgo, hown, hbx⟩ := hrel
    have hbel := hbx.below
    have hsz := hbx.lt
    have Hown := Lib.hid hown
    have Hbx := Lib.hid hbx
    have Hgo := Lib.hid hgo
    have hA : wr.cell? ⟨w.heap.size, 0, none⟩ = some (.slice aa fs.length ca) := hbx.one.cell 0
    clear hown hbx hgo
    by_cases hlt : k < path.length
    · have Hrp := Lib.hid (Hp.out.below hbel)
      obtain ⟨b, off, cap, e, hb, hc⟩ := Hrp.out.at_ hlt
      simp only [Value.slice.injEq] at e
      obtain ⟨rfl, _, rfl⟩ := e
      have Hnx := Lib.hid (fun h => over_next (t := fs) (n := n) (rs := path) (ds := ds) hlt h)
      have Hht := Lib.hid (fun h => over_hit (t := fs) (n := n) (rs := path) (ds := ds) hlt h)
      obtain ⟨r, hr⟩ : ∃ r, r = path[k] := ⟨_, rfl⟩
      rw [← hr] at hc Hnx Hht
      clear hr
      obtain ⟨i1, hi1⟩ : ∃ i1, i1 = firstAt fs (r, n, [], true) := ⟨_, rfl⟩
      obtain ⟨i2, hi2⟩ : ∃ i2, i2 = firstAt fs (r, p, s, false) := ⟨_, rfl⟩
      obtain ⟨di, hdi⟩ : ∃ di, di = dirIn fs r n := ⟨_, rfl⟩
      have Hi1 := Lib.hid hi1
      have Hi2 := Lib.hid hi2
      have Hdi := Lib.hid hdi
      have Hbel := Lib.hid hbel
      have hk1 : (k : Int) < (path.length : Int) := by omega
      have hk0 : (0 : Int) ≤ (k : Int) := by omega
      have Hrel := Lib.hid (fun (w' : World) (hB : Below wr.heap.size wr w') => (⟨(hB.cell (p := ⟨w.heap.size, 0, none⟩) (by dsimp only; omega)).trans hA, (hB.cell (p := ⟨b, off + k, none⟩) hb).trans hc⟩ : w'.cell? ⟨w.heap.size, 0, none⟩ = some (.slice aa fs.length ca) ∧ w'.cell? ⟨b, off + k, none⟩ = some (.int .i64 r)))
      have cC : ∀ (W : World), Calls Try.prog 80 #[.string (mk p), .string (mk s)] W fun e w'' => e = .returned (.string (mk n)) ∧ Below W.heap.size W w'' := fun W => by
        have h := still_below (spec_child p s W (by omega) (by omega)); rw [← Hn.out] at h; exact h
      have cH : ∀ (W : World), Below wr.heap.size wr W → Calls Try.prog 99 #[.agg #[.slice aa fs.length ca], .int .i64 r, .string (mk n)] W fun e w'' => e = .returned (.bool di) ∧ Below W.heap.size W w'' := fun W hW => by
        have h := spec_hasDir _ fs D r n W (Hr.out.below (bt Hbel.out hW)) Hz.out (by omega); rw [← Hdi.out] at h; exact h
      have cI : ∀ (W : World), Below wr.heap.size wr W → Calls Try.prog 93 #[.agg #[.slice aa fs.length ca], .agg #[.int .i64 r, .string (mk n), .string (mk []), .bool true, .int .i64 0, .slice none 0 0]] W fun e w'' => e = .returned (.int .i64 i1) ∧ Below W.heap.size W w'' := fun W hW => by
        have h := spec_fileAt _ fs D r 0 n [] true none 0 0 W (Hr.out.below (bt Hbel.out hW)); rw [← Hi1.out] at h; exact h
      have cJ : ∀ (W : World), Below wr.heap.size wr W → Calls Try.prog 93 #[.agg #[.slice aa fs.length ca], .agg #[.int .i64 r, .string (mk p), .string (mk s), .bool false, .int .i64 0, .slice none 0 0]] W fun e w'' => e = .returned (.int .i64 i2) ∧ Below W.heap.size W w'' := fun W hW => by
        have h := spec_fileAt _ fs D r 0 p s false none 0 0 W (Hr.out.below (bt Hbel.out hW)); rw [← Hi2.out] at h; exact h
      have HC := Lib.hid cC
      have HH := Lib.hid cH
      have HI := Lib.hid cI
      have HJ := Lib.hid cJ
      have HA := Lib.hid hA
      clear cC cH cI cJ hi1 hi2 hdi hbel hA hc
      have kA := cell_regrown (Hrel.out wr (Below.refl _ _)).1
      have kc := cell_regrown (Hrel.out wr (Below.refl _ _)).2
      have qC := fun d os => Calls.regrown_of (w := wr) (d := d) (os := os) (HC.out (grow (redrawn wr d) os))
      have qH := fun d os => Calls.regrown_of (w := wr) (d := d) (os := os) (HH.out (grow (redrawn wr d) os) (below_regrown wr d os))
      go_wp2_with fail
      refine wp_region_quiet_below (by kernel_rfl) (by kernel_rfl) ?_
      repeat (go_big_quiet_step (first | exact qC _ _ | exact qH _ _))
      refine wpQuiet_nil ?_
      intro w5 hw'
      obtain ⟨⟨dq, osq⟩, hw2⟩ := hw'
      have hb5 := quiet_name hw2
      clear hw2 kA kc qC qH
      have kA := cell_regrown (Hrel.out w5 hb5).1
      have kc := cell_regrown (Hrel.out w5 hb5).2
      have qC := fun d os => Calls.regrown_of (w := w5) (d := d) (os := os) (HC.out (grow (redrawn w5 d) os))
      have qI := fun d os => Calls.regrown_of (w := w5) (d := d) (os := os) (HI.out (grow (redrawn w5 d) os) (bt hb5 (below_regrown w5 d os)))
      have Hb5 := Lib.hid hb5
      clear hb5
      go_wp2_with fail
      refine wp_region_quiet_below (by kernel_rfl) (by kernel_rfl) ?_
      repeat (go_big_quiet_step (first | exact qC _ _ | exact qI _ _))
      refine wpQuiet_nil ?_
      intro w6 hw'
      obtain ⟨⟨dq, osq⟩, hw2⟩ := hw'
      have hb6 := bt Hb5.out (quiet_name hw2)
      clear hw2 kA kc qC qI
      have Hb6 := Lib.hid hb6
      have Hx6 := Lib.hid (Hbx.out.step hb6)
      have HrA := Lib.hid (fun (h : 0 ≤ i1) => (show rootSpc fs r n = ⟨2, i1, [r]⟩ ∧ di = true by have g := sroot_init (t := fs) (r := r) Hvp.out Hvs.out Hvn.out (by rw [← Hn.out, ← Hi1.out]; exact h); rw [← Hn.out, ← Hi1.out, ← Hdi.out] at g; exact g))
      have HrB := Lib.hid (fun (h1 : ¬ 0 ≤ i1) (h : 0 ≤ i2) => (show rootSpc fs r n = ⟨1, i2, []⟩ by have g := sroot_mod (t := fs) (r := r) Hvp.out Hvs.out Hvn.out (by rw [← Hn.out, ← Hi1.out]; exact h1) (by rw [← Hi2.out]; exact h); rw [← Hn.out, ← Hi2.out] at g; exact g))
      have HrC := Lib.hid (fun (h1 : ¬ 0 ≤ i1) (h : ¬ 0 ≤ i2) => (show rootSpc fs r n = if di then ⟨3, -1, [r]⟩ else noSpc by have g := sroot_dir (t := fs) (r := r) Hvp.out Hvs.out Hvn.out (by rw [← Hn.out, ← Hi1.out]; exact h1) (by rw [← Hi2.out]; exact h); rw [← Hn.out, ← Hdi.out] at g; exact g))
      by_cases h1 : 0 ≤ i1
      · obtain ⟨e1, e2⟩ := HrA.out h1
        subst e2
        have Hh := Lib.hid (show overGo fs n path [] = ⟨2, i1, [r]⟩ by rw [Hgo.out, Hht.out (by rw [e1]; dsimp only; omega), e1])
        have hc6 := (Hrel.out w6 hb6).2
        have c0 : w6.cell? ⟨w.heap.size + 1, 0, none⟩ = some (.int .i64 0) := Hx6.out.cell 0
        have c1 : w6.cell? ⟨w.heap.size + 1, 1, none⟩ = some (.int .i64 0) := Hx6.out.cell 1
        have c2 : w6.cell? ⟨w.heap.size + 1, 2, none⟩ = some (.slice none 0 0) := Hx6.out.cell 2
        have f0 := Hx6.out.two.free2 0
        have f1 := Hx6.out.two.free2 1
        have f2 := Hx6.out.two.free2 2
        have s6 := Hx6.out.lt
        clear e1 hb6
        go_wp2_with fail
        refine bodyPost_ret (v := .agg #[.int .i64 2, .int .i64 i1, .slice (some ⟨w6.heap.size, 0, none⟩) 1 1]) (by simp [results, Try.results82, go_sem, *]) rfl ?_
        rw [Hv.out, Hh.out]
        have hbw := Hx6.out.below
        refine ⟨_, rfl, ?_, by (repeat (with_reducible first | exact Below.refl _ _ | assumption | refine ba ?_ _ | refine bd ?_ | refine bdN ?_ _ | refine bs ?_ (by first | exact Nat.le_refl _ | (dsimp only; omega) | (simp; done)) _ | refine bt ?_ (by assumption)))⟩
        exact lit_own #[.int .i64 r] 1 (by simp) (by omega) (by unfold maxLen; omega) rfl
      · have kA := cell_regrown (Hrel.out w6 hb6).1
        have kc := cell_regrown (Hrel.out w6 hb6).2
        have qJ := fun d os => Calls.regrown_of (w := w6) (d := d) (os := os) (HJ.out (grow (redrawn w6 d) os) (bt hb6 (below_regrown w6 d os)))
        have h1f : ¬ (0 ≤ i1) := h1
        have H1 := Lib.hid h1
        have h1d : decide (0 ≤ i1) = false := decide_eq_false h1
        clear hb6 h1
        cases di
        all_goals
          go_wp2_with fail
          refine wp_region_quiet_below (by kernel_rfl) (by kernel_rfl) ?_
          repeat (go_big_quiet_step (first | exact qJ _ _))
          refine wpQuiet_nil ?_
          intro w7 hw'
          obtain ⟨⟨dq, osq⟩, hw2⟩ := hw'
          have hb7 := bt Hb6.out (quiet_name hw2)
          clear hw2 kA kc qJ h1f h1d
          have Hx7 := Lib.hid (Hbx.out.step hb7)
          have hc7 := (Hrel.out w7 hb7).2
          have c0 : w7.cell? ⟨w.heap.size + 1, 0, none⟩ = some (.int .i64 0) := Hx7.out.cell 0
          have c1 : w7.cell? ⟨w.heap.size + 1, 1, none⟩ = some (.int .i64 0) := Hx7.out.cell 1
          have c2 : w7.cell? ⟨w.heap.size + 1, 2, none⟩ = some (.slice none 0 0) := Hx7.out.cell 2
          have f0 := Hx7.out.two.free2 0
          have f1 := Hx7.out.two.free2 1
          have f2 := Hx7.out.two.free2 2
          have s7 := Hx7.out.lt
          have Hb7 := Lib.hid hb7
          clear hb7
          by_cases h2 : i2 < 0
          rotate_left
          · have Hh := Lib.hid (show overGo fs n path [] = ⟨1, i2, []⟩ by have e := HrB.out H1.out (by omega); rw [Hgo.out, Hht.out (by rw [e]; dsimp only; omega), e])
            go_wp2_with fail
            refine bodyPost_ret (v := .agg #[.int .i64 1, .int .i64 i2, .slice (some ⟨w7.heap.size, 0, none⟩) 0 0]) (by simp [results, Try.results82, go_sem, *]) rfl ?_
            rw [Hv.out, Hh.out]
            have hbw := Hx7.out.below
            refine ⟨_, rfl, ?_, by (repeat (with_reducible first | exact Below.refl _ _ | assumption | refine ba ?_ _ | refine bd ?_ | refine bdN ?_ _ | refine bs ?_ (by first | exact Nat.le_refl _ | (dsimp only; omega) | (simp; done)) _ | refine bt ?_ (by assumption)))⟩
            exact lit_own #[] 0 (by simp) (by omega) (by unfold maxLen; omega) rfl
        · have E := Lib.hid (HrC.out H1.out (by omega))
          have Hn2 := Lib.hid (Hnx.out (by rw [E.out]; rfl))
          clear c0 c1 c2 f0 f1 f2
          go_wp2_with fail
          go_roundw
          case rel => exact ⟨k + 1, ds, by omega, by go_num, by omega, by rw [Hgo.out, Hn2.out, E.out]; simp [noSpc], owns_below Hown.out Hb7.out, Hx7.out⟩
          case measure => simp [intOf]; omega
        · have E := Lib.hid (HrC.out H1.out (by omega))
          have Hn2 := Lib.hid (Hnx.out (by rw [E.out]; rfl))
          clear c0 c1 c2 f0 f1 f2
          go_wp2_with (at_builtin; refine wpList_append_own _ rfl _ _ 53 rfl (w.heap.size + 2) 3 i0 (.int .i64 0) 1 8 Try.underlying53 Hi.out Hz0.out Hz1.out Hz2.out rfl (by decide) _ ds.length _ rfl ((owns_below Hown.out Hb7.out).alloc _) ⟨_, 0, none⟩ 1 1 [.int .i64 r] rfl rfl (new_one (by first | rfl | simp)) (fun x hx => by simp at hx; subst hx; rfl) (by unfold maxLen; omega) (by omega) (by simp; omega) ?_; intro v8 w8 hown8 hgrow8 hnil8)
          have Hx8 := Lib.hid (below_first2 Hbx.out (ba Hb7.out _) hgrow8 (fun g hg => (Hown.out.lt g hg).1))
          have Hown8 := Lib.hid (show w8.ownsRow (w.heap.size + 2) 3 1 v8 (ds ++ [r]).length ((ds ++ [r]).map iv) by rw [List.length_append, List.map_append]; exact hown8)
          clear hown8 hgrow8 hnil8
          go_roundw
          case rel => exact ⟨k + 1, ds ++ [r], by omega, by go_num, by simp; omega, by rw [Hgo.out, Hn2.out, E.out]; rfl, Hown8.out, Hx8.out⟩
          case measure => simp [intOf]; omega
    · obtain rfl : k = path.length := by omega
      have Hg2 := Lib.hid (show overGo fs n path [] = if ds = [] then noSpc else ⟨3, -1, ds⟩ by rw [Hgo.out, List.drop_length]; rfl)
      have c0 : wr.cell? ⟨w.heap.size + 1, 0, none⟩ = some (.int .i64 0) := Hbx.out.cell 0
      have c1 : wr.cell? ⟨w.heap.size + 1, 1, none⟩ = some (.int .i64 0) := Hbx.out.cell 1
      have c2 : wr.cell? ⟨w.heap.size + 1, 2, none⟩ = some (.slice none 0 0) := Hbx.out.cell 2
      have f0 := Hbx.out.two.free2 0
      have f1 := Hbx.out.two.free2 1
      have f2 := Hbx.out.two.free2 2
      obtain ⟨a6, c6, hv6⟩ := owns_shape Hown.out
      subst hv6
      by_cases hd : ds = []
      · subst hd
        have Hg3 := Lib.hid (show overGo fs n path [] = noSpc by rw [Hg2.out]; rfl)
        clear hA
        go_wp2_with (go_at_call 81; refine (spec_noSpec _).mono ?_; rintro _ w7 ⟨v7, rfl, hown7, hb7⟩; dsimp only [noSpc] at hown7 ⊢; obtain ⟨a7, c7, hv7⟩ := owns_shape (n := 0) hown7; subst hv7; have Hown7 := Lib.hid hown7; have Hx7 := Lib.hid (Hbx.out.step hb7); clear c0 c1 c2 f0 f1 f2 hb7 hown7; have c0 : w7.cell? ⟨w.heap.size + 1, 0, none⟩ = some (.int .i64 0) := Hx7.out.cell 0; have c1 : w7.cell? ⟨w.heap.size + 1, 1, none⟩ = some (.int .i64 0) := Hx7.out.cell 1; have c2 : w7.cell? ⟨w.heap.size + 1, 2, none⟩ = some (.slice none 0 0) := Hx7.out.cell 2; have f0 := Hx7.out.two.free2 0; have f1 := Hx7.out.two.free2 1; have f2 := Hx7.out.two.free2 2; have s7 := Hx7.out.lt)
        refine bodyPost_ret (v := .agg #[.int .i64 0, .int .i64 (-1), .slice a7 0 c7]) (by simp [results, Try.results82, go_sem, *]) rfl ?_
        rw [Hv.out, Hg3.out]
        have hbw := Hx7.out.below
        refine ⟨_, rfl, ?_, by (repeat (with_reducible first | exact Below.refl _ _ | assumption | refine ba ?_ _ | refine bd ?_ | refine bdN ?_ _ | refine bs ?_ (by first | exact Nat.le_refl _ | (dsimp only; omega) | (simp; done)) _ | refine bt ?_ (by assumption)))⟩
        refine owns_mono (B := w.heap.size + 2) ?_ (by omega)
        (repeat (with_reducible first | refine World.ownsRow.alloc ?_ _ | refine owns_set_low ?_ (by first | (dsimp only; omega) | (simp; done) | (simp; omega)) _))
        exact owns_mono Hown7.out (by omega)
      · have Hg3 := Lib.hid (show overGo fs n path [] = ⟨3, -1, ds⟩ by rw [Hg2.out, if_neg hd])
        have hdn : (0 : Int) < (ds.length : Int) := by have := List.length_pos_iff.2 hd; omega
        clear hd hA
        go_wp2_with fail
        refine bodyPost_ret (v := .agg #[.int .i64 3, .int .i64 (-1), .slice a6 ds.length c6]) (by simp [results, Try.results82, go_sem, *]) rfl ?_
        rw [Hv.out, Hg3.out]
        refine ⟨_, rfl, ?_, by (repeat (with_reducible first | exact Below.refl _ _ | assumption | refine ba ?_ _ | refine bd ?_ | refine bdN ?_ _ | refine bs ?_ (by first | exact Nat.le_refl _ | (dsimp only; omega) | (simp; done)) _ | refine bt ?_ (by assumption)))⟩
        refine owns_mono (B := w.heap.size + 2) ?_ (by omega)
        (repeat (with_reducible first | refine World.ownsRow.alloc ?_ _ | refine owns_set_low ?_ (by first | (dsimp only; omega) | (simp; done) | (simp; omega)) _))
        exact Hown.out
end Go.Proofs.Ytolhgklbkjdpiaa
