/- Contracts of the model's finders. -/
import Derived.Test.YtcmnldomcpjlcaaGreatRoot
import Derived.Test.YtcmnldomcpjlcaaGreatTrees
import Derived.Test.YtcmnldomcpjlcaaGreatPlainG
import Derived.Test.YtcmnldomcpjlcaaGreatKin
import Derived.Test.YtcmnldomcpjlcaaGreatLooks
set_option linter.unusedVariables false
set_option linter.unusedSimpArgs false
namespace Go.Proofs.YtcmnldomcpjlcaaGreat
open Go.RowKit Go.Proofs.YtcmnldomcpjlcaaGreat.Nm
open Go.Sort (grow)

theorem below_first2 {w wr W w7 : World} {cs ds : Array Value} {T U : TypeId} {row : Option Nat} (h : Boxed2 w cs T ds U wr) (hb : Below wr.heap.size wr W) (hg : W.grownBy w7 row) (hr : ∀ g, row = some g → w.heap.size + 2 ≤ g) : Boxed2 w cs T ds U w7 :=
  (h.step hb).grown hg (h.step hb).size (fun g e => by simpa using hr g e)
theorem new_one {w : World} {x : Value} {t : TypeId} {b : Nat} (hb : b = w.heap.size) : ∀ j u, [x][j]? = some u → (w.alloc (.cells #[x] t)).cell? ((⟨b, 0, none⟩ : Addr).add j) = some u := by subst hb; exact cell_one_new w x t
theorem quiet_name {W w5 : World} {d : Nat} {os : Array Obj} (h : w5 = grow (redrawn W d) os) : Below W.heap.size W w5 := by subst h; exact below_regrown W d os

set_option maxRecDepth 100000 in
set_option maxHeartbeats 400000 in
theorem spec_noSpec (w : World) : Calls Tryz.prog 114 #[] w (NewSpc 3 noSpc w) := by
  go_enter Tryz.func114, Tryz.ntmps114
  go_wp2_with fail
  refine bodyPost_ret (v := .agg #[.int .i64 0, .int .i64 (-1), .slice (some ⟨w.heap.size + 1, 0, none⟩) 0 0]) (by simp [results, Tryz.results114, go_sem]) rfl ?_
  refine ⟨_, rfl, ?_, by (repeat (with_reducible first | exact Below.refl _ _ | assumption | refine ba ?_ _ | refine bd ?_ | refine bdN ?_ _ | refine bs ?_ (by first | exact Nat.le_refl _ | (dsimp only; omega) | (simp; done)) _ | refine bt ?_ (by assumption)))⟩
  first
    | exact lit_own #[] 0 (by simp) (by omega) (by unfold maxLen; omega) rfl
    | ((repeat (with_reducible first | refine World.ownsRow.alloc ?_ _ | refine owns_set_low ?_ (by first | (dsimp only; omega) | (simp; done) | (simp; omega)) _)); exact lit_own #[] 0 (by simp) (by omega) (by unfold maxLen; omega) rfl)

theorem sroot_init {t : List Fil} {r : Int} {p s : Bs} (hp : vpk p = true) (hs : vp s = true) (hn : vn (child p s) = true) (h : 0 ≤ firstAt t (r, child p s, [], true)) :
    rootSpc t r (child p s) = ⟨2, firstAt t (r, child p s, [], true), [r]⟩ ∧ dirIn t r (child p s) = true := ⟨by unfold rootSpc; rw [if_pos h], dir_of_init h (vn_ne hn)⟩
theorem sroot_mod {t : List Fil} {r : Int} {p s : Bs} (hp : vpk p = true) (hs : vp s = true) (hn : vn (child p s) = true) (h1 : ¬ 0 ≤ firstAt t (r, child p s, [], true)) (h : 0 ≤ firstAt t (r, p, s, false)) :
    rootSpc t r (child p s) = ⟨1, firstAt t (r, p, s, false), []⟩ := by
  obtain ⟨e1, e2, _⟩ := child_back hp hs hn
  unfold rootSpc; rw [if_neg h1, e1, e2, if_pos h]
theorem sroot_dir {t : List Fil} {r : Int} {p s : Bs} (hp : vpk p = true) (hs : vp s = true) (hn : vn (child p s) = true) (h1 : ¬ 0 ≤ firstAt t (r, child p s, [], true)) (h : ¬ 0 ≤ firstAt t (r, p, s, false)) :
    rootSpc t r (child p s) = if dirIn t r (child p s) then ⟨3, -1, [r]⟩ else noSpc := by
  obtain ⟨e1, e2, _⟩ := child_back hp hs hn
  unfold rootSpc; rw [if_neg h1, e1, e2, if_neg h]

set_option maxRecDepth 100000 in
set_option maxHeartbeats 4000000 in
theorem spec_findIn (v : Value) (fs : List Fil) (D : Nat → Prop) (pv : Value) (path : List Int) (p s : Bs) (w : World) (hr : FilsIn w D v fs) (hz : ShortT 2000000 fs) (ht : okTree fs = true) (hvp : vpk p = true) (hvs : vp s = true) (hvn : vn (child p s) = true) (hp : IntsIn w pv path) (hpl : path.length ≤ 100) :
    Calls Tryz.prog 115 #[.agg #[v], pv, .string (mk p), .string (mk s)] w (NewSpc 3 (overSpc fs path (child p s)) w) := by
  obtain ⟨i0, hi, hz0, hz1, hz2⟩ := info_parts infoI
  have Hi := Lib.hid hi
  have Hz0 := Lib.hid hz0
  have Hz1 := Lib.hid hz1
  have Hz2 := Lib.hid hz2
  have Hr := Lib.hid hr
  have Hz := Lib.hid hz
  have Hp := Lib.hid hp
  have Hvp := Lib.hid hvp
  have Hvs := Lib.hid hvs
  have Hvn := Lib.hid hvn
  have hnl := vn_len hvn
  have hpk := vpk_len hvp
  have hsl := (vp_len hvs).2
  obtain ⟨aa, ca, rfl, hl, hm⟩ := hr.len
  obtain ⟨pa, pc, rfl, hpl1, hpm⟩ := hp.len
  obtain ⟨n, hn⟩ : ∃ n, n = child p s := ⟨_, rfl⟩
  have Hn := Lib.hid hn
  rw [← hn] at hnl ⊢
  have Hv := Lib.hid (show overSpc fs path n = overGo fs n path [] from rfl)
  unfold maxLen at hpm
  clear hr hl hm hz ht hp hi hz0 hz1 hz2 hvp hvs hvn hn
  go_enter Tryz.func115, Tryz.ntmps115
  go_wp2_with fail
  go_loopw [9, 10] (fun dv kv wr => ∃ (k : Nat) (ds : List Int), k ≤ path.length ∧ kv = .int .i64 k ∧ ds.length ≤ k ∧ overGo fs n path [] = overGo fs n (path.drop k) ds ∧ wr.ownsRow (w.heap.size + 2) 3 1 dv ds.length (ds.map iv) ∧ Boxed2 w #[.slice aa fs.length ca] 31 #[.int .i64 0, .int .i64 0, .slice none 0 0] 63 wr) (fun _ kv _ => path.length - (intOf kv).toNat)
  case atStart => exact ⟨0, [], by omega, rfl, by simp, rfl, lit_own #[] 0 (by simp) (by simp) (by unfold maxLen; omega) rfl, ba (Boxed2.start _ _ _ _ _) _⟩
  case round =>
    obtain ⟨k, ds, hk, rfl, hdl, hgo, hown, hbx⟩ := hrel
    have hbel := hbx.below
    have hsz := hbx.lt
    have Hown := Lib.hid hown
    have Hbx := Lib.hid hbx
    have Hgo := Lib.hid hgo
    have hA : wr.cell? ⟨w.heap.size, 0, none⟩ = some (.slice aa fs.length ca) := hbx.one.cell 0
    clear hown hbx hgo
    by_cases hlt : k < path.length
    · have Hrp := Lib.hid (Hp.out.below hbel)
      obtain ⟨b, off, cap, e, hb, hc⟩ := Hrp.out.at_ hlt
      simp only [Value.slice.injEq] at e
      obtain ⟨rfl, _, rfl⟩ := e
      have Hnx := Lib.hid (fun h => over_next (t := fs) (n := n) (rs := path) (ds := ds) hlt h)
      have Hht := Lib.hid (fun h => over_hit (t := fs) (n := n) (rs := path) (ds := ds) hlt h)
      obtain ⟨r, hr⟩ : ∃ r, r = path[k] := ⟨_, rfl⟩
      rw [← hr] at hc Hnx Hht
      clear hr
      obtain ⟨i1, hi1⟩ : ∃ i1, i1 = firstAt fs (r, n, [], true) := ⟨_, rfl⟩
      obtain ⟨i2, hi2⟩ : ∃ i2, i2 = firstAt fs (r, p, s, false) := ⟨_, rfl⟩
      obtain ⟨di, hdi⟩ : ∃ di, di = dirIn fs r n := ⟨_, rfl⟩
      have Hi1 := Lib.hid hi1
      have Hi2 := Lib.hid hi2
      have Hdi := Lib.hid hdi
      have Hbel := Lib.hid hbel
      have hk1 : (k : Int) < (path.length : Int) := by omega
      have hk0 : (0 : Int) ≤ (k : Int) := by omega
      have Hrel := Lib.hid (fun (w' : World) (hB : Below wr.heap.size wr w') => (⟨(hB.cell (p := ⟨w.heap.size, 0, none⟩) (by dsimp only; omega)).trans hA, (hB.cell (p := ⟨b, off + k, none⟩) hb).trans hc⟩ : w'.cell? ⟨w.heap.size, 0, none⟩ = some (.slice aa fs.length ca) ∧ w'.cell? ⟨b, off + k, none⟩ = some (.int .i64 r)))
      have cC : ∀ (W : World), Calls Tryz.prog 153 #[.string (mk p), .string (mk s)] W fun e w'' => e = .returned (.string (mk n)) ∧ Below W.heap.size W w'' := fun W => by
        have h := still_below (spec_child p s W (by omega) (by omega)); rw [← Hn.out] at h; exact h
      have cH : ∀ (W : World), Below wr.heap.size wr W → Calls Tryz.prog 155 #[.agg #[.slice aa fs.length ca], .int .i64 r, .string (mk n)] W fun e w'' => e = .returned (.bool di) ∧ Below W.heap.size W w'' := fun W hW => by
        have h := spec_hasDir _ fs D r n W (Hr.out.below (bt Hbel.out hW)) Hz.out (by omega); rw [← Hdi.out] at h; exact h
      have cI : ∀ (W : World), Below wr.heap.size wr W → Calls Tryz.prog 108 #[.agg #[.slice aa fs.length ca], .agg #[.int .i64 r, .string (mk n), .string (mk []), .bool true, .int .i64 0, .slice none 0 0]] W fun e w'' => e = .returned (.int .i64 i1) ∧ Below W.heap.size W w'' := fun W hW => by
        have h := spec_fileAt _ fs D r 0 n [] true none 0 0 W (Hr.out.below (bt Hbel.out hW)); rw [← Hi1.out] at h; exact h
      have cJ : ∀ (W : World), Below wr.heap.size wr W → Calls Tryz.prog 108 #[.agg #[.slice aa fs.length ca], .agg #[.int .i64 r, .string (mk p), .string (mk s), .bool false, .int .i64 0, .slice none 0 0]] W fun e w'' => e = .returned (.int .i64 i2) ∧ Below W.heap.size W w'' := fun W hW => by
        have h := spec_fileAt _ fs D r 0 p s false none 0 0 W (Hr.out.below (bt Hbel.out hW)); rw [← Hi2.out] at h; exact h
      have HC := Lib.hid cC
      have HH := Lib.hid cH
      have HI := Lib.hid cI
      have HJ := Lib.hid cJ
      have HA := Lib.hid hA
      clear cC cH cI cJ hi1 hi2 hdi hbel hA hc
      have kA := cell_regrown (Hrel.out wr (Below.refl _ _)).1
      have kc := cell_regrown (Hrel.out wr (Below.refl _ _)).2
      have qC := fun d os => Calls.regrown_of (w := wr) (d := d) (os := os) (HC.out (grow (redrawn wr d) os))
      have qH := fun d os => Calls.regrown_of (w := wr) (d := d) (os := os) (HH.out (grow (redrawn wr d) os) (below_regrown wr d os))
      go_wp2_with fail
      refine wp_region_quiet_below (by kernel_rfl) (by kernel_rfl) ?_
      repeat (go_big_quiet_step (first | exact qC _ _ | exact qH _ _))
      refine wpQuiet_nil ?_
      intro w5 hw'
      obtain ⟨⟨dq, osq⟩, hw2⟩ := hw'
      have hb5 := quiet_name hw2
      clear hw2 kA kc qC qH
      have kA := cell_regrown (Hrel.out w5 hb5).1
      have kc := cell_regrown (Hrel.out w5 hb5).2
      have qC := fun d os => Calls.regrown_of (w := w5) (d := d) (os := os) (HC.out (grow (redrawn w5 d) os))
      have qI := fun d os => Calls.regrown_of (w := w5) (d := d) (os := os) (HI.out (grow (redrawn w5 d) os) (bt hb5 (below_regrown w5 d os)))
      have Hb5 := Lib.hid hb5
      clear hb5
      go_wp2_with fail
      refine wp_region_quiet_below (by kernel_rfl) (by kernel_rfl) ?_
      repeat (go_big_quiet_step (first | exact qC _ _ | exact qI _ _))
      refine wpQuiet_nil ?_
      intro w6 hw'
      obtain ⟨⟨dq, osq⟩, hw2⟩ := hw'
      have hb6 := bt Hb5.out (quiet_name hw2)
      clear hw2 kA kc qC qI
      have Hb6 := Lib.hid hb6
      have Hx6 := Lib.hid (Hbx.out.step hb6)
      have HrA := Lib.hid (fun (h : 0 ≤ i1) => (show rootSpc fs r n = ⟨2, i1, [r]⟩ ∧ di = true by have g := sroot_init (t := fs) (r := r) Hvp.out Hvs.out Hvn.out (by rw [← Hn.out, ← Hi1.out]; exact h); rw [← Hn.out, ← Hi1.out, ← Hdi.out] at g; exact g))
      have HrB := Lib.hid (fun (h1 : ¬ 0 ≤ i1) (h : 0 ≤ i2) => (show rootSpc fs r n = ⟨1, i2, []⟩ by have g := sroot_mod (t := fs) (r := r) Hvp.out Hvs.out Hvn.out (by rw [← Hn.out, ← Hi1.out]; exact h1) (by rw [← Hi2.out]; exact h); rw [← Hn.out, ← Hi2.out] at g; exact g))
      have HrC := Lib.hid (fun (h1 : ¬ 0 ≤ i1) (h : ¬ 0 ≤ i2) => (show rootSpc fs r n = if di then ⟨3, -1, [r]⟩ else noSpc by have g := sroot_dir (t := fs) (r := r) Hvp.out Hvs.out Hvn.out (by rw [← Hn.out, ← Hi1.out]; exact h1) (by rw [← Hi2.out]; exact h); rw [← Hn.out, ← Hdi.out] at g; exact g))
      by_cases h1 : 0 ≤ i1
      · obtain ⟨e1, e2⟩ := HrA.out h1
        subst e2
        have Hh := Lib.hid (show overGo fs n path [] = ⟨2, i1, [r]⟩ by rw [Hgo.out, Hht.out (by rw [e1]; dsimp only; omega), e1])
        have hc6 := (Hrel.out w6 hb6).2
        have c0 : w6.cell? ⟨w.heap.size + 1, 0, none⟩ = some (.int .i64 0) := Hx6.out.cell 0
        have c1 : w6.cell? ⟨w.heap.size + 1, 1, none⟩ = some (.int .i64 0) := Hx6.out.cell 1
        have c2 : w6.cell? ⟨w.heap.size + 1, 2, none⟩ = some (.slice none 0 0) := Hx6.out.cell 2
        have f0 := Hx6.out.two.free2 0
        have f1 := Hx6.out.two.free2 1
        have f2 := Hx6.out.two.free2 2
        have s6 := Hx6.out.lt
        clear e1 hb6
        go_wp2_with fail
        refine bodyPost_ret (v := .agg #[.int .i64 2, .int .i64 i1, .slice (some ⟨w6.heap.size, 0, none⟩) 1 1]) (by simp [results, Tryz.results115, go_sem, *]) rfl ?_
        rw [Hv.out, Hh.out]
        have hbw := Hx6.out.below
        refine ⟨_, rfl, ?_, by (repeat (with_reducible first | exact Below.refl _ _ | assumption | refine ba ?_ _ | refine bd ?_ | refine bdN ?_ _ | refine bs ?_ (by first | exact Nat.le_refl _ | (dsimp only; omega) | (simp; done)) _ | refine bt ?_ (by assumption)))⟩
        exact lit_own #[.int .i64 r] 1 (by simp) (by omega) (by unfold maxLen; omega) rfl
      · have kA := cell_regrown (Hrel.out w6 hb6).1
        have kc := cell_regrown (Hrel.out w6 hb6).2
        have qJ := fun d os => Calls.regrown_of (w := w6) (d := d) (os := os) (HJ.out (grow (redrawn w6 d) os) (bt hb6 (below_regrown w6 d os)))
        have h1f : ¬ (0 ≤ i1) := h1
        have H1 := Lib.hid h1
        have h1d : decide (0 ≤ i1) = false := decide_eq_false h1
        clear hb6 h1
        cases di
        all_goals
          go_wp2_with fail
          refine wp_region_quiet_below (by kernel_rfl) (by kernel_rfl) ?_
          repeat (go_big_quiet_step (first | exact qJ _ _))
          refine wpQuiet_nil ?_
          intro w7 hw'
          obtain ⟨⟨dq, osq⟩, hw2⟩ := hw'
          have hb7 := bt Hb6.out (quiet_name hw2)
          clear hw2 kA kc qJ h1f h1d
          have Hx7 := Lib.hid (Hbx.out.step hb7)
          have hc7 := (Hrel.out w7 hb7).2
          have c0 : w7.cell? ⟨w.heap.size + 1, 0, none⟩ = some (.int .i64 0) := Hx7.out.cell 0
          have c1 : w7.cell? ⟨w.heap.size + 1, 1, none⟩ = some (.int .i64 0) := Hx7.out.cell 1
          have c2 : w7.cell? ⟨w.heap.size + 1, 2, none⟩ = some (.slice none 0 0) := Hx7.out.cell 2
          have f0 := Hx7.out.two.free2 0
          have f1 := Hx7.out.two.free2 1
          have f2 := Hx7.out.two.free2 2
          have s7 := Hx7.out.lt
          have Hb7 := Lib.hid hb7
          clear hb7
          by_cases h2 : i2 < 0
          rotate_left
          · have Hh := Lib.hid (show overGo fs n path [] = ⟨1, i2, []⟩ by have e := HrB.out H1.out (by omega); rw [Hgo.out, Hht.out (by rw [e]; dsimp only; omega), e])
            go_wp2_with fail
            refine bodyPost_ret (v := .agg #[.int .i64 1, .int .i64 i2, .slice (some ⟨w7.heap.size, 0, none⟩) 0 0]) (by simp [results, Tryz.results115, go_sem, *]) rfl ?_
            rw [Hv.out, Hh.out]
            have hbw := Hx7.out.below
            refine ⟨_, rfl, ?_, by (repeat (with_reducible first | exact Below.refl _ _ | assumption | refine ba ?_ _ | refine bd ?_ | refine bdN ?_ _ | refine bs ?_ (by first | exact Nat.le_refl _ | (dsimp only; omega) | (simp; done)) _ | refine bt ?_ (by assumption)))⟩
            exact lit_own #[] 0 (by simp) (by omega) (by unfold maxLen; omega) rfl
        · have E := Lib.hid (HrC.out H1.out (by omega))
          have Hn2 := Lib.hid (Hnx.out (by rw [E.out]; rfl))
          clear c0 c1 c2 f0 f1 f2
          go_wp2_with fail
          go_roundw
          case rel => exact ⟨k + 1, ds, by omega, by go_num, by omega, by rw [Hgo.out, Hn2.out, E.out]; simp [noSpc], owns_below Hown.out Hb7.out, Hx7.out⟩
          case measure => simp [intOf]; omega
        · have E := Lib.hid (HrC.out H1.out (by omega))
          have Hn2 := Lib.hid (Hnx.out (by rw [E.out]; rfl))
          clear c0 c1 c2 f0 f1 f2
          go_wp2_with (at_builtin; refine wpList_append_own _ rfl _ _ 25 rfl (w.heap.size + 2) 3 i0 (.int .i64 0) 1 8 Tryz.underlying25 Hi.out Hz0.out Hz1.out Hz2.out rfl (by decide) _ ds.length _ rfl ((owns_below Hown.out Hb7.out).alloc _) ⟨_, 0, none⟩ 1 1 [.int .i64 r] rfl rfl (new_one (by first | rfl | simp)) (fun x hx => by simp at hx; subst hx; rfl) (by unfold maxLen; omega) (by omega) (by simp; omega) ?_; intro v8 w8 hown8 hgrow8 hnil8)
          have Hx8 := Lib.hid (below_first2 Hbx.out (ba Hb7.out _) hgrow8 (fun g hg => (Hown.out.lt g hg).1))
          have Hown8 := Lib.hid (show w8.ownsRow (w.heap.size + 2) 3 1 v8 (ds ++ [r]).length ((ds ++ [r]).map iv) by rw [List.length_append, List.map_append]; exact hown8)
          clear hown8 hgrow8 hnil8
          go_roundw
          case rel => exact ⟨k + 1, ds ++ [r], by omega, by go_num, by simp; omega, by rw [Hgo.out, Hn2.out, E.out]; rfl, Hown8.out, Hx8.out⟩
          case measure => simp [intOf]; omega
    · obtain rfl : k = path.length := by omega
      have Hg2 := Lib.hid (show overGo fs n path [] = if ds = [] then noSpc else ⟨3, -1, ds⟩ by rw [Hgo.out, List.drop_length]; rfl)
      have c0 : wr.cell? ⟨w.heap.size + 1, 0, none⟩ = some (.int .i64 0) := Hbx.out.cell 0
      have c1 : wr.cell? ⟨w.heap.size + 1, 1, none⟩ = some (.int .i64 0) := Hbx.out.cell 1
      have c2 : wr.cell? ⟨w.heap.size + 1, 2, none⟩ = some (.slice none 0 0) := Hbx.out.cell 2
      have f0 := Hbx.out.two.free2 0
      have f1 := Hbx.out.two.free2 1
      have f2 := Hbx.out.two.free2 2
      obtain ⟨a6, c6, hv6⟩ := owns_shape Hown.out
      subst hv6
      by_cases hd : ds = []
      · subst hd
        have Hg3 := Lib.hid (show overGo fs n path [] = noSpc by rw [Hg2.out]; rfl)
        clear hA
        go_wp2_with (go_at_call 114; refine (spec_noSpec _).mono ?_; rintro _ w7 ⟨v7, rfl, hown7, hb7⟩; dsimp only [noSpc] at hown7 ⊢; obtain ⟨a7, c7, hv7⟩ := owns_shape (n := 0) hown7; subst hv7; have Hown7 := Lib.hid hown7; have Hx7 := Lib.hid (Hbx.out.step hb7); clear c0 c1 c2 f0 f1 f2 hb7 hown7; have c0 : w7.cell? ⟨w.heap.size + 1, 0, none⟩ = some (.int .i64 0) := Hx7.out.cell 0; have c1 : w7.cell? ⟨w.heap.size + 1, 1, none⟩ = some (.int .i64 0) := Hx7.out.cell 1; have c2 : w7.cell? ⟨w.heap.size + 1, 2, none⟩ = some (.slice none 0 0) := Hx7.out.cell 2; have f0 := Hx7.out.two.free2 0; have f1 := Hx7.out.two.free2 1; have f2 := Hx7.out.two.free2 2; have s7 := Hx7.out.lt)
        refine bodyPost_ret (v := .agg #[.int .i64 0, .int .i64 (-1), .slice a7 0 c7]) (by simp [results, Tryz.results115, go_sem, *]) rfl ?_
        rw [Hv.out, Hg3.out]
        have hbw := Hx7.out.below
        refine ⟨_, rfl, ?_, by (repeat (with_reducible first | exact Below.refl _ _ | assumption | refine ba ?_ _ | refine bd ?_ | refine bdN ?_ _ | refine bs ?_ (by first | exact Nat.le_refl _ | (dsimp only; omega) | (simp; done)) _ | refine bt ?_ (by assumption)))⟩
        refine owns_mono (B := w.heap.size + 2) ?_ (by omega)
        (repeat (with_reducible first | refine World.ownsRow.alloc ?_ _ | refine owns_set_low ?_ (by first | (dsimp only; omega) | (simp; done) | (simp; omega)) _))
        exact owns_mono Hown7.out (by omega)
      · have Hg3 := Lib.hid (show overGo fs n path [] = ⟨3, -1, ds⟩ by rw [Hg2.out, if_neg hd])
        have hdn : (0 : Int) < (ds.length : Int) := by have := List.length_pos_iff.2 hd; omega
        clear hd hA
        go_wp2_with fail
        refine bodyPost_ret (v := .agg #[.int .i64 3, .int .i64 (-1), .slice a6 ds.length c6]) (by simp [results, Tryz.results115, go_sem, *]) rfl ?_
        rw [Hv.out, Hg3.out]
        refine ⟨_, rfl, ?_, by (repeat (with_reducible first | exact Below.refl _ _ | assumption | refine ba ?_ _ | refine bd ?_ | refine bdN ?_ _ | refine bs ?_ (by first | exact Nat.le_refl _ | (dsimp only; omega) | (simp; done)) _ | refine bt ?_ (by assumption)))⟩
        refine owns_mono (B := w.heap.size + 2) ?_ (by omega)
        (repeat (with_reducible first | refine World.ownsRow.alloc ?_ _ | refine owns_set_low ?_ (by first | (dsimp only; omega) | (simp; done) | (simp; omega)) _))
        exact Hown.out

/-! ### Contract of the model's finder part by part. -/
theorem flip {P : Program} {f : FuncId} {args : Array Value} {w : World} {v : Value} (h : Calls P f args w fun e w' => e = .returned v ∧ w = w') :
    Calls P f args w fun e w' => e = .returned v ∧ w' = w := h.mono fun _ _ hh => ⟨hh.1, hh.2.symm⟩
theorem byParts_vn {t : List Fil} {path : List Int} {s : Bs} (h : vn s = true) : byParts t path s = partsGo t (above s) ⟨3, -1, path⟩ := by unfold byParts; rw [if_pos h]
set_option maxRecDepth 100000 in
set_option maxHeartbeats 4000000 in
theorem spec_find (v : Value) (fs : List Fil) (D : Nat → Prop) (pv : Value) (path : List Int) (s : Bs) (w : World) (hr : FilsIn w D v fs) (hz : ShortT 2000000 fs) (ht : okTree fs = true) (hvs : vn s = true) (hp : IntsIn w pv path) (hpl : path.length ≤ 100) :
    Calls Tryz.prog 66 #[.agg #[v], pv, .string (mk s)] w (NewSpc 3 (byParts fs path s) w) := by
  have Hr := Lib.hid hr
  have Hz := Lib.hid hz
  have Ht := Lib.hid ht
  have Hp := Lib.hid hp
  have hsl := vn_len hvs
  have Hv := Lib.hid (byParts_vn (t := fs) (path := path) hvs)
  have Hac := Lib.hid (fun i hi hi' => above_child hvs i hi hi')
  have Hvp := Lib.hid (fun i hi => vn_parts hvs i hi)
  have Hend := Lib.hid (fun k h h0 => partsGo_end fs (above s) k h h0 ⟨3, -1, path⟩)
  have hal := above_len s
  have hsp := split_pos s
  have hs3 := (vps_iff.1 (show vps (split s) = true from hvs)).1.2
  obtain ⟨aa, ca, rfl, hl, hm⟩ := hr.len
  obtain ⟨pa, pc, rfl, hpl1, hpm⟩ := hp.len
  obtain ⟨ns, hns⟩ : ∃ ns, ns = split s := ⟨_, rfl⟩
  obtain ⟨as_, has⟩ : ∃ as_, as_ = above s := ⟨_, rfl⟩
  rw [← hns] at hal hsp hs3
  rw [← has] at hal
  have Hns := Lib.hid hns
  have Has := Lib.hid has
  clear hr hl hm hz ht hp hns has hvs hpl1 hpm
  have hb0 := Boxed2.start w #[.slice aa fs.length ca] 31 #[.int .i64 0, .int .i64 0, .slice none 0 0] 63
  have Hb0 := Lib.hid hb0
  clear hb0
  go_enter Tryz.func66, Tryz.ntmps66
  go_wp2_with (go_at_call 111; refine (spec_splitAt s _ (by omega)).mono ?_; rintro _ w5 ⟨nv, rfl, hown5, hb5⟩; rw [← Hns.out] at hown5; have Hown5 := Lib.hid hown5; have Hx5 := Lib.hid (Hb0.out.step hb5); have hs5 := Hx5.out.lt; obtain ⟨na, nc, hnv⟩ := owns_shape hown5; subst hnv; clear hown5 hb5)
  have Hy5 := Lib.hid (Boxed.start w5 #[.int .i64 3, .int .i64 (-1), .slice pa path.length pc] 63)
  have Hsp0 := Lib.hid (show SpcAt (w5.alloc (.cells #[.int .i64 3, .int .i64 (-1), .slice pa path.length pc] 63)) w5.heap.size ⟨3, -1, path⟩ (.slice pa path.length pc) from ⟨Hy5.out.cell 0, Hy5.out.cell 1, Hy5.out.cell 2, Hy5.out.free 0, Hy5.out.free 1, Hy5.out.free 2, Hy5.out.lt⟩)
  have Hp5 := Lib.hid (Hp.out.below Hx5.out.below)
  go_loopw [9] (fun kv wr => ∃ (k : Nat) (sp : Spc) (vk : Value), k ≤ ns.length ∧ kv = .int .i64 k ∧ sp = partsGo fs (as_.take k) ⟨3, -1, path⟩ ∧ SpcAt wr w5.heap.size sp vk ∧ IntsIn wr vk sp.roots ∧ (0 < k → wr.ownsRow (w5.heap.size + 1) 3 1 vk sp.roots.length (sp.roots.map iv)) ∧ Below w5.heap.size w5 wr) (fun kv _ => ns.length - (intOf kv).toNat)
  case atStart => exact ⟨0, _, _, by omega, rfl, rfl, Hsp0.out, Hp5.out.below Hy5.out.below, fun h => absurd h (by omega), Hy5.out.below⟩
  case round =>
    obtain ⟨k, sp, vk, hk, rfl, hspe, hsa, hvk, hvo, hbel⟩ := hrel
    have HspE := Lib.hid hspe
    have Hsa := Lib.hid hsa
    have Hvk := Lib.hid hvk
    have Hvo := Lib.hid hvo
    have Hx := Lib.hid (show Boxed2 w _ _ _ _ wr from Hx5.out.trans (hbel.mono Hx5.out.size))
    have Hbel := Lib.hid hbel
    have hsW := hsa.2.2.2.2.2.2
    have hA : wr.cell? ⟨w.heap.size, 0, none⟩ = some (.slice aa fs.length ca) := Hx.out.one.cell 0
    have hwx := Hx.out.lt
    have Hre := Lib.hid (Reads.below (Reads.of_owns Hown5.out) hbel)
    obtain ⟨va, vc, rfl, hvl, hvm⟩ := hvk.len
    have hok : SpcOk fs sp ∨ k = 0 := by
      by_cases h0 : k = 0
      · exact .inr h0
      · left; rw [hspe]; exact partsGo_ok fs _ _ (.inr (by intro e; have h5 := congrArg List.length e; rw [List.length_take, Nat.min_eq_left (by omega)] at h5; simp only [List.length_nil] at h5; exact absurd h5 h0))
    have hrl : sp.roots.length ≤ 100 := by rw [hspe]; exact Nat.le_trans partsGo_len hpl
    obtain ⟨sk, sf, sr⟩ := sp
    obtain ⟨q0, q1, q2, g0, g1, g2, _⟩ := hsa
    dsimp only at q0 q1 q2 hvl hrl
    clear hvk hvo hbel hspe Hsp0 Hp5 hvm
    by_cases hlt : k < ns.length
    · by_cases hkk : sk = 2 ∨ sk = 3
      · have hfd : ∃ c2 : Bool, c2 = (sk == 2) := ⟨_, rfl⟩
        obtain ⟨b1, o1, c1, e1, hl1, hm1, hb1, hc1⟩ := Reads.some Hre.out (by omega)
        simp only [Value.slice.injEq] at e1
        obtain ⟨rfl, _, rfl⟩ := e1
        have hcell := hc1 k hlt
        have Hfr := Lib.hid (front_reads k (by omega) hl1 hm1 hb1 hc1)
        have hlt' : k < as_.length := by omega
        obtain ⟨h1, h2, h3⟩ := Hvp.out k (by rw [← Hns.out]; exact hlt)
        have h4 := Hac.out k (by rw [← Hns.out]; exact hlt) (by rw [← Has.out]; exact hlt')
        simp only [← Hns.out, ← Has.out] at h1 h2 h3 h4
        have Hcs := Lib.hid (partsGo_snoc fs as_ k hlt' ⟨3, -1, path⟩)
        have hjz : (join (ns.take k)).length ≤ 11 := vpk_len h1
        obtain ⟨nm, hnm⟩ : ∃ nm, nm = ns[k] := ⟨_, rfl⟩
        obtain ⟨pp, hpp⟩ : ∃ pp, pp = join (ns.take k) := ⟨_, rfl⟩
        rw [← hnm] at hcell h2 h3 h4
        rw [← hpp] at h1 h3 h4 hjz
        rw [← HspE.out, h4] at Hcs
        have H1 := Lib.hid h1
        have H2 := Lib.hid h2
        have H3 := Lib.hid h3
        have Hpp := Lib.hid hpp
        have hkc : k ≤ nc := by omega
        have hk1 : (k : Int) < (ns.length : Int) := by omega
        have hk0 : (0 : Int) ≤ (k : Int) := by omega
        obtain ⟨sp2, hsp2⟩ : ∃ sp2, sp2 = overSpc fs sr (child pp nm) := ⟨_, rfl⟩
        dsimp only at Hcs
        rw [← hsp2] at Hcs
        have Hsp2 := Lib.hid hsp2
        have cJ : Calls Tryz.prog 113 #[.slice (some ⟨b1, o1, none⟩) k nc] wr.drew fun e w'' => e = .returned (.string (mk pp)) ∧ w'' = wr.drew := by
          have h := flip (spec_join _ (ns.take k) wr.drew (Hfr.out.below (bd (Below.refl _ _))) (by simp; omega) (by rw [← Hpp.out]; omega)); rw [← Hpp.out] at h; exact h
        obtain ⟨sk2, sf2, sr2⟩ := sp2
        clear hnm hpp h1 h2 h3 h4 hsp2 hc1 hfd
        rcases hkk with rfl | rfl
        all_goals
          go_wp2_with fail
          refine wp_region_still_tail 11 (by kernel_rfl) (by kernel_rfl) ?_
          simp only [List.take_succ_cons, List.take_zero, List.drop_succ_cons, List.drop_zero]
          repeat (first | still_step | still_call cJ)
          try refine wpStill_nil ?_
          clear cJ
          go_wp2_with (go_at_call 115; refine (spec_findIn _ fs D _ sr pp nm _ (Hr.out.below (by have := Hx.out.below; (repeat (with_reducible first | exact Below.refl _ _ | assumption | refine ba ?_ _ | refine bd ?_ | refine bdN ?_ _ | refine bs ?_ (by first | exact Nat.le_refl _ | (dsimp only; omega) | (simp; done)) _ | refine bt ?_ (by assumption))))) Hz.out Ht.out H1.out H2.out H3.out (Hvk.out.below (by (repeat (with_reducible first | exact Below.refl _ _ | assumption | refine ba ?_ _ | refine bd ?_ | refine bdN ?_ _ | refine bs ?_ (by first | exact Nat.le_refl _ | (dsimp only; omega) | (simp; done)) _ | refine bt ?_ (by assumption))))) hrl).mono ?_; rintro _ w7 ⟨v7, rfl, hown7, hb7⟩; rw [← Hsp2.out]; rw [← Hsp2.out] at hown7; dsimp only at hown7 ⊢; obtain ⟨a7, c7, hv7⟩ := owns_shape hown7; subst hv7; have Hown7 := Lib.hid hown7; have Hb7 := Lib.hid (show Below wr.heap.size wr w7 by (repeat (with_reducible first | exact Below.refl _ _ | assumption | refine ba ?_ _ | refine bd ?_ | refine bdN ?_ _ | refine bs ?_ (by first | exact Nat.le_refl _ | (dsimp only; omega) | (simp; done)) _ | refine bt ?_ (by assumption)))); have Hsp7 := Lib.hid (Hsa.out.below Hb7.out); clear q0 q1 q2 g0 g1 g2 hown7 hb7; obtain ⟨q0, q1, q2, g0, g1, g2, _⟩ := Hsp7.out)
          have Hput := Lib.hid (Hsp7.out.put sk2 sf2 sr2 (.slice a7 sr2.length c7))
          have HownF := Lib.hid (owns_mono (B' := w5.heap.size + 1) Hown7.out (by first | omega | (simp; omega)))
          have HbF := Lib.hid (bt Hbel.out Hb7.out)
          clear q0 q1 q2 g0 g1 g2 hcell hA
          go_roundw
          case rel =>
            have ho := owns_set_low (owns_set_low (owns_set_low HownF.out (p := ⟨w5.heap.size, 0, none⟩) (by dsimp only; omega) (.int .i64 sk2)) (p := ⟨w5.heap.size, 1, none⟩) (by dsimp only; omega) (.int .i64 sf2)) (p := ⟨w5.heap.size, 2, none⟩) (by dsimp only; omega) (.slice a7 sr2.length c7)
            exact ⟨k + 1, ⟨sk2, sf2, sr2⟩, _, by omega, by go_num, Hcs.out.symm, Hput.out, IntsIn.of_owns ho, fun _ => ho, bs (bs (bs HbF.out (Nat.le_refl _) _) (Nat.le_refl _) _) (Nat.le_refl _) _⟩
          case measure => simp [intOf]; omega
      · have hk2 : (sk == 2) = false := by rw [beq_eq_false_iff_ne]; exact fun e => hkk (.inl e)
        have hk3 : (sk == 3) = false := by rw [beq_eq_false_iff_ne]; exact fun e => hkk (.inr e)
        have hn2 : (sk != 2) = true := by rw [bne, hk2]; rfl
        have hn3 : (sk != 3) = true := by rw [bne, hk3]; rfl
        have h0k : 0 < k := Nat.pos_of_ne_zero (fun e => by
          subst e
          have := HspE.out
          simp only [List.take_zero, partsGo_nil, Spc.mk.injEq] at this
          exact hkk (.inr this.1))
        have Hno := Lib.hid (show byParts fs path s = noSpc by
          rw [Hv.out]
          exact Hend.out k (by rw [← Has.out]; omega) h0k (by rw [← Has.out, ← HspE.out]; exact fun e => hkk (.inl e)) (by rw [← Has.out, ← HspE.out]; exact fun e => hkk (.inr e)))
        have c0 : wr.cell? ⟨w.heap.size + 1, 0, none⟩ = some (.int .i64 0) := Hx.out.cell 0
        have c1 : wr.cell? ⟨w.heap.size + 1, 1, none⟩ = some (.int .i64 0) := Hx.out.cell 1
        have c2 : wr.cell? ⟨w.heap.size + 1, 2, none⟩ = some (.slice none 0 0) := Hx.out.cell 2
        have f0 := Hx.out.two.free2 0
        have f1 := Hx.out.two.free2 1
        have f2 := Hx.out.two.free2 2
        clear hkk hA
        go_wp2_with (go_at_call 114; refine (spec_noSpec _).mono ?_; rintro _ w7 ⟨v7, rfl, hown7, hb7⟩; dsimp only [noSpc] at hown7 ⊢; obtain ⟨a7, c7, hv7⟩ := owns_shape (n := 0) hown7; subst hv7; have Hown7 := Lib.hid hown7; have Hx7 := Lib.hid (Hx.out.step hb7); clear c0 c1 c2 f0 f1 f2 hb7 hown7 q0 q1 q2 g0 g1 g2; have c0 : w7.cell? ⟨w.heap.size + 1, 0, none⟩ = some (.int .i64 0) := Hx7.out.cell 0; have c1 : w7.cell? ⟨w.heap.size + 1, 1, none⟩ = some (.int .i64 0) := Hx7.out.cell 1; have c2 : w7.cell? ⟨w.heap.size + 1, 2, none⟩ = some (.slice none 0 0) := Hx7.out.cell 2; have f0 := Hx7.out.two.free2 0; have f1 := Hx7.out.two.free2 1; have f2 := Hx7.out.two.free2 2; have s7 := Hx7.out.lt)
        refine bodyPost_ret (v := .agg #[.int .i64 0, .int .i64 (-1), .slice a7 0 c7]) (by simp [results, Tryz.results66, go_sem, *]) rfl ?_
        rw [Hno.out]
        have hbw := Hx7.out.below
        refine ⟨_, rfl, ?_, by (repeat (with_reducible first | exact Below.refl _ _ | assumption | refine ba ?_ _ | refine bd ?_ | refine bdN ?_ _ | refine bs ?_ (by first | exact Nat.le_refl _ | (dsimp only; omega) | (simp; done)) _ | refine bt ?_ (by assumption)))⟩
        refine owns_mono (B := w.heap.size + 2) ?_ (by omega)
        (repeat (with_reducible first | refine World.ownsRow.alloc ?_ _ | refine owns_set_low ?_ (by first | (dsimp only; omega) | (simp; done) | (simp; omega)) _))
        exact owns_mono Hown7.out (by omega)
    · obtain rfl : k = ns.length := by omega
      have He := Lib.hid (show (⟨sk, sf, sr⟩ : Spc) = byParts fs path s by rw [Hv.out, ← Has.out, HspE.out, ← hal, List.take_length])
      have Hown := Lib.hid (Hvo.out (by omega))
      have c0 : wr.cell? ⟨w.heap.size + 1, 0, none⟩ = some (.int .i64 0) := Hx.out.cell 0
      have c1 : wr.cell? ⟨w.heap.size + 1, 1, none⟩ = some (.int .i64 0) := Hx.out.cell 1
      have c2 : wr.cell? ⟨w.heap.size + 1, 2, none⟩ = some (.slice none 0 0) := Hx.out.cell 2
      have f0 := Hx.out.two.free2 0
      have f1 := Hx.out.two.free2 1
      have f2 := Hx.out.two.free2 2
      clear hA
      go_wp2_with fail
      refine bodyPost_ret (v := .agg #[.int .i64 sk, .int .i64 sf, .slice va sr.length vc]) (by simp [results, Tryz.results66, go_sem, *]) rfl ?_
      rw [← He.out]
      have hbw := Hx.out.below
      refine ⟨_, rfl, ?_, by (repeat (with_reducible first | exact Below.refl _ _ | assumption | refine ba ?_ _ | refine bd ?_ | refine bdN ?_ _ | refine bs ?_ (by first | exact Nat.le_refl _ | (dsimp only; omega) | (simp; done)) _ | refine bt ?_ (by assumption)))⟩
      refine owns_mono (B := w.heap.size + 2) ?_ (by omega)
      (repeat (with_reducible first | refine World.ownsRow.alloc ?_ _ | refine owns_set_low ?_ (by first | (dsimp only; omega) | (simp; done) | (simp; omega)) _))
      exact owns_mono Hown.out (by omega)
end Go.Proofs.YtcmnldomcpjlcaaGreat
