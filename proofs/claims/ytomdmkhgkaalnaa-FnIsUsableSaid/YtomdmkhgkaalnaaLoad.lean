/- The body that is run for a file: the plain answer, and the contract of the program's LoadBody. -/
import Derived.Test.YtomdmkhgkaalnaaCopyS
import Derived.Test.YtomdmkhgkaalnaaCompile
import Derived.Test.YtomdmkhgkaalnaaWrong
import Derived.Test.YtomdmkhgkaalnaaMarkC
set_option linter.unusedVariables false
set_option linter.unusedSimpArgs false
namespace Go.Proofs.Ytomdmkhgkaalnaa
open Go.RowKit Go.Proofs.Ytomdmkhgkaalnaa.Nm
open Go.Sort (grow)

def loadB (cs : List Cmp) (f : Fil) (mode : Int) : List Stm × List Cmp × Bool :=
  if okStore cs && okFil f && inr mode 0 2 then
    match cs[(usAt cs f).toNat]? with
    | some c => if 0 ≤ usAt cs f then (c.body, cs, true) else (f.body, putC cs (compiled f mode), false)
    | none => (f.body, putC cs (compiled f mode), false)
  else ([], [], false)
theorem loadB_none {cs : List Cmp} {f : Fil} {mode : Int} (h : (okStore cs && okFil f && inr mode 0 2) = false) : loadB cs f mode = ([], [], false) := by unfold loadB; rw [h]; rfl
theorem loadB_new {cs : List Cmp} {f : Fil} {mode : Int} (h1 : okStore cs = true) (h2 : okFil f = true) (h3 : inr mode 0 2 = true) (h : usAt cs f = -1) : loadB cs f mode = (f.body, putC cs (compiled f mode), false) := by
  unfold loadB; rw [h1, h2, h3, h]; simp only [Bool.and_self, ↓reduceIte]; split <;> simp
theorem loadB_had {cs : List Cmp} {f : Fil} {mode : Int} {k : Nat} (hk : k < cs.length) (h1 : okStore cs = true) (h2 : okFil f = true) (h3 : inr mode 0 2 = true) (h : usAt cs f = (k : Int)) : loadB cs f mode = (cs[k].body, cs, true) := by
  unfold loadB; rw [h1, h2, h3, h]; simp [hk]
/-- What LoadBody comes to: a body and a store of the call's own, apart, and whether the store had it. -/
def NewLoad (r : List Stm × List Cmp × Bool) (w : World) (e : Ending) (w' : World) : Prop :=
  ∃ bv sv ps, e = .returned (.tuple #[bv, sv, .bool r.2.2]) ∧ ps.map (·.1) = r.2.1 ∧ w'.ownsRow w.heap.size 124 5 bv r.1.length (r.1.flatMap stmCells) ∧ OwnCmps w' w.heap.size sv ps ∧ Apart bv ps ∧ Below w.heap.size w w'
theorem newLoad_none {w w' : World} {r : List Stm × List Cmp × Bool} (h : r = ([], [], false)) (hb : Below w.heap.size w w') : NewLoad r w (.returned (.tuple #[.slice none 0 0, .slice none 0 0, .bool false])) w' := by
  subst h
  exact ⟨_, _, [], rfl, rfl, World.ownsRow_nil _ _ _ _, ⟨World.ownsRow_nil _ _ _ _, OwnCmpBodies.nil _ _⟩, fun p hp => by simp at hp, hb⟩
/-- A row made behind a store is apart from its bodies. -/
theorem apart_later {w W : World} {B n : Nat} {nv : Value} {xs : List Value} {ps : List (Cmp × Value)} (h : OwnCmpBodies w B ps) (hc : W.ownsRow w.heap.size 124 5 nv n xs) : Apart nv ps := fun p hp b hb hb' => by
  have h1 := (owns_block (h.1 p hp) hb).2
  have h2 := (owns_block hc hb').1
  omega

set_option maxRecDepth 100000 in
set_option maxHeartbeats 4000000 in
theorem impl_LoadBody (v : Value) (ps : List (Cmp × Value)) (r st : Int) (p n : Bs) (i : Bool) (bv : Value) (fb : List Stm) (mode : Int) (B B' : Nat) (w : World) (h : RowsC8 w B v ps) (hz : ShortCs 1048576 (ps.map (·.1))) (hl : ps.length ≤ 1048576) (hbl : ∀ p ∈ ps, p.1.body.length ≤ 1048576)
    (hf : w.ownsRow B' 124 5 bv fb.length (fb.flatMap stmCells)) (hzf : ShortF 1048576 ⟨r, p, n, i, st, fb⟩) (hfl : fb.length ≤ 1048576) :
    Calls Try.prog 40 #[v, .agg #[.int .i64 r, .string (mk p), .string (mk n), .bool i, .int .i64 st, bv], .int .i64 mode] w (NewLoad (loadB (ps.map (·.1)) ⟨r, p, n, i, st, fb⟩ mode) w) := by
  obtain ⟨hz1, hz2, hz3⟩ := id hzf
  dsimp only at hz1 hz2 hz3
  have H := Lib.hid h
  have Hbl := Lib.hid hbl
  have Hr := Lib.hid (h.fils (D := fun _ => True) (fun _ _ => trivial))
  have Hz := Lib.hid hz
  have Hz20 := Lib.hid (shortCs_mono (B := 2000000) (by omega) hz)
  have Hz80 := Lib.hid (shortCs_mono (B := 8000000) (by omega) hz)
  have Hf := Lib.hid hf
  have Hfs := Lib.hid (show StmsIn w (fun _ => True) bv fb from StmsIn.of_owns hf (fun _ _ => trivial))
  have Hzf := Lib.hid hzf
  have Hz8 := Lib.hid (short_mono (B := 8000000) (by omega) hz3)
  obtain ⟨aa, ca, rfl⟩ := h.len
  obtain ⟨ab, cb, rfl⟩ := owns_shape hf
  clear h hbl hz hf hzf hz3
  obtain ⟨W0, hW0⟩ : ∃ W, W = w.alloc (.cells #[.int .i64 r, .string (mk p), .string (mk n), .bool i, .int .i64 st, .slice ab fb.length cb] 55) := ⟨_, rfl⟩
  have Hx0 := Lib.hid (show Boxed w #[.int .i64 r, .string (mk p), .string (mk n), .bool i, .int .i64 st, .slice ab fb.length cb] 55 W0 by rw [hW0]; exact Boxed.start w _ _)
  have HWe := Lib.hid hW0
  clear hW0
  have Hk := Lib.hid (fun (w' : World) (hC : Boxed w #[.int .i64 r, .string (mk p), .string (mk n), .bool i, .int .i64 st, .slice ab fb.length cb] 55 w') => (⟨hC.cell 0, hC.cell 1, hC.cell 2, hC.cell 3, hC.cell 4, hC.cell 5, hC.lt⟩ : w'.cell? ⟨w.heap.size, 0, none⟩ = some (.int .i64 r) ∧ w'.cell? ⟨w.heap.size, 1, none⟩ = some (.string (mk p)) ∧ w'.cell? ⟨w.heap.size, 2, none⟩ = some (.string (mk n)) ∧ w'.cell? ⟨w.heap.size, 3, none⟩ = some (.bool i) ∧ w'.cell? ⟨w.heap.size, 4, none⟩ = some (.int .i64 st) ∧ w'.cell? ⟨w.heap.size, 5, none⟩ = some (.slice ab fb.length cb) ∧ w.heap.size < w'.heap.size))
  obtain ⟨ans, hans⟩ : ∃ x, x = loadB (ps.map (·.1)) ⟨r, p, n, i, st, fb⟩ mode := ⟨_, rfl⟩
  rw [← hans]
  have Hans := Lib.hid hans
  clear hans
  cases h1 : okStore (ps.map (·.1))
  · have H1 := Lib.hid h1
    have Hn := Lib.hid (show ans = ([], [], false) by rw [Hans.out]; exact loadB_none (by rw [h1]; rfl))
    clear h1
    go_enter Try.func40, Try.ntmps40
    go_upto_region 1 with fail
    rw [← HWe.out]
    go_wp2_with (go_at_call 31; refine (impl_ValidStore _ _ _ _ (Hr.out.below Hx0.out.below) Hz20.out).mono ?_; rintro _ w5 ⟨rfl, hb5⟩; rw [H1.out])
    refine bodyPost_ret (v := .tuple #[.slice none 0 0, .slice none 0 0, .bool false]) (by simp [results, Try.results40, go_sem]) rfl ?_
    exact newLoad_none Hn.out (bt Hx0.out.below hb5)
  cases h2 : okFil ⟨r, p, n, i, st, fb⟩
  · have H1 := Lib.hid h1
    have H2 := Lib.hid h2
    have Hn := Lib.hid (show ans = ([], [], false) by rw [Hans.out]; exact loadB_none (by rw [h2]; simp))
    clear h1 h2
    go_enter Try.func40, Try.ntmps40
    go_upto_region 1 with fail
    rw [← HWe.out]
    go_wp2_with (first
      | (go_at_call 31; refine (impl_ValidStore _ _ _ _ (Hr.out.below Hx0.out.below) Hz20.out).mono ?_; rintro _ w5 ⟨rfl, hb5⟩; rw [H1.out]; obtain ⟨d0, d1, d2, d3, d4, d5, zs⟩ := Hk.out _ (Hx0.out.step hb5))
      | (go_at_call 90; refine (impl_validFile r st p n i _ fb (fun _ => True) _ (by omega) (by omega) (Hfs.out.below (bt Hx0.out.below hb5)) Hz8.out).mono ?_; rintro _ w6 ⟨rfl, hb6⟩; rw [H2.out]))
    refine bodyPost_ret (v := .tuple #[.slice none 0 0, .slice none 0 0, .bool false]) (by simp [results, Try.results40, go_sem]) rfl ?_
    exact newLoad_none Hn.out (bt (bt Hx0.out.below hb5) hb6)
  cases h3 : inr mode 0 2
  · have H1 := Lib.hid h1
    have H2 := Lib.hid h2
    have H3 := Lib.hid h3
    have Hn := Lib.hid (show ans = ([], [], false) by rw [Hans.out]; exact loadB_none (by rw [h3]; simp))
    clear h1 h2 h3
    go_enter Try.func40, Try.ntmps40
    go_upto_region 1 with fail
    rw [← HWe.out]
    go_wp2_with (first
      | (go_at_call 31; refine (impl_ValidStore _ _ _ _ (Hr.out.below Hx0.out.below) Hz20.out).mono ?_; rintro _ w5 ⟨rfl, hb5⟩; rw [H1.out]; obtain ⟨d0, d1, d2, d3, d4, d5, zs⟩ := Hk.out _ (Hx0.out.step hb5))
      | (go_at_call 90; refine (impl_validFile r st p n i _ fb (fun _ => True) _ (by omega) (by omega) (Hfs.out.below (bt Hx0.out.below hb5)) Hz8.out).mono ?_; rintro _ w6 ⟨rfl, hb6⟩; rw [H2.out])
      | (go_at_call 100; refine (impl_validMode mode _).mono ?_; rintro _ _ ⟨rfl, rfl⟩; rw [H3.out]))
    refine bodyPost_ret (v := .tuple #[.slice none 0 0, .slice none 0 0, .bool false]) (by simp [results, Try.results40, go_sem]) rfl ?_
    exact newLoad_none Hn.out (bt (bt Hx0.out.below hb5) hb6)
  have H1 := Lib.hid h1
  have H2 := Lib.hid h2
  have H3 := Lib.hid h3
  have Hcm := Lib.hid (compile_yes h2 h3)
  have hvn := (srcPlace_fil h2).2
  have hml := modName_len ⟨r, p, n, i, st, fb⟩
  dsimp only at hml
  have hrg := usAt_range (ps.map (·.1)) ⟨r, p, n, i, st, fb⟩
  have Hnew := Lib.hid (fun h => loadB_new (mode := mode) h1 h2 h3 h)
  have Hhad := Lib.hid (fun (k : Nat) hk h => loadB_had (mode := mode) (k := k) hk h1 h2 h3 h)
  clear h1 h2 h3
  obtain ⟨us, hus⟩ : ∃ u, u = usAt (ps.map (·.1)) ⟨r, p, n, i, st, fb⟩ := ⟨_, rfl⟩
  have Hus := Lib.hid hus
  rw [← hus] at hrg Hnew
  clear hus
  go_enter Try.func40, Try.ntmps40
  go_upto_region 1 with fail
  rw [← HWe.out]
  go_upto_region 5 with (first
    | (go_at_call 31; refine (impl_ValidStore _ _ _ _ (Hr.out.below Hx0.out.below) Hz20.out).mono ?_; rintro _ w5 ⟨rfl, hb5⟩; rw [H1.out]; obtain ⟨d0, d1, d2, d3, d4, d5, zs⟩ := Hk.out _ (Hx0.out.step hb5))
    | (go_at_call 90; refine (impl_validFile r st p n i _ fb (fun _ => True) _ (by omega) (by omega) (Hfs.out.below (bt Hx0.out.below hb5)) Hz8.out).mono ?_; rintro _ w6 ⟨rfl, hb6⟩; rw [H2.out]; have Hx6 := Lib.hid (Hx0.out.step (bt hb5 hb6)); clear hb5 hb6 d0 d1 d2 d3 d4 d5 zs)
    | (go_at_call 100; refine (impl_validMode mode _).mono ?_; rintro _ _ ⟨rfl, rfl⟩; rw [H3.out])
    | (go_at_call 66; refine (impl_copyStore _ ps B _ (H.out.below Hx6.out.below) hl Hbl.out).mono ?_; rintro _ w7 ⟨sv, qs, rfl, hqs, hown7, hb7⟩; obtain ⟨sa, sc, rfl⟩ := hown7.len; have Hqs := Lib.hid hqs; have Hown7 := Lib.hid hown7; have Hx7 := Lib.hid (Hx6.out.step hb7); have Hs67 := Lib.hid hb7.size; obtain ⟨d0, d1, d2, d3, d4, d5, zs⟩ := Hk.out _ Hx7.out; clear hqs hown7 hb7)
    | (go_at_call 101; refine (impl_usableAt _ _ _ (ps.map (·.1)) (fun _ => True) r st p n i _ fb B' _ (Hr.out.below Hx7.out.below) Hz.out (owns_below Hf.out Hx7.out.below) Hzf.out hfl H1.out H2.out).mono ?_; rintro _ w8 ⟨rfl, hb8⟩; rw [← Hus.out]; have Hx8 := Lib.hid (Hx7.out.step hb8); have Hown8 := Lib.hid (Hown7.out.below hb8); have Hs78 := Lib.hid hb8.size; clear hb8 d0 d1 d2 d3 d4 d5 zs))
  have Hcf := Lib.hid (fun (W : World) (hW : W.ownsRow B' 124 5 (.slice ab fb.length cb) fb.length (fb.flatMap stmCells)) => (show Calls Try.prog 93 #[.agg #[.int .i64 r, .string (mk p), .string (mk n), .bool i, .int .i64 st, .slice ab fb.length cb], .int .i64 mode] W (NewCompiled (compiled ⟨r, p, n, i, st, fb⟩ mode) W) by have hh := impl_CompileFile r st p n i _ fb mode B' W hW Hzf.out hfl; rw [Hcm.out] at hh; exact hh))
  obtain ⟨m, hm⟩ : ∃ m, m = modName ⟨r, p, n, i, st, fb⟩ := ⟨_, rfl⟩
  obtain ⟨sz, hsz⟩ : ∃ m : Int, m = (sizeSum fb : Int) := ⟨_, rfl⟩
  obtain ⟨hh, hhh⟩ : ∃ m : Int, m = hashOf fb := ⟨_, rfl⟩
  have Hce := Lib.hid (show compiled ⟨r, p, n, i, st, fb⟩ mode = ⟨r, m, i, mode, st, sz, hh, fb⟩ by rw [hm, hsz, hhh]; rfl)
  rw [Hce.out] at Hcf Hnew
  rw [← hm] at hvn hml
  clear hm hsz hhh
  rcases hrg with rfl | ⟨k, hk, rfl⟩
  · have Hv := Lib.hid (show ans = (fb, putC (ps.map (·.1)) ⟨r, m, i, mode, st, sz, hh, fb⟩, false) by rw [Hans.out]; exact Hnew.out rfl)
    have Hcf2 := Lib.hid (fun (W : World) (hW : W.ownsRow B' 124 5 (.slice ab fb.length cb) fb.length (fb.flatMap stmCells)) => (show Calls Try.prog 93 #[.agg #[.int .i64 r, .string (mk p), .string (mk n), .bool i, .int .i64 st, .slice ab fb.length cb], .int .i64 mode] W (fun e w'' => ∃ nv, e = .returned (.agg #[.int .i64 r, .string (mk m), .bool i, .int .i64 mode, .int .i64 st, .int .i64 sz, .int .i64 hh, nv]) ∧ w''.ownsRow W.heap.size 124 5 nv fb.length (fb.flatMap stmCells) ∧ Below W.heap.size W w'') from Hcf.out W hW))
    obtain ⟨d0, d1, d2, d3, d4, d5, zs⟩ := Hk.out _ Hx8.out
    have Hf8 := Lib.hid (owns_below Hf.out Hx8.out.below)
    have hx6 := Hx6.out.lt
    have Hx6l := Lib.hid hx6
    clear hx6 Hcf Hnew Hhad
    go_upto_region 7 with fail
    clear d0 d1 d2 d3 d4 d5 zs
    go_region_held3 (fun w' => w'.cell? ⟨w.heap.size, 0, none⟩ = some (.int .i64 r) ∧ w'.cell? ⟨w.heap.size, 1, none⟩ = some (.string (mk p)) ∧ w'.cell? ⟨w.heap.size, 2, none⟩ = some (.string (mk n)) ∧ w'.cell? ⟨w.heap.size, 3, none⟩ = some (.bool i) ∧ w'.cell? ⟨w.heap.size, 4, none⟩ = some (.int .i64 st) ∧ w'.cell? ⟨w.heap.size, 5, none⟩ = some (.slice ab fb.length cb) ∧ w.heap.size < w'.heap.size)
      (first | exact Hk.out _ (HxP.out.step (by (repeat (with_reducible first | exact Below.refl _ _ | assumption | refine ba ?_ _ | refine bd ?_ | refine bdN ?_ _ | refine bs ?_ (by first | exact Nat.le_refl _ | (dsimp only; omega) | (simp; done)) _ | refine bt ?_ (by assumption))))) | exact Hk.out _ (HxC.out.step (by (repeat (with_reducible first | exact Below.refl _ _ | assumption | refine ba ?_ _ | refine bd ?_ | refine bdN ?_ _ | refine bs ?_ (by first | exact Nat.le_refl _ | (dsimp only; omega) | (simp; done)) _ | refine bt ?_ (by assumption))))) | exact Hk.out _ (HxB.out.step (by (repeat (with_reducible first | exact Below.refl _ _ | assumption | refine ba ?_ _ | refine bd ?_ | refine bdN ?_ _ | refine bs ?_ (by first | exact Nat.le_refl _ | (dsimp only; omega) | (simp; done)) _ | refine bt ?_ (by assumption))))) | exact Hk.out _ (Hx8.out.step (by (repeat (with_reducible first | exact Below.refl _ _ | assumption | refine ba ?_ _ | refine bd ?_ | refine bdN ?_ _ | refine bs ?_ (by first | exact Nat.le_refl _ | (dsimp only; omega) | (simp; done)) _ | refine bt ?_ (by assumption))))))
      (first
        | (go_at_call 102; refine (impl_copyBody fb _ B' _ (owns_below Hf8.out (by (repeat (with_reducible first | exact Below.refl _ _ | assumption | refine ba ?_ _ | refine bd ?_ | refine bdN ?_ _ | refine bs ?_ (by first | exact Nat.le_refl _ | (dsimp only; omega) | (simp; done)) _ | refine bt ?_ (by assumption))))) hfl).mono ?_; rintro _ wB ⟨aB, cB, rfl, hownB, hbB⟩; have HbB := Lib.hid (show Below w8.heap.size w8 wB by (repeat (with_reducible first | exact Below.refl _ _ | assumption | refine ba ?_ _ | refine bd ?_ | refine bdN ?_ _ | refine bs ?_ (by first | exact Nat.le_refl _ | (dsimp only; omega) | (simp; done)) _ | refine bt ?_ (by assumption)))); have HownB := Lib.hid (owns_mono hownB (show Below w8.heap.size w8 _ by (repeat (with_reducible first | exact Below.refl _ _ | assumption | refine ba ?_ _ | refine bd ?_ | refine bdN ?_ _ | refine bs ?_ (by first | exact Nat.le_refl _ | (dsimp only; omega) | (simp; done)) _ | refine bt ?_ (by assumption)))).size); have HxB := Lib.hid (Hx8.out.step HbB.out); clear hownB hbB)
        | (go_at_call 93; refine (Hcf2.out _ (owns_below (owns_below Hf8.out HbB.out) (by (repeat (with_reducible first | exact Below.refl _ _ | assumption | refine ba ?_ _ | refine bd ?_ | refine bdN ?_ _ | refine bs ?_ (by first | exact Nat.le_refl _ | (dsimp only; omega) | (simp; done)) _ | refine bt ?_ (by assumption)))))).mono ?_; rintro _ wC ⟨nv, rfl, hownC, hbC⟩; have HbC := Lib.hid (show Below wB.heap.size wB wC by (repeat (with_reducible first | exact Below.refl _ _ | assumption | refine ba ?_ _ | refine bd ?_ | refine bdN ?_ _ | refine bs ?_ (by first | exact Nat.le_refl _ | (dsimp only; omega) | (simp; done)) _ | refine bt ?_ (by assumption)))); have HownC := Lib.hid (owns_mono hownC (show Below wB.heap.size wB _ by (repeat (with_reducible first | exact Below.refl _ _ | assumption | refine ba ?_ _ | refine bd ?_ | refine bdN ?_ _ | refine bs ?_ (by first | exact Nat.le_refl _ | (dsimp only; omega) | (simp; done)) _ | refine bt ?_ (by assumption)))).size); have HxC := Lib.hid (HxB.out.step HbC.out); have HszC := Lib.hid (Nat.le_trans (Nat.le_trans Hs67.out Hs78.out) HbB.out.size); have HapC := Lib.hid (apart_later (Hown8.out.below HbB.out).2 HownC.out); have HqC := Lib.hid (Hown8.out.below (bt HbB.out HbC.out)); have HnvC := Lib.hid (owns_mono HownC.out HszC.out); clear hownC hbC)
        | (go_at_call 103; refine (impl_putCompiled _ qs r m i mode st sz hh fb nv w6.heap.size _ (HqC.out.below (by (repeat (with_reducible first | exact Below.refl _ _ | assumption | refine ba ?_ _ | refine bd ?_ | refine bdN ?_ _ | refine bs ?_ (by first | exact Nat.le_refl _ | (dsimp only; omega) | (simp; done)) _ | refine bt ?_ (by assumption))))) (Nat.le_trans (Nat.le_trans HszC.out HbC.out.size) (show Below wC.heap.size wC _ by (repeat (with_reducible first | exact Below.refl _ _ | assumption | refine ba ?_ _ | refine bd ?_ | refine bdN ?_ _ | refine bs ?_ (by first | exact Nat.le_refl _ | (dsimp only; omega) | (simp; done)) _ | refine bt ?_ (by assumption)))).size) (owns_below HnvC.out (by (repeat (with_reducible first | exact Below.refl _ _ | assumption | refine ba ?_ _ | refine bd ?_ | refine bdN ?_ _ | refine bs ?_ (by first | exact Nat.le_refl _ | (dsimp only; omega) | (simp; done)) _ | refine bt ?_ (by assumption))))) HapC.out (by rw [Hqs.out]; exact Hz80.out) (by rw [Hqs.out]; exact H1.out) hvn (by omega)).mono ?_; rintro _ wP ⟨vP, psP, rfl, hpsP, hownP, hgP, hinP⟩; obtain ⟨pa, pc, rfl⟩ := hownP.len; have HgP := Lib.hid (pb_trans (pb_below (show Below wC.heap.size wC _ by (repeat (with_reducible first | exact Below.refl _ _ | assumption | refine ba ?_ _ | refine bd ?_ | refine bdN ?_ _ | refine bs ?_ (by first | exact Nat.le_refl _ | (dsimp only; omega) | (simp; done)) _ | refine bt ?_ (by assumption)))) _) hgP); have HownP := Lib.hid hownP; have HpsP := Lib.hid hpsP; have HinP := Lib.hid hinP; have HxP := Lib.hid (show Boxed w _ _ wP from Below.grown HxC.out HgP.out HxC.out.size (fun g hg => by have h1 := (HqC.out.1.lt g hg).1; have h2 := Hx6l.out; simp; omega)); clear hownP hpsP hgP hinP))
    all_goals
      go_wp2_with fail
      refine bodyPost_ret (v := .tuple #[.slice aB fb.length cB, .slice pa psP.length pc, .bool false]) (by simp [results, Try.results40, go_sem]) rfl ?_
      rw [Hv.out]
      have hPw := (show Below wP.heap.size wP _ by (repeat (with_reducible first | exact Below.refl _ _ | assumption | refine ba ?_ _ | refine bd ?_ | refine bdN ?_ _ | refine bs ?_ (by first | exact Nat.le_refl _ | (dsimp only; omega) | (simp; done)) _ | refine bt ?_ (by assumption))))
      refine ⟨_, _, psP, rfl, by rw [HpsP.out, Hqs.out], owns_mono (owns_below (row_keptC (owns_mono (owns_below HownB.out HbC.out) (Nat.le_trans Hs67.out Hs78.out)) HqC.out.1 HgP.out) hPw) Hx6.out.below.size, (HownP.out.below hPw).mono Hx6.out.below.size, fun q hq b hb hb' => ?_, (HxP.out.step hPw).below⟩
      rcases HinP.out q hq with hq | hq
      · exact apart_later Hown8.out.2 HownB.out q hq b hb hb'
      · rw [hq] at hb
        have e1 := (owns_block HownC.out hb).1
        have e2 := (owns_block HownB.out hb').2
        omega
  · have hk' : k < ps.length := by simpa using hk
    have Hv := Lib.hid (Hhad.out k hk Hus.out.symm)
    rw [← Hans.out, List.getElem_map] at Hv
    have hrow8 := owns_below H.out.1 Hx8.out.below
    obtain ⟨g, cap, e1, hg, hg2⟩ := H.out.1.form (by omega)
    simp only [Value.slice.injEq] at e1
    obtain ⟨rfl, _, rfl⟩ := e1
    obtain ⟨⟨c0, c1, c2, c3, c4, c5, c6, c7⟩, _⟩ := own8 hrow8 k hk'
    have Hbody := Lib.hid ((H.out.below Hx8.out.below).2.1 _ (List.getElem_mem hk'))
    have Hbk := Lib.hid (Hbl.out _ (List.getElem_mem hk'))
    have hk1 : (k : Int) < (ps.length : Int) := by omega
    have hk0 : (0 : Int) ≤ (k : Int) := by omega
    have hkn : ((k : Int) == -1) = false := by rw [beq_eq_false_iff_ne]; omega
    have hkm : ((k : Int) = -1) = False := eq_false (by omega)
    obtain ⟨q, hq⟩ : ∃ q, q = ps[k] := ⟨_, rfl⟩
    rw [← hq] at c7 Hbody Hbk Hv
    clear c0 c1 c2 c3 c4 c5 c6 hq hrow8
    obtain ⟨⟨x0, x1, x2, x3, x4, x5, x6, cb'⟩, qv⟩ := q
    dsimp only at c7 Hbody Hbk Hv
    obtain ⟨qa, qc, rfl⟩ := owns_shape Hbody.out
    go_wp2_with (go_at_call 102; refine (impl_copyBody cb' _ B _ Hbody.out Hbk.out).mono ?_; rintro _ w9 ⟨a9, c9, rfl, hown9, hb9⟩)
    have Hown9 := Lib.hid hown9
    refine bodyPost_ret (v := .tuple #[.slice a9 cb'.length c9, .slice sa qs.length sc, .bool true]) (by simp [results, Try.results40, go_sem]) rfl ?_
    rw [Hv.out]
    exact ⟨_, _, qs, rfl, Hqs.out, owns_mono Hown9.out (Hx8.out.below.size), (Hown8.out.below hb9).mono (Hx6.out.below.size), apart_later Hown8.out.2 Hown9.out, bt Hx8.out.below hb9⟩

/-! ### The contract of the model's loadBody. -/
theorem box_after {W w' : World} {row : Option Nat} {b j : Nat} {u : Value} (h : W.cell? ⟨b, j, none⟩ = some u) (hg : W.grownBy w' row) (hb : b < W.heap.size) (hne : some b ≠ row) : w'.cell? ⟨b, j, none⟩ = some u := by
  rw [World.cell?_of_block (w := W) (hg.block b hb hne)]; exact h
/-- What loadBody comes to: a body that reads as told, the store, its rows from block B on, and whether the store had it. -/
def LoadAt (B : Nat) (v : Value) (r : List Stm × List Cmp × Bool) (w : World) (e : Ending) (w' : World) : Prop :=
  ∃ bv v' ps', e = .returned (.tuple #[bv, v', .bool r.2.2]) ∧ ps'.map (·.1) = r.2.1 ∧ OwnCmps w' B v' ps' ∧ w'.ownsRow 0 124 5 bv r.1.length (r.1.flatMap stmCells) ∧ w.grownBy w' v.ownBlock
set_option maxRecDepth 100000 in
set_option maxHeartbeats 4000000 in
theorem spec_loadBody (v : Value) (ps : List (Cmp × Value)) (r st : Int) (p n : Bs) (i : Bool) (bv : Value) (fb : List Stm) (mode : Int) (B B' : Nat) (w : World) (h : OwnCmps w B v ps) (hB : B ≤ w.heap.size) (hs : okStore (ps.map (·.1)) = true)
    (hf : w.ownsRow B' 124 5 bv fb.length (fb.flatMap stmCells)) (hzf : ShortF 1048576 ⟨r, p, n, i, st, fb⟩) (hfl : fb.length ≤ 1048576) (hok : okFil ⟨r, p, n, i, st, fb⟩ = true) (hmo : inr mode 0 2 = true) :
    Calls Try.prog 105 #[v, .agg #[.int .i64 r, .string (mk p), .string (mk n), .bool i, .int .i64 st, bv], .int .i64 mode] w (LoadAt B v (loadB (ps.map (·.1)) ⟨r, p, n, i, st, fb⟩ mode) w) := by
  obtain ⟨i0, hi, hy0, hy1, hy2⟩ := info_parts infoCmp
  have Hi := Lib.hid hi
  have Hz0 := Lib.hid hy0
  have Hz1 := Lib.hid hy1
  have Hz2 := Lib.hid hy2
  obtain ⟨hz1, hz2, hz3⟩ := id hzf
  dsimp only at hz1 hz2 hz3
  have H := Lib.hid h
  have Hr := Lib.hid (h.fils (D := fun _ => True) (fun _ _ => trivial))
  have Hf := Lib.hid hf
  have Hf0 := Lib.hid (owns_mono hf (Nat.zero_le B'))
  have Hfs := Lib.hid (show StmsIn w (fun _ => True) bv fb from StmsIn.of_owns hf (fun _ _ => trivial))
  have Hzf := Lib.hid hzf
  have Hz8 := Lib.hid (short_mono (B := 8000000) (by omega) hz3)
  have h12 : ps.length ≤ 12 := by simpa using (okStore_facts hs).2.2
  have Hos := Lib.hid hs
  have Hok := Lib.hid hok
  have Hobody := Lib.hid (show okBody fb = true from okFil_body hok)
  obtain ⟨aa, ca, rfl⟩ := h.len
  obtain ⟨ab, cb, rfl⟩ := owns_shape hf
  have Hnew := Lib.hid (fun h => loadB_new (cs := ps.map (·.1)) (f := ⟨r, p, n, i, st, fb⟩) (mode := mode) hs hok hmo h)
  have Hhad := Lib.hid (fun (k : Nat) hk h => loadB_had (cs := ps.map (·.1)) (f := ⟨r, p, n, i, st, fb⟩) (mode := mode) (k := k) hk hs hok hmo h)
  clear h hf hzf hz3 hs hok hmo hi hy0 hy1 hy2
  obtain ⟨W1, hW1⟩ : ∃ W1, W1 = w.alloc (.cells #[.int .i64 r, .string (mk p), .string (mk n), .bool i, .int .i64 st, .slice ab fb.length cb] 55) := ⟨_, rfl⟩
  have HbW := Lib.hid (show Below w.heap.size w W1 by rw [hW1]; (repeat (with_reducible first | exact Below.refl _ _ | assumption | refine ba ?_ _ | refine bd ?_ | refine bdN ?_ _ | refine bs ?_ (by first | exact Nat.le_refl _ | (dsimp only; omega) | (simp; done)) _ | refine bt ?_ (by assumption))))
  have Hx1 := Lib.hid (show Boxed w #[.int .i64 r, .string (mk p), .string (mk n), .bool i, .int .i64 st, .slice ab fb.length cb] 55 W1 by rw [hW1]; exact Boxed.start w _ _)
  have HWe := Lib.hid hW1
  clear hW1
  have Hk := Lib.hid (fun (w' : World) (hC : Boxed w #[.int .i64 r, .string (mk p), .string (mk n), .bool i, .int .i64 st, .slice ab fb.length cb] 55 w') => (⟨hC.cell 0, hC.cell 1, hC.cell 2, hC.cell 3, hC.cell 4, hC.cell 5, hC.lt⟩ : w'.cell? ⟨w.heap.size, 0, none⟩ = some (.int .i64 r) ∧ w'.cell? ⟨w.heap.size, 1, none⟩ = some (.string (mk p)) ∧ w'.cell? ⟨w.heap.size, 2, none⟩ = some (.string (mk n)) ∧ w'.cell? ⟨w.heap.size, 3, none⟩ = some (.bool i) ∧ w'.cell? ⟨w.heap.size, 4, none⟩ = some (.int .i64 st) ∧ w'.cell? ⟨w.heap.size, 5, none⟩ = some (.slice ab fb.length cb) ∧ w.heap.size < w'.heap.size))
  obtain ⟨nm, hnm⟩ : ∃ m, m = modName ⟨r, p, n, i, st, fb⟩ := ⟨_, rfl⟩
  have Hnm := Lib.hid hnm
  obtain ⟨kk, hkk⟩ : ∃ q, q = keyAt cplace (ps.map (·.1)) (r, nm, i) := ⟨_, rfl⟩
  have Hkk := Lib.hid hkk
  have Hfpl := Lib.hid (show fplace ⟨r, p, n, i, st, fb⟩ = (r, nm, i) by rw [hnm]; rfl)
  obtain ⟨sz, hsz⟩ : ∃ m : Int, m = (sizeSum fb : Int) := ⟨_, rfl⟩
  obtain ⟨hh, hhh⟩ : ∃ m : Int, m = hashOf fb := ⟨_, rfl⟩
  have Hce := Lib.hid (show compiled ⟨r, p, n, i, st, fb⟩ mode = ⟨r, nm, i, mode, st, sz, hh, fb⟩ by rw [hnm, hsz, hhh]; rfl)
  have Hcf := Lib.hid (fun (W : World) (hW : W.ownsRow B' 124 5 (.slice ab fb.length cb) fb.length (fb.flatMap stmCells)) => (show Calls Try.prog 85 #[.agg #[.int .i64 r, .string (mk p), .string (mk n), .bool i, .int .i64 st, .slice ab fb.length cb], .int .i64 mode] W (fun e w'' => ∃ nv, e = .returned (.agg #[.int .i64 r, .string (mk nm), .bool i, .int .i64 mode, .int .i64 st, .int .i64 sz, .int .i64 hh, nv]) ∧ w''.ownsRow W.heap.size 124 5 nv fb.length (fb.flatMap stmCells) ∧ Below W.heap.size W w'') by
    have q := spec_compiled r st p n i _ fb mode B' W hW Hzf.out hfl Hobody.out
    rw [Hce.out] at q
    exact q))
  rw [Hce.out] at Hnew
  clear hnm hkk hsz hhh
  go_enter Try.func105, Try.ntmps105
  go_upto_region 1 with fail
  rw [← HWe.out]
  have j0 := cell_regrown (show W1.cell? ⟨w.heap.size, 0, none⟩ = some (.int .i64 r) from Hx1.out.cell 0)
  have j1 := cell_regrown (show W1.cell? ⟨w.heap.size, 1, none⟩ = some (.string (mk p)) from Hx1.out.cell 1)
  have j2 := cell_regrown (show W1.cell? ⟨w.heap.size, 2, none⟩ = some (.string (mk n)) from Hx1.out.cell 2)
  have j3 := cell_regrown (show W1.cell? ⟨w.heap.size, 3, none⟩ = some (.bool i) from Hx1.out.cell 3)
  have j4 := cell_regrown (show W1.cell? ⟨w.heap.size, 4, none⟩ = some (.int .i64 st) from Hx1.out.cell 4)
  have j5 := cell_regrown (show W1.cell? ⟨w.heap.size, 5, none⟩ = some (.slice ab fb.length cb) from Hx1.out.cell 5)
  have cM : ∀ d os, Calls Try.prog 60 #[.agg #[.int .i64 r, .string (mk p), .string (mk n), .bool i, .int .i64 st, .slice ab fb.length cb]] (grow (redrawn W1 d) os) fun e w'' => e = .returned (.string (mk nm)) ∧ ∃ p : Regrown, w'' = grow (redrawn W1 p.d) p.os := fun d os =>
    Calls.regrown_of (by rw [Hnm.out]; exact spec_moduleName r st p n i _ fb _ (by omega) (by omega))
  have cA : ∀ d os, Calls Try.prog 109 #[.slice aa ps.length ca, .int .i64 r, .string (mk nm), .bool i] (grow (redrawn W1 d) os) fun e w'' => e = .returned (.int .i64 kk) ∧ ∃ p : Regrown, w'' = grow (redrawn W1 p.d) p.os := fun d os =>
    Calls.regrown_of (by rw [Hkk.out]; exact spec_compiledAt aa ps.length ca (ps.map (·.1)) (fun _ => True) r nm i _ (Hr.out.below (bt HbW.out (below_regrown W1 d os))))
  refine wp_region_quiet_below (by kernel_rfl) (by kernel_rfl) ?_
  repeat (go_big_quiet_step (first | exact cM _ _ | exact cA _ _))
  refine wpQuiet_nil ?_
  intro _ hw'
  obtain ⟨⟨dq, osq⟩, hw2⟩ := hw'
  obtain ⟨W2, hW2⟩ : ∃ W, W = grow (redrawn W1 dq) osq := ⟨_, rfl⟩
  rw [hw2, ← hW2]
  have Hx2 := Lib.hid (Hx1.out.step (show Below W1.heap.size W1 W2 by rw [hW2]; exact below_regrown W1 dq osq))
  clear hw2 hW2
  clear cM cA j0 j1 j2 j3 j4 j5
  have hrg := keyAt_is (key := cplace) (ps.map (·.1)) (r, nm, i)
  rw [← Hkk.out] at hrg
  rcases hrg with ⟨rfl, _⟩ | ⟨q, hq, rfl, hkey, _⟩
  · have Hv := Lib.hid (Hnew.out (usAt_none (by rw [Hfpl.out]; exact Hkk.out.symm)))
    have Hkey := Lib.hid (show keyAt cplace (ps.map (·.1)) (cplace ⟨r, nm, i, mode, st, sz, hh, fb⟩) = -1 from Hkk.out.symm)
    have hzz : decide ((0 : Int) ≤ -1) = false := by decide
    go_wp2_with fail
    refine wp_region_quiet_below (by kernel_rfl) (by kernel_rfl) ?_
    repeat (go_big_quiet_step (fail))
    refine wpQuiet_nil ?_
    intro _ hw'
    obtain ⟨⟨dq, osq⟩, hw2⟩ := hw'
    obtain ⟨W8, hW8⟩ : ∃ W, W = grow (redrawn W2 dq) osq := ⟨_, rfl⟩
    rw [hw2, ← hW8]
    have Hx8 := Lib.hid (Hx2.out.step (show Below W2.heap.size W2 W8 by rw [hW8]; exact below_regrown W2 dq osq))
    clear hw2 hW8
    obtain ⟨d0, d1, d2, d3, d4, d5, zs⟩ := Hk.out _ Hx8.out
    go_upto_region 5 with (go_at_call 85; refine (Hcf.out _ (owns_below Hf.out Hx8.out.below)).mono ?_; rintro _ w9 ⟨nv, rfl, hown9, hb9⟩; obtain ⟨na, nc, rfl⟩ := owns_shape hown9; have Hown9 := Lib.hid hown9; have Hb9 := Lib.hid hb9; clear hown9 hb9)
    obtain ⟨W9, hW9⟩ : ∃ W, W = w9.alloc (.cells #[.int .i64 r, .string (mk nm), .bool i, .int .i64 mode, .int .i64 st, .int .i64 sz, .int .i64 hh, .slice na fb.length nc] 53) := ⟨_, rfl⟩
    have Hy9 := Lib.hid (show Boxed w9 #[.int .i64 r, .string (mk nm), .bool i, .int .i64 mode, .int .i64 st, .int .i64 sz, .int .i64 hh, .slice na fb.length nc] 53 W9 by rw [hW9]; exact Boxed.start w9 _ _)
    rw [← hW9]
    clear hW9
    have Hx9 := Lib.hid (Hx8.out.step (bt Hb9.out Hy9.out.below))
    have Hb09 := Lib.hid Hx9.out.below
    have Hap := Lib.hid (apart_later (H.out.2.below Hx8.out.below) Hown9.out)
    have Hn9 := Lib.hid (owns_below (owns_mono Hown9.out (Nat.le_trans hB Hx8.out.below.size)) Hy9.out.below)
    have Hr9 := Lib.hid (owns_below H.out.1 Hb09.out)
    clear d0 d1 d2 d3 d4 d5 zs
    obtain ⟨d0, d1, d2, d3, d4, d5, zs⟩ := Hk.out _ Hx9.out
    obtain ⟨e0, e1, e2, e3, e4, e5, e6, e7⟩ := eight_of Hy9.out
    have ys := Hy9.out.lt
    by_cases hl : ps.length = 12
    · have H12 := Lib.hid (show OwnCmps w B (.slice aa 12 ca) ps by have q := H.out; rwa [hl] at q)
      have Hpc := Lib.hid (putC_full Hkey.out (show (ps.map (·.1)).length = 12 by simpa using hl))
      rw [hl]
      clear hl h12
      go_wp2_with fail
      refine bodyPost_ret (v := .tuple #[.slice ab fb.length cb, .slice aa 12 ca, .bool false]) (by simp [results, Try.results105, go_sem]) rfl ?_
      rw [Hv.out]
      exact ⟨_, _, ps, rfl, Hpc.out.symm, H12.out.below Hb09.out, owns_below Hf0.out Hb09.out, pb_below Hb09.out _⟩
    · have hlt : (ps.length : Int) < 12 := by omega
      have Hpc := Lib.hid (putC_new Hkey.out (show (ps.map (·.1)).length ≠ 12 by simpa using hl))
      go_wp2_with (at_builtin; refine wpList_append_own _ rfl _ _ 28 rfl B 53 i0 _ 8 88 Try.underlying28 Hi.out Hz0.out Hz1.out Hz2.out rfl (by decide) _ ps.length _ rfl (owns_below H.out.1 (ba Hb09.out _)) ⟨_, 0, none⟩ 1 1 (cmpCells (⟨r, nm, i, mode, st, sz, hh, fb⟩, .slice na fb.length nc)) rfl rfl ?_ (cmp_one _ ⟨_, _, _, rfl⟩) (by unfold maxLen; omega) (by omega) (by have := Hb09.out.size; simp; omega) ?_; (exact ct_cells _ (cmpCells (⟨r, nm, i, mode, st, sz, hh, fb⟩, .slice na fb.length nc)).toArray _ _ (by first | rfl | simp)); intro v7 w7 hown7 hgrow7 hnil7; have Hown7 := Lib.hid hown7; have Hgrow7 := Lib.hid hgrow7; have f5 : w7.cell? ⟨w.heap.size, 5, none⟩ = some (.slice ab fb.length cb) := box_after ((Hx9.out.step (ba (Below.refl _ _) _)).cell 5) hgrow7 (Hx9.out.step (ba (Below.refl _ _) _)).lt (fun e => by have := (H.out.1.lt _ e.symm).2; omega); clear hown7 hgrow7 hnil7)
      have HbX := Lib.hid (show Below w.heap.size w (W9.alloc (.cells (cmpCells (⟨r, nm, i, mode, st, sz, hh, fb⟩, .slice na fb.length nc)).toArray 53)) from ba Hb09.out _)
      have HrX := Lib.hid (owns_below H.out.1 HbX.out)
      have HnX := Lib.hid (Hn9.out.alloc (.cells (cmpCells (⟨r, nm, i, mode, st, sz, hh, fb⟩, .slice na fb.length nc)).toArray 53))
      refine bodyPost_ret (v := .tuple #[.slice ab fb.length cb, v7, .bool false]) (by simp [results, Try.results105, go_sem]) rfl ?_
      rw [Hv.out]
      refine ⟨_, v7, ps ++ [(⟨r, nm, i, mode, st, sz, hh, fb⟩, .slice na fb.length nc)], rfl, by rw [Hpc.out]; simp, ⟨by have h := Hown7.out; simpa using h, bodies_app (cbods_grown (H.out.2.below HbX.out) Hgrow7.out (fun b hb p hp => own_types (by decide) HrX.out ((H.out.2.below HbX.out).1 p hp) hb)) (row_keptC HnX.out HrX.out Hgrow7.out) Hap.out⟩, row_keptC (owns_below Hf0.out HbX.out) (owns_mono HrX.out (Nat.zero_le B)) Hgrow7.out, pb_trans (pb_below HbX.out _) Hgrow7.out⟩
  · have hq' : q < ps.length := by simpa using hq
    have hq1 : (q : Int) < (ps.length : Int) := by omega
    have hq0 : (0 : Int) ≤ (q : Int) := by omega
    have hqd : decide ((0 : Int) ≤ (q : Int)) = true := decide_eq_true hq0
    have hokc := (okStore_facts Hos.out).1 _ (List.getElem_mem hq)
    have Hus1 := Lib.hid (show isUsable (ps.map (·.1))[q] ⟨r, p, n, i, st, fb⟩ = usable (ps.map (·.1))[q] ⟨r, p, n, i, st, fb⟩ by
      unfold isUsable; rw [hokc, Hok.out, Hfpl.out, hkey]; simp)
    have Hbad := Lib.hid (fun (hu : isUsable (ps.map (·.1))[q] ⟨r, p, n, i, st, fb⟩ = false) => Hnew.out (usAt_bad (f := ⟨r, p, n, i, st, fb⟩) hq (by rw [Hfpl.out]; exact Hkk.out.symm) hu))
    have Hgood := Lib.hid (fun (hu : isUsable (ps.map (·.1))[q] ⟨r, p, n, i, st, fb⟩ = true) => Hhad.out q hq (usAt_good (f := ⟨r, p, n, i, st, fb⟩) hq (by rw [Hfpl.out]; exact Hkk.out.symm) hu))
    have Hkey := Lib.hid (show keyAt cplace (ps.map (·.1)) (cplace ⟨r, nm, i, mode, st, sz, hh, fb⟩) = (q : Int) from Hkk.out.symm)
    obtain ⟨g, cap, e1, hg, hg2⟩ := H.out.1.form (by omega)
    simp only [Value.slice.injEq] at e1
    obtain ⟨rfl, _, rfl⟩ := e1
    have hgw := (H.out.1.lt g rfl).2
    have Hr2 := Lib.hid (owns_below H.out.1 Hx2.out.below)
    obtain ⟨⟨c0, c1, c2, c3, c4, c5, c6, c7⟩, _⟩ := own8 Hr2.out q hq'
    have Hbody := Lib.hid ((H.out.2.below Hx2.out.below).1 _ (List.getElem_mem hq'))
    rw [List.getElem_map] at Hus1 Hbad Hgood
    obtain ⟨x, hx⟩ : ∃ x, x = ps[q] := ⟨_, rfl⟩
    rw [← hx] at c0 c1 c2 c3 c4 c5 c6 c7 Hbody Hus1 Hbad Hgood
    clear hx hokc hkey
    obtain ⟨⟨x0, x1, x2, x3, x4, x5, x6, x7⟩, xv⟩ := x
    dsimp only at c0 c1 c2 c3 c4 c5 c6 c7 Hbody Hgood
    obtain ⟨cva, cvc, rfl⟩ := owns_shape Hbody.out
    obtain ⟨us, hus⟩ : ∃ u, u = usable ⟨x0, x1, x2, x3, x4, x5, x6, x7⟩ ⟨r, p, n, i, st, fb⟩ := ⟨_, rfl⟩
    have Hus := Lib.hid hus
    clear hus
    have Hc7 := Lib.hid c7
    have k0 := cell_regrown c0
    have k1 := cell_regrown c1
    have k2 := cell_regrown c2
    have k3 := cell_regrown c3
    have k4 := cell_regrown c4
    have k5 := cell_regrown c5
    have k6 := cell_regrown c6
    have k7 := cell_regrown c7
    have j0 := cell_regrown (show W2.cell? ⟨w.heap.size, 0, none⟩ = some (.int .i64 r) from Hx2.out.cell 0)
    have j1 := cell_regrown (show W2.cell? ⟨w.heap.size, 1, none⟩ = some (.string (mk p)) from Hx2.out.cell 1)
    have j2 := cell_regrown (show W2.cell? ⟨w.heap.size, 2, none⟩ = some (.string (mk n)) from Hx2.out.cell 2)
    have j3 := cell_regrown (show W2.cell? ⟨w.heap.size, 3, none⟩ = some (.bool i) from Hx2.out.cell 3)
    have j4 := cell_regrown (show W2.cell? ⟨w.heap.size, 4, none⟩ = some (.int .i64 st) from Hx2.out.cell 4)
    have j5 := cell_regrown (show W2.cell? ⟨w.heap.size, 5, none⟩ = some (.slice ab fb.length cb) from Hx2.out.cell 5)
    clear c0 c1 c2 c3 c4 c5 c6 c7
    have cU : ∀ d os, Calls Try.prog 95 #[.agg #[.int .i64 x0, .string (mk x1), .bool x2, .int .i64 x3, .int .i64 x4, .int .i64 x5, .int .i64 x6, .slice cva x7.length cvc], .agg #[.int .i64 r, .string (mk p), .string (mk n), .bool i, .int .i64 st, .slice ab fb.length cb]] (grow (redrawn W2 d) os) fun e w'' => e = .returned (.bool us) ∧ ∃ p : Regrown, w'' = grow (redrawn W2 p.d) p.os := fun d os =>
      Calls.regrown_of (by rw [Hus.out]; exact spec_usable x0 x1 x2 x3 x4 x5 x6 _ x7 r st p n i _ fb (fun _ => True) _ (Hfs.out.below (bt Hx2.out.below (below_regrown W2 d os))) Hz8.out Hobody.out)
    cases us
    all_goals
      go_wp2_with fail
      refine wp_region_quiet_below (by kernel_rfl) (by kernel_rfl) ?_
      repeat (go_big_quiet_step (exact cU _ _))
      refine wpQuiet_nil ?_
      intro _ hw'
      obtain ⟨⟨dq, osq⟩, hw2⟩ := hw'
      obtain ⟨W8, hW8⟩ : ∃ W, W = grow (redrawn W2 dq) osq := ⟨_, rfl⟩
      rw [hw2, ← hW8]
      have H28 := Lib.hid (show Below W2.heap.size W2 W8 by rw [hW8]; exact below_regrown W2 dq osq)
      have Hx8 := Lib.hid (Hx2.out.step H28.out)
      clear hw2 hW8 cU k0 k1 k2 k3 k4 k5 k6 k7 j0 j1 j2 j3 j4 j5
      obtain ⟨d0, d1, d2, d3, d4, d5, zs⟩ := Hk.out _ Hx8.out
    · have Hv := Lib.hid (Hbad.out (by rw [Hus1.out, ← Hus.out]))
      go_upto_region 5 with (go_at_call 85; refine (Hcf.out _ (owns_below Hf.out Hx8.out.below)).mono ?_; rintro _ w9 ⟨nv, rfl, hown9, hb9⟩; obtain ⟨na, nc, rfl⟩ := owns_shape hown9; have Hown9 := Lib.hid hown9; have Hb9 := Lib.hid hb9; clear hown9 hb9)
      obtain ⟨W9, hW9⟩ : ∃ W, W = w9.alloc (.cells #[.int .i64 r, .string (mk nm), .bool i, .int .i64 mode, .int .i64 st, .int .i64 sz, .int .i64 hh, .slice na fb.length nc] 53) := ⟨_, rfl⟩
      have Hy9 := Lib.hid (show Boxed w9 #[.int .i64 r, .string (mk nm), .bool i, .int .i64 mode, .int .i64 st, .int .i64 sz, .int .i64 hh, .slice na fb.length nc] 53 W9 by rw [hW9]; exact Boxed.start w9 _ _)
      rw [← hW9]
      clear hW9
      have Hx9 := Lib.hid (Hx8.out.step (bt Hb9.out Hy9.out.below))
      have Hb09 := Lib.hid Hx9.out.below
      have Hap := Lib.hid (apart_later (H.out.2.below Hx8.out.below) Hown9.out)
      have Hn9 := Lib.hid (owns_below (owns_mono Hown9.out (Nat.le_trans hB Hx8.out.below.size)) Hy9.out.below)
      have Hr9 := Lib.hid (owns_below H.out.1 Hb09.out)
      clear d0 d1 d2 d3 d4 d5 zs
      obtain ⟨d0, d1, d2, d3, d4, d5, zs⟩ := Hk.out _ Hx9.out
      obtain ⟨e0, e1, e2, e3, e4, e5, e6, e7⟩ := eight_of Hy9.out
      have ys := Hy9.out.lt
      have Hpc := Lib.hid (putC_at (cs := ps.map (·.1)) (c := ⟨r, nm, i, mode, st, sz, hh, fb⟩) Hkey.out)
      have Hput := Lib.hid (own8_put Hr9.out q hq' (⟨r, nm, i, mode, st, sz, hh, fb⟩, .slice na fb.length nc))
      have Hg8 := Lib.hid (grown_set8 (grown_set8 (grown_set8 (grown_set8 (grown_set8 (grown_set8 (grown_set8 (grown_set8 (pb_refl W9 (some g)) (q * 8) (.int .i64 r)) (q * 8 + 1) (.string (mk nm))) (q * 8 + 2) (.bool i)) (q * 8 + 3) (.int .i64 mode)) (q * 8 + 4) (.int .i64 st)) (q * 8 + 5) (.int .i64 sz)) (q * 8 + 6) (.int .i64 hh)) (q * 8 + 7) (.slice na fb.length nc))
      obtain ⟨⟨c0, c1, c2, c3, c4, c5, c6, c7⟩, z0, z1, z2, z3, z4, z5, z6, z7⟩ := own8 Hr9.out q hq'
      have n1 : g ≠ w.heap.size := by omega
      have n2 : w.heap.size ≠ g := by omega
      go_wp2_with fail
      refine bodyPost_ret (v := .tuple #[.slice ab fb.length cb, .slice (some ⟨g, 0, none⟩) ps.length ca, .bool false]) (by simp [results, Try.results105, go_sem]) rfl ?_
      rw [Hv.out]
      refine ⟨_, _, ps.set q (⟨r, nm, i, mode, st, sz, hh, fb⟩, .slice na fb.length nc), rfl, by rw [Hpc.out, List.map_set], ⟨by rw [List.length_set]; exact Hput.out, bodies_set (H.out.2.below Hb09.out) Hg8.out (fun b hb p hp => own_types (by decide) Hr9.out ((H.out.2.below Hb09.out).1 p hp) hb) (row_keptC Hn9.out Hr9.out Hg8.out) Hap.out q⟩, row_keptC (owns_below Hf0.out Hb09.out) (owns_mono Hr9.out (Nat.zero_le B)) Hg8.out, pb_trans (pb_below Hb09.out _) Hg8.out⟩
    · have Hv := Lib.hid (Hgood.out (by rw [Hus1.out, ← Hus.out]))
      obtain ⟨⟨c0, c1, c2, c3, c4, c5, c6, c7⟩, _⟩ := own8 (owns_below H.out.1 Hx8.out.below) q hq'
      have c7' : W8.cell? ⟨g, q * 8 + 7, none⟩ = some (.slice cva x7.length cvc) := (H28.out.cell (p := ⟨g, q * 8 + 7, none⟩) (by have := Hx2.out.lt; dsimp only; omega)).trans Hc7.out
      clear c0 c1 c2 c3 c4 c5 c6 c7
      go_wp2_with fail
      refine bodyPost_ret (v := .tuple #[.slice cva x7.length cvc, .slice (some ⟨g, 0, none⟩) ps.length ca, .bool true]) (by simp [results, Try.results105, go_sem]) rfl ?_
      rw [Hv.out]
      exact ⟨_, _, ps, rfl, rfl, H.out.below Hx8.out.below, owns_below (owns_mono Hbody.out (Nat.zero_le B)) H28.out, pb_below Hx8.out.below _⟩
theorem loadB_len (cs : List Cmp) (f : Fil) (mode : Int) (B : Nat) (h : ∀ c ∈ cs, c.body.length ≤ B) (hf : f.body.length ≤ B) : (loadB cs f mode).1.length ≤ B := by
  unfold loadB
  split
  · split
    · rename_i c hc
      split
      · exact h c (List.mem_of_getElem? hc)
      · exact hf
    · exact hf
  · exact Nat.zero_le _
set_option maxRecDepth 100000 in
set_option maxHeartbeats 4000000 in
theorem spec_LoadBody (v : Value) (ps : List (Cmp × Value)) (r st : Int) (p n : Bs) (i : Bool) (bv : Value) (fb : List Stm) (mode : Int) (B B' : Nat) (w : World) (h : RowsC8 w B v ps) (hz : ShortCs 1048576 (ps.map (·.1))) (hl : ps.length ≤ 1048576) (hbl : ∀ p ∈ ps, p.1.body.length ≤ 1048576)
    (hf : w.ownsRow B' 124 5 bv fb.length (fb.flatMap stmCells)) (hzf : ShortF 1048576 ⟨r, p, n, i, st, fb⟩) (hfl : fb.length ≤ 1048576) :
    Calls Try.prog 41 #[v, .agg #[.int .i64 r, .string (mk p), .string (mk n), .bool i, .int .i64 st, bv], .int .i64 mode] w (NewLoad (loadB (ps.map (·.1)) ⟨r, p, n, i, st, fb⟩ mode) w) := by
  obtain ⟨i1, hi1, hy0, hy1, hy2⟩ := info_parts infoStm
  have Hi1 := Lib.hid hi1
  have Hy0 := Lib.hid hy0
  have Hy1 := Lib.hid hy1
  have Hy2 := Lib.hid hy2
  clear hi1 hy0 hy1 hy2
  obtain ⟨hz1, hz2, hz3⟩ := id hzf
  dsimp only at hz1 hz2 hz3
  have H := Lib.hid h
  have Hbl := Lib.hid hbl
  have Hr := Lib.hid (h.fils (D := fun _ => True) (fun _ _ => trivial))
  have Hz := Lib.hid hz
  have Hz20 := Lib.hid (shortCs_mono (B := 2000000) (by omega) hz)
  have Hz80 := Lib.hid (shortCs_mono (B := 8000000) (by omega) hz)
  have Hf := Lib.hid hf
  have Hfs := Lib.hid (show StmsIn w (fun _ => True) bv fb from StmsIn.of_owns hf (fun _ _ => trivial))
  have Hzf := Lib.hid hzf
  have Hz8 := Lib.hid (short_mono (B := 8000000) (by omega) hz3)
  obtain ⟨aa, ca, rfl⟩ := h.len
  obtain ⟨ab, cb, rfl⟩ := owns_shape hf
  clear h hbl hz hf hzf hz3
  obtain ⟨W0, hW0⟩ : ∃ W, W = w.alloc (.cells #[.int .i64 r, .string (mk p), .string (mk n), .bool i, .int .i64 st, .slice ab fb.length cb] 55) := ⟨_, rfl⟩
  have Hx0 := Lib.hid (show Boxed w #[.int .i64 r, .string (mk p), .string (mk n), .bool i, .int .i64 st, .slice ab fb.length cb] 55 W0 by rw [hW0]; exact Boxed.start w _ _)
  have HWe := Lib.hid hW0
  clear hW0
  have Hk := Lib.hid (fun (w' : World) (hC : Boxed w #[.int .i64 r, .string (mk p), .string (mk n), .bool i, .int .i64 st, .slice ab fb.length cb] 55 w') => (⟨hC.cell 0, hC.cell 1, hC.cell 2, hC.cell 3, hC.cell 4, hC.cell 5, hC.lt⟩ : w'.cell? ⟨w.heap.size, 0, none⟩ = some (.int .i64 r) ∧ w'.cell? ⟨w.heap.size, 1, none⟩ = some (.string (mk p)) ∧ w'.cell? ⟨w.heap.size, 2, none⟩ = some (.string (mk n)) ∧ w'.cell? ⟨w.heap.size, 3, none⟩ = some (.bool i) ∧ w'.cell? ⟨w.heap.size, 4, none⟩ = some (.int .i64 st) ∧ w'.cell? ⟨w.heap.size, 5, none⟩ = some (.slice ab fb.length cb) ∧ w.heap.size < w'.heap.size))
  obtain ⟨ans, hans⟩ : ∃ x, x = loadB (ps.map (·.1)) ⟨r, p, n, i, st, fb⟩ mode := ⟨_, rfl⟩
  rw [← hans]
  have Hans := Lib.hid hans
  clear hans
  cases h1 : okStore (ps.map (·.1))
  · have H1 := Lib.hid h1
    have Hn := Lib.hid (show ans = ([], [], false) by rw [Hans.out]; exact loadB_none (by rw [h1]; rfl))
    clear h1
    go_enter Try.func41, Try.ntmps41
    go_upto_region 1 with fail
    rw [← HWe.out]
    go_wp2_with (go_at_call 58; refine (spec_validStore _ _ _ _ (Hr.out.below Hx0.out.below) Hz20.out).mono ?_; rintro _ w5 ⟨rfl, hb5⟩; rw [H1.out])
    refine bodyPost_ret (v := .tuple #[.slice none 0 0, .slice none 0 0, .bool false]) (by simp [results, Try.results41, go_sem]) rfl ?_
    exact newLoad_none Hn.out (bt Hx0.out.below hb5)
  cases h2 : okFil ⟨r, p, n, i, st, fb⟩
  · have H1 := Lib.hid h1
    have H2 := Lib.hid h2
    have Hn := Lib.hid (show ans = ([], [], false) by rw [Hans.out]; exact loadB_none (by rw [h2]; simp))
    clear h1 h2
    go_enter Try.func41, Try.ntmps41
    go_upto_region 1 with fail
    rw [← HWe.out]
    go_wp2_with (first
      | (go_at_call 58; refine (spec_validStore _ _ _ _ (Hr.out.below Hx0.out.below) Hz20.out).mono ?_; rintro _ w5 ⟨rfl, hb5⟩; rw [H1.out]; obtain ⟨d0, d1, d2, d3, d4, d5, zs⟩ := Hk.out _ (Hx0.out.step hb5))
      | (go_at_call 94; refine (spec_validFile r st p n i _ fb (fun _ => True) _ (by omega) (by omega) (Hfs.out.below (bt Hx0.out.below hb5)) Hz8.out).mono ?_; rintro _ w6 ⟨rfl, hb6⟩; rw [H2.out]))
    refine bodyPost_ret (v := .tuple #[.slice none 0 0, .slice none 0 0, .bool false]) (by simp [results, Try.results41, go_sem]) rfl ?_
    exact newLoad_none Hn.out (bt (bt Hx0.out.below hb5) hb6)
  cases h3 : inr mode 0 2
  · have H1 := Lib.hid h1
    have H2 := Lib.hid h2
    have H3 := Lib.hid h3
    have Hn := Lib.hid (show ans = ([], [], false) by rw [Hans.out]; exact loadB_none (by rw [h3]; simp))
    clear h1 h2 h3
    go_enter Try.func41, Try.ntmps41
    go_upto_region 1 with fail
    rw [← HWe.out]
    go_wp2_with (first
      | (go_at_call 58; refine (spec_validStore _ _ _ _ (Hr.out.below Hx0.out.below) Hz20.out).mono ?_; rintro _ w5 ⟨rfl, hb5⟩; rw [H1.out]; obtain ⟨d0, d1, d2, d3, d4, d5, zs⟩ := Hk.out _ (Hx0.out.step hb5))
      | (go_at_call 94; refine (spec_validFile r st p n i _ fb (fun _ => True) _ (by omega) (by omega) (Hfs.out.below (bt Hx0.out.below hb5)) Hz8.out).mono ?_; rintro _ w6 ⟨rfl, hb6⟩; rw [H2.out])
      | (go_at_call 104; refine (spec_inRange' mode 0 2 _).mono ?_; rintro _ _ ⟨rfl, rfl⟩; rw [H3.out]))
    refine bodyPost_ret (v := .tuple #[.slice none 0 0, .slice none 0 0, .bool false]) (by simp [results, Try.results41, go_sem]) rfl ?_
    exact newLoad_none Hn.out (bt (bt Hx0.out.below hb5) hb6)
  have H1 := Lib.hid h1
  have H2 := Lib.hid h2
  have H3 := Lib.hid h3
  clear h1 h2 h3
  have hal : ans.1.length ≤ 1048576 := by
    rw [Hans.out]
    exact loadB_len _ _ _ _ (fun c hc => by obtain ⟨q, hq, rfl⟩ := List.mem_map.1 hc; exact Hbl.out q hq) hfl
  obtain ⟨L1, L2, had⟩ := ans
  dsimp only at hal
  go_enter Try.func41, Try.ntmps41
  go_upto_region 1 with fail
  rw [← HWe.out]
  go_upto_region 3 with (first
    | (go_at_call 58; refine (spec_validStore _ _ _ _ (Hr.out.below Hx0.out.below) Hz20.out).mono ?_; rintro _ w5 ⟨rfl, hb5⟩; rw [H1.out]; obtain ⟨d0, d1, d2, d3, d4, d5, zs⟩ := Hk.out _ (Hx0.out.step hb5))
    | (go_at_call 94; refine (spec_validFile r st p n i _ fb (fun _ => True) _ (by omega) (by omega) (Hfs.out.below (bt Hx0.out.below hb5)) Hz8.out).mono ?_; rintro _ w6 ⟨rfl, hb6⟩; rw [H2.out]; have Hx6 := Lib.hid (Hx0.out.step (bt hb5 hb6)); clear hb5 hb6 d0 d1 d2 d3 d4 d5 zs)
    | (go_at_call 104; refine (spec_inRange' mode 0 2 _).mono ?_; rintro _ _ ⟨rfl, rfl⟩; rw [H3.out]))
  go_region_held3 (fun w' => w'.cell? ⟨w.heap.size, 0, none⟩ = some (.int .i64 r) ∧ w'.cell? ⟨w.heap.size, 1, none⟩ = some (.string (mk p)) ∧ w'.cell? ⟨w.heap.size, 2, none⟩ = some (.string (mk n)) ∧ w'.cell? ⟨w.heap.size, 3, none⟩ = some (.bool i) ∧ w'.cell? ⟨w.heap.size, 4, none⟩ = some (.int .i64 st) ∧ w'.cell? ⟨w.heap.size, 5, none⟩ = some (.slice ab fb.length cb) ∧ w.heap.size < w'.heap.size)
    (first | exact Hk.out _ (HxP.out.step (by (repeat (with_reducible first | exact Below.refl _ _ | assumption | refine ba ?_ _ | refine bd ?_ | refine bdN ?_ _ | refine bs ?_ (by first | exact Nat.le_refl _ | (dsimp only; omega) | (simp; done)) _ | refine bt ?_ (by assumption))))) | exact Hk.out _ (Hx7.out.step (by (repeat (with_reducible first | exact Below.refl _ _ | assumption | refine ba ?_ _ | refine bd ?_ | refine bdN ?_ _ | refine bs ?_ (by first | exact Nat.le_refl _ | (dsimp only; omega) | (simp; done)) _ | refine bt ?_ (by assumption))))) | exact Hk.out _ (Hx6.out.step (by (repeat (with_reducible first | exact Below.refl _ _ | assumption | refine ba ?_ _ | refine bd ?_ | refine bdN ?_ _ | refine bs ?_ (by first | exact Nat.le_refl _ | (dsimp only; omega) | (simp; done)) _ | refine bt ?_ (by assumption))))))
    (first
      | (go_at_call 61; refine (spec_copyStore _ ps B _ (H.out.below (bt Hx6.out.below (by (repeat (with_reducible first | exact Below.refl _ _ | assumption | refine ba ?_ _ | refine bd ?_ | refine bdN ?_ _ | refine bs ?_ (by first | exact Nat.le_refl _ | (dsimp only; omega) | (simp; done)) _ | refine bt ?_ (by assumption)))))) hl Hbl.out).mono ?_; rintro _ w7 ⟨sv, qs, rfl, hqs, hown7, hb7⟩; obtain ⟨sa, sc, rfl⟩ := hown7.len; have Hqs := Lib.hid hqs; have Hb7 := Lib.hid (show Below w6.heap.size w6 w7 by (repeat (with_reducible first | exact Below.refl _ _ | assumption | refine ba ?_ _ | refine bd ?_ | refine bdN ?_ _ | refine bs ?_ (by first | exact Nat.le_refl _ | (dsimp only; omega) | (simp; done)) _ | refine bt ?_ (by assumption)))); have Hown7 := Lib.hid (hown7.mono (show Below w6.heap.size w6 _ by (repeat (with_reducible first | exact Below.refl _ _ | assumption | refine ba ?_ _ | refine bd ?_ | refine bdN ?_ _ | refine bs ?_ (by first | exact Nat.le_refl _ | (dsimp only; omega) | (simp; done)) _ | refine bt ?_ (by assumption)))).size); have Hx7 := Lib.hid (Hx6.out.step Hb7.out); clear hqs hown7 hb7)
      | (go_at_call 105; refine (spec_loadBody _ qs r st p n i _ fb mode w6.heap.size B' _ (Hown7.out.below (by (repeat (with_reducible first | exact Below.refl _ _ | assumption | refine ba ?_ _ | refine bd ?_ | refine bdN ?_ _ | refine bs ?_ (by first | exact Nat.le_refl _ | (dsimp only; omega) | (simp; done)) _ | refine bt ?_ (by assumption))))) (Nat.le_trans Hb7.out.size (show Below w7.heap.size w7 _ by (repeat (with_reducible first | exact Below.refl _ _ | assumption | refine ba ?_ _ | refine bd ?_ | refine bdN ?_ _ | refine bs ?_ (by first | exact Nat.le_refl _ | (dsimp only; omega) | (simp; done)) _ | refine bt ?_ (by assumption)))).size) (by rw [Hqs.out]; exact H1.out) (owns_below Hf.out (bt Hx7.out.below (by (repeat (with_reducible first | exact Below.refl _ _ | assumption | refine ba ?_ _ | refine bd ?_ | refine bdN ?_ _ | refine bs ?_ (by first | exact Nat.le_refl _ | (dsimp only; omega) | (simp; done)) _ | refine bt ?_ (by assumption)))))) Hzf.out hfl H2.out H3.out).mono ?_; rw [Hqs.out, ← Hans.out]; rintro _ wP ⟨lv, vP, psP, rfl, hpsP, hownP, hlP, hgP⟩; obtain ⟨pa, pc, rfl⟩ := hownP.len; obtain ⟨la, lc, rfl⟩ := owns_shape hlP; have HgP := Lib.hid (pb_trans (pb_below (show Below w7.heap.size w7 _ by (repeat (with_reducible first | exact Below.refl _ _ | assumption | refine ba ?_ _ | refine bd ?_ | refine bdN ?_ _ | refine bs ?_ (by first | exact Nat.le_refl _ | (dsimp only; omega) | (simp; done)) _ | refine bt ?_ (by assumption)))) _) hgP); have HownP := Lib.hid hownP; have HpsP := Lib.hid hpsP; have HlP := Lib.hid hlP; have HxP := Lib.hid (show Boxed w _ _ wP from Below.grown Hx7.out HgP.out Hx7.out.size (fun g hg => by have h1 := (Hown7.out.1.lt g hg).1; have h2 := Hx6.out.lt; simp; omega)); clear hownP hpsP hlP hgP))
  all_goals
    obtain ⟨W5, hW5⟩ : ∃ W, W = wP.alloc (.cells #[] 124) := ⟨_, rfl⟩
    have HW5 := Lib.hid hW5
    have Hb5 := Lib.hid (show Below wP.heap.size wP W5 by rw [hW5]; exact ba (Below.refl _ _) _)
    have Hm5 := Lib.hid (show W5.ownsRow wP.heap.size 124 5 (.slice (some ⟨wP.heap.size, 0, none⟩) 0 0) 0 [] by rw [hW5]; exact made_at _ _ _ 5 _ rfl (Nat.le_refl _))
    have Hs5 := Lib.hid (owns_below HlP.out Hb5.out)
    have hz5 := Hb5.out.size
    clear hW5
    go_wp2_with (at_builtin; rw [← HW5.out]; refine wpList_append_both rfl _ _ 51 rfl wP.heap.size 124 i1 _ 5 56 Try.underlying51 Hi1.out Hy0.out Hy1.out Hy2.out rfl (by decide) _ 0 _ rfl Hm5.out 0 _ L1.length _ rfl Hs5.out (stm_one L1) (by unfold maxLen; omega) (by omega) hz5 ?_; intro vQ wQ hownQ hgrowQ; rw [Nat.zero_add, List.nil_append] at hownQ; obtain ⟨aQ, cQ, hvQ⟩ := owns_shape hownQ; subst hvQ; have HownQ := Lib.hid hownQ; have HbQ := Lib.hid (show Below wP.heap.size wP wQ from Below.grown Hb5.out hgrowQ Hb5.out.size (fun g hg => (Hm5.out.lt g hg).1)); clear hownQ hgrowQ)
    refine bodyPost_ret (v := .tuple #[.slice aQ L1.length cQ, .slice pa psP.length pc, .bool had]) (by simp [results, Try.results41, go_sem]) rfl ?_
    exact ⟨_, _, psP, rfl, HpsP.out, owns_mono HownQ.out HxP.out.below.size, (HownP.out.below HbQ.out).mono Hx6.out.below.size, apart_later HownP.out.2 HownQ.out, (HxP.out.step HbQ.out).below⟩

/-! ### The two contracts of LoadBody, as the exact law takes them. -/
/-- What LoadBody comes to, part by part. -/
def NewLoadX (L1 : List Stm) (L2 : List Cmp) (had : Bool) (w : World) (e : Ending) (w' : World) : Prop :=
  ∃ bv sv ps, e = .returned (.tuple #[bv, sv, .bool had]) ∧ w'.ownsRow w.heap.size 124 5 bv L1.length (L1.flatMap stmCells) ∧ ps.map (·.1) = L2 ∧ OwnCmps w' w.heap.size sv ps ∧ Apart bv ps ∧ Below w.heap.size w w'
theorem newLoadX {r : List Stm × List Cmp × Bool} {w : World} {e : Ending} {w' : World} (h : NewLoad r w e w') : NewLoadX r.1 r.2.1 r.2.2 w e w' := by
  obtain ⟨bv, sv, ps, h1, h2, h3, h4, h5, h6⟩ := h
  exact ⟨bv, sv, ps, h1, h3, h2, h4, h5, h6⟩
/-- The row of the body shares no block with the store. -/
theorem apart_blk {w : World} {B n : Nat} {bv sv : Value} {xs : List Value} {ps : List (Cmp × Value)} (h1 : w.ownsRow B 124 5 bv n xs) (h2 : OwnCmps w B sv ps) (ha : Apart bv ps) : ∀ b, bv.ownBlock = some b → ¬ BlkC sv ps b := fun b hb hS => by
  rcases hS with hS | ⟨p, hp, hS⟩
  · exact own_types (by decide) h2.1 h1 hS hb
  · exact ha p hp b hS hb
theorem okBody_len {b : List Stm} (h : okBody b = true) : b.length ≤ 8 := by
  unfold okBody at h; simp only [Bool.and_eq_true, decide_eq_true_eq] at h; exact h.2
theorem loadB_fine (cs : List Cmp) (f : Fil) (mode : Int) : (loadB cs f mode).1.length ≤ 8 ∧ (∀ c ∈ (loadB cs f mode).2.1, okBody c.body = true) ∧ (loadB cs f mode).2.1.length ≤ 12 := by
  cases h1 : (okStore cs && okFil f && inr mode 0 2)
  · rw [loadB_none h1]; simp
  · simp only [Bool.and_eq_true] at h1
    obtain ⟨⟨h1, h2⟩, h3⟩ := h1
    obtain ⟨f1, _, f3⟩ := okStore_facts h1
    have hb : ∀ c ∈ cs, okBody c.body = true := fun c hc => okCmp_body (f1 c hc)
    have hf : okBody f.body = true := okFil_body h2
    rcases usAt_range cs f with h | ⟨k, hk, h⟩
    · rw [loadB_new h1 h2 h3 h]
      refine ⟨okBody_len hf, ?_, ?_⟩
      · intro c hc
        dsimp only at hc
        unfold putC at hc
        split at hc
        · rcases List.mem_or_eq_of_mem_set hc with hc | rfl
          · exact hb c hc
          · exact hf
        · split at hc
          · exact hb c hc
          · rcases List.mem_append.1 hc with hc | hc
            · exact hb c hc
            · simp at hc; subst hc; exact hf
      · dsimp only
        unfold putC
        split
        · rw [List.length_set]; exact f3
        · split
          · exact f3
          · rw [List.length_append]; simp; omega
    · rw [loadB_had hk h1 h2 h3 h]
      exact ⟨okBody_len (hb _ (List.getElem_mem hk)), hb, f3⟩
theorem impl_LoadBodyX (v : Value) (cs : List Cmp) (ps : List (Cmp × Value)) (r st : Int) (p n : Bs) (i : Bool) (bv : Value) (fb : List Stm) (mode : Int) (B B' : Nat) (w : World) (h : RowsC8 w B v ps) (hps : ps.map (·.1) = cs) (hz : ShortCs 1048576 cs) (hl : cmpsCost' cs)
    (hf : w.ownsRow B' 124 5 bv fb.length (fb.flatMap stmCells)) (hzf : ShortF 1048576 ⟨r, p, n, i, st, fb⟩) (hfl : fb.length ≤ 1048576) :
    Calls Try.prog 40 #[v, .agg #[.int .i64 r, .string (mk p), .string (mk n), .bool i, .int .i64 st, bv], .int .i64 mode] w (NewLoadX (loadB cs ⟨r, p, n, i, st, fb⟩ mode).1 (loadB cs ⟨r, p, n, i, st, fb⟩ mode).2.1 (loadB cs ⟨r, p, n, i, st, fb⟩ mode).2.2 w) := by
  subst hps
  exact (impl_LoadBody v ps r st p n i bv fb mode B B' w h hz (by have := hl.1; simpa using this) (fun q hq => hl.2 _ (List.mem_map.2 ⟨q, hq, rfl⟩)) hf hzf hfl).mono (fun _ _ h => newLoadX h)
theorem spec_LoadBodyX (v : Value) (cs : List Cmp) (ps : List (Cmp × Value)) (r st : Int) (p n : Bs) (i : Bool) (bv : Value) (fb : List Stm) (mode : Int) (B B' : Nat) (w : World) (h : RowsC8 w B v ps) (hps : ps.map (·.1) = cs) (hz : ShortCs 1048576 cs) (hl : cmpsCost' cs)
    (hf : w.ownsRow B' 124 5 bv fb.length (fb.flatMap stmCells)) (hzf : ShortF 1048576 ⟨r, p, n, i, st, fb⟩) (hfl : fb.length ≤ 1048576) :
    Calls Try.prog 41 #[v, .agg #[.int .i64 r, .string (mk p), .string (mk n), .bool i, .int .i64 st, bv], .int .i64 mode] w (NewLoadX (loadB cs ⟨r, p, n, i, st, fb⟩ mode).1 (loadB cs ⟨r, p, n, i, st, fb⟩ mode).2.1 (loadB cs ⟨r, p, n, i, st, fb⟩ mode).2.2 w) := by
  subst hps
  exact (spec_LoadBody v ps r st p n i bv fb mode B B' w h hz (by have := hl.1; simpa using this) (fun q hq => hl.2 _ (List.mem_map.2 ⟨q, hq, rfl⟩)) hf hzf hfl).mono (fun _ _ h => newLoadX h)

/-! ### Facts of the promises about stores: what is loaded is kept, and is there when it is loaded again. -/
theorem compiled_okB {f : Fil} {mode : Int} (h1 : okFil f = true) (h2 : inr mode 0 2 = true) : okCmp (compiled f mode) = true ∧ isUsable (compiled f mode) f = true := by
  have hb := okFil_body h1
  have hv := (srcPlace_fil h1).2
  have h1' := h1
  unfold okFil at h1'
  simp only [Bool.and_eq_true] at h1'
  obtain ⟨⟨⟨⟨a1, a2⟩, a3⟩, a4⟩, a5⟩ := h1'
  have hok : okCmp (compiled f mode) = true := by
    unfold okCmp compiled
    simp only [Bool.and_eq_true, decide_eq_true_eq]
    exact ⟨⟨⟨⟨⟨⟨by assumption, hv⟩, h2⟩, by assumption⟩, hb⟩, trivial⟩, trivial⟩
  refine ⟨hok, ?_⟩
  unfold isUsable
  rw [hok, h1]
  have e : cplace (compiled f mode) = fplace f := rfl
  have u : usable (compiled f mode) f = true := by unfold usable compiled; split <;> (try split) <;> simp
  simp [e, u]
theorem okStore_of {l : List Cmp} (h1 : ∀ c ∈ l, okCmp c = true) (h2 : (l.map cplace).Nodup) (h3 : l.length ≤ 12) : okStore l = true := by
  unfold okStore
  simp only [Bool.and_eq_true, decide_eq_true_eq, List.all_eq_true]
  exact ⟨⟨h1, h2⟩, h3⟩
/-- What is put into a valid store leaves it valid. -/
theorem okStore_put {cs : List Cmp} {c : Cmp} (h : okStore cs = true) (hc : okCmp c = true) : okStore (putC cs c) = true ∧ cs.length ≤ (putC cs c).length := by
  obtain ⟨h1, h2, h3⟩ := okStore_facts h
  rcases keyAt_is (key := cplace) cs (cplace c) with ⟨hk, hno⟩ | ⟨k, hk, hat, hp, _⟩
  · by_cases hl : cs.length = 12
    · rw [putC_full hk hl]; exact ⟨h, Nat.le_refl _⟩
    · rw [putC_new hk hl]
      refine ⟨okStore_of (fun x hx => ?_) ?_ ?_, by simp⟩
      · rcases List.mem_append.1 hx with hx | hx
        · exact h1 x hx
        · simp at hx; subst hx; exact hc
      · rw [List.map_append, List.nodup_append]
        refine ⟨h2, by simp, fun x hx y hy => ?_⟩
        simp at hy; subst hy
        obtain ⟨z, hz, rfl⟩ := List.mem_map.1 hx
        obtain ⟨j, hj, rfl⟩ := List.getElem_of_mem hz
        exact hno j hj
      · simp; omega
  · rw [putC_at hat]
    refine ⟨okStore_of (fun x hx => ?_) ?_ (by rw [List.length_set]; exact h3), by rw [List.length_set]; exact Nat.le_refl _⟩
    · rcases List.mem_or_eq_of_mem_set hx with hx | rfl
      · exact h1 x hx
      · exact hc
    · rw [List.map_set]
      have e : (cs.map cplace).set k (cplace c) = cs.map cplace := by
        have h5 : k < (cs.map cplace).length := by simpa using hk
        have h6 : cplace c = (cs.map cplace)[k] := by rw [List.getElem_map]; exact hp.symm
        rw [h6]; exact List.set_getElem_self h5
      rw [e]; exact h2
/-- What was put is found. -/
theorem usAt_put {cs : List Cmp} {f : Fil} {mode : Int} (h1 : okFil f = true) (h2 : inr mode 0 2 = true) (hroom : ¬ (keyAt cplace cs (fplace f) = -1 ∧ cs.length = 12)) :
    ∃ k, ∃ hk : k < (putC cs (compiled f mode)).length, usAt (putC cs (compiled f mode)) f = (k : Int) ∧ (putC cs (compiled f mode))[k] = compiled f mode := by
  have hu := (compiled_okB h1 h2).2
  rcases keyAt_is (key := cplace) cs (fplace f) with ⟨hk, hno⟩ | ⟨k, hk, hat, hp, hbef⟩
  · have hl : cs.length ≠ 12 := fun h => hroom ⟨hk, h⟩
    have e : putC cs (compiled f mode) = cs ++ [compiled f mode] := putC_new (c := compiled f mode) hk hl
    have hlen : cs.length < (cs ++ [compiled f mode]).length := by simp
    have hget : (cs ++ [compiled f mode])[cs.length] = compiled f mode := by rw [List.getElem_append_right (Nat.le_refl _)]; simp
    have hka : keyAt cplace (cs ++ [compiled f mode]) (fplace f) = (cs.length : Int) := keyAt_yes (key := cplace) _ cs.length hlen _ (fun j hj hjk => by rw [List.getElem_append_left hjk]; exact hno j hjk) (by rw [hget]; rfl)
    have hus := usAt_good (f := f) hlen hka (by rw [hget]; exact hu)
    rw [e]
    exact ⟨cs.length, hlen, hus, hget⟩
  · have e : putC cs (compiled f mode) = cs.set k (compiled f mode) := putC_at (c := compiled f mode) hat
    have hlen : k < (cs.set k (compiled f mode)).length := by rw [List.length_set]; exact hk
    have hget : (cs.set k (compiled f mode))[k] = compiled f mode := List.getElem_set_self ..
    have hka : keyAt cplace (cs.set k (compiled f mode)) (fplace f) = (k : Int) := keyAt_yes (key := cplace) _ k hlen _ (fun j hj hjk => by
      rw [List.getElem_set_ne (by omega)]; exact hbef j (by rw [List.length_set] at hj; exact hj) hjk) (by rw [hget]; rfl)
    have hus := usAt_good (f := f) hlen hka (by rw [hget]; exact hu)
    rw [e]
    exact ⟨k, hlen, hus, hget⟩
/-- What LoadBody of a valid store and a valid file comes to. -/
theorem loadB_facts {cs : List Cmp} {f : Fil} {mode : Int} (h1 : okStore cs = true) (h2 : okFil f = true) (h3 : inr mode 0 2 = true) :
    okStore (loadB cs f mode).2.1 = true ∧ cs.length ≤ (loadB cs f mode).2.1.length ∧ ((loadB cs f mode).2.2 = true → (loadB cs f mode).2.1 = cs) ∧ ((loadB cs f mode).2.2 = false → (loadB cs f mode).1 = f.body) := by
  rcases usAt_range cs f with h | ⟨k, hk, h⟩
  · rw [loadB_new h1 h2 h3 h]
    obtain ⟨a, b⟩ := okStore_put h1 (compiled_okB h2 h3).1
    exact ⟨a, b, fun e => by simp at e, fun _ => rfl⟩
  · rw [loadB_had hk h1 h2 h3 h]
    exact ⟨h1, Nat.le_refl _, fun _ => rfl, fun e => by simp at e⟩
/-- What was loaded is there. -/
theorem loadB_again {cs : List Cmp} {f : Fil} {mode : Int} (h1 : okStore cs = true) (h2 : okFil f = true) (h3 : inr mode 0 2 = true) :
    (loadB (loadB cs f mode).2.1 f mode).1 = (loadB cs f mode).1 ∧ (12 ≤ cs.length ∨ (loadB (loadB cs f mode).2.1 f mode).2 = ((loadB cs f mode).2.1, true)) := by
  rcases usAt_range cs f with h | ⟨k, hk, h⟩
  · rw [loadB_new h1 h2 h3 h]
    obtain ⟨a, b⟩ := okStore_put h1 (compiled_okB h2 h3).1
    dsimp only
    by_cases hroom : keyAt cplace cs (fplace f) = -1 ∧ cs.length = 12
    · have e : putC cs (compiled f mode) = cs := putC_full (c := compiled f mode) hroom.1 hroom.2
      rw [e, loadB_new h1 h2 h3 h]
      exact ⟨rfl, .inl (by omega)⟩
    · obtain ⟨k, hk, hus, hget⟩ := usAt_put h2 h3 hroom
      rw [loadB_had hk a h2 h3 hus, hget]
      exact ⟨rfl, .inr rfl⟩
  · rw [loadB_had hk h1 h2 h3 h]
    dsimp only
    rw [loadB_had hk h1 h2 h3 h]
    exact ⟨rfl, .inr rfl⟩
theorem okStm_short {s : Stm} (h : okStm s = true) : s.module.length ≤ 11 ∧ s.name.length ≤ 11 := by
  have e : ∀ {l : Bs}, l.isEmpty = true → l.length ≤ 11 := fun {l} h => by rw [List.isEmpty_iff] at h; subst h; simp
  have v : ∀ {l : Bs}, vp l = true → l.length ≤ 11 := fun {l} h => by have := (vp_len h).2; omega
  unfold okStm at h
  split at h
  · simp only [Bool.and_eq_true] at h; exact ⟨vn_len h.1.1.1, e h.1.2⟩
  split at h
  · simp only [Bool.and_eq_true] at h
    have h1 := h.1.1
    unfold okSrc at h1
    simp only [Bool.and_eq_true] at h1
    exact ⟨vpk_len h1.1.2, v h.1.2⟩
  split at h
  · simp only [Bool.and_eq_true] at h; exact ⟨vn_len h.1.1.1, e h.1.2⟩
  split at h
  · simp only [Bool.and_eq_true] at h; exact ⟨e h.1.1.1, v h.1.2⟩
  split at h
  · simp only [Bool.and_eq_true] at h; exact ⟨e h.1.1.1, v h.1.2⟩
  split at h
  · simp only [Bool.and_eq_true] at h; exact ⟨e h.1.1.1, e h.1.2⟩
  · cases h
theorem okCmp_short {c : Cmp} (h : okCmp c = true) : ShortC 1048576 c := by
  refine ⟨by have := vn_len (okCmp_vn h); omega, fun s hs => ?_⟩
  have hb := okCmp_body h
  unfold okBody at hb
  simp only [Bool.and_eq_true, List.all_eq_true] at hb
  have := okStm_short (hb.1 s hs)
  omega
theorem okStore_short {cs : List Cmp} (h : okStore cs = true) : ShortCs 1048576 cs ∧ cmpsCost' cs := by
  obtain ⟨h1, _, h3⟩ := okStore_facts h
  exact ⟨fun c hc => okCmp_short (h1 c hc), by omega, fun c hc => by have := okBody_len (okCmp_body (h1 c hc)); omega⟩
theorem modOf_ne {f : Fil} (h : okFil f = true) : modOf f ≠ [] := by
  have hv := (srcPlace_fil h).2
  unfold modOf
  rw [if_pos h]
  intro e
  rw [e] at hv
  simp [vn_nil] at hv
theorem modOf_no {f : Fil} (h : okFil f = false) : modOf f = [] := by unfold modOf; rw [h]; rfl
end Go.Proofs.Ytomdmkhgkaalnaa
