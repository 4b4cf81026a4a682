/- The body that is run for a file: the plain answer, and the contract of the program's LoadBody. -/
import Derived.Test.YtomdmkhgkaalnaaPut
import Derived.Test.YtomdmkhgkaalnaaCompile
set_option linter.unusedVariables false
set_option linter.unusedSimpArgs false
namespace Go.Proofs.Ytomdmkhgkaalnaa
open Go.RowKit Go.Proofs.Ytomdmkhgkaalnaa.Nm

def loadB (cs : List Cmp) (f : Fil) (mode : Int) : List Stm × List Cmp × Bool :=
  if okStore cs && okFil f && inr mode 0 2 then
    match cs[(usAt cs f).toNat]? with
    | some c => if 0 ≤ usAt cs f then (c.body, cs, true) else (f.body, putC cs (compiled f mode), false)
    | none => (f.body, putC cs (compiled f mode), false)
  else ([], [], false)
theorem loadB_none {cs : List Cmp} {f : Fil} {mode : Int} (h : (okStore cs && okFil f && inr mode 0 2) = false) : loadB cs f mode = ([], [], false) := by unfold loadB; rw [h]; rfl
theorem loadB_new {cs : List Cmp} {f : Fil} {mode : Int} (h1 : okStore cs = true) (h2 : okFil f = true) (h3 : inr mode 0 2 = true) (h : usAt cs f = -1) : loadB cs f mode = (f.body, putC cs (compiled f mode), false) := by
  unfold loadB; rw [h1, h2, h3, h]; simp only [Bool.and_self, ↓reduceIte]; split <;> simp
theorem loadB_had {cs : List Cmp} {f : Fil} {mode : Int} {k : Nat} (hk : k < cs.length) (h1 : okStore cs = true) (h2 : okFil f = true) (h3 : inr mode 0 2 = true) (h : usAt cs f = (k : Int)) : loadB cs f mode = (cs[k].body, cs, true) := by
  unfold loadB; rw [h1, h2, h3, h]; simp [hk]
/-- What LoadBody comes to: a body and a store of the call's own, apart, and whether the store had it. -/
def NewLoad (r : List Stm × List Cmp × Bool) (w : World) (e : Ending) (w' : World) : Prop :=
  ∃ bv sv ps, e = .returned (.tuple #[bv, sv, .bool r.2.2]) ∧ ps.map (·.1) = r.2.1 ∧ w'.ownsRow w.heap.size 124 5 bv r.1.length (r.1.flatMap stmCells) ∧ OwnCmps w' w.heap.size sv ps ∧ Apart bv ps ∧ Below w.heap.size w w'
theorem newLoad_none {w w' : World} {r : List Stm × List Cmp × Bool} (h : r = ([], [], false)) (hb : Below w.heap.size w w') : NewLoad r w (.returned (.tuple #[.slice none 0 0, .slice none 0 0, .bool false])) w' := by
  subst h
  exact ⟨_, _, [], rfl, rfl, World.ownsRow_nil _ _ _ _, ⟨World.ownsRow_nil _ _ _ _, OwnCmpBodies.nil _ _⟩, fun p hp => by simp at hp, hb⟩
/-- A row made behind a store is apart from its bodies. -/
theorem apart_later {w W : World} {B n : Nat} {nv : Value} {xs : List Value} {ps : List (Cmp × Value)} (h : OwnCmpBodies w B ps) (hc : W.ownsRow w.heap.size 124 5 nv n xs) : Apart nv ps := fun p hp b hb hb' => by
  have h1 := (owns_block (h.1 p hp) hb).2
  have h2 := (owns_block hc hb').1
  omega

set_option maxRecDepth 100000 in
set_option maxHeartbeats 4000000 in
theorem impl_LoadBody (v : Value) (ps : List (Cmp × Value)) (r st : Int) (p n : Bs) (i : Bool) (bv : Value) (fb : List Stm) (mode : Int) (B B' : Nat) (w : World) (h : RowsC8 w B v ps) (hz : ShortCs 1048576 (ps.map (·.1))) (hl : ps.length ≤ 1048576) (hbl : ∀ p ∈ ps, p.1.body.length ≤ 1048576)
    (hf : w.ownsRow B' 124 5 bv fb.length (fb.flatMap stmCells)) (hzf : ShortF 1048576 ⟨r, p, n, i, st, fb⟩) (hfl : fb.length ≤ 1048576) :
    Calls Try.prog 40 #[v, .agg #[.int .i64 r, .string (mk p), .string (mk n), .bool i, .int .i64 st, bv], .int .i64 mode] w (NewLoad (loadB (ps.map (·.1)) ⟨r, p, n, i, st, fb⟩ mode) w) := by
  obtain ⟨hz1, hz2, hz3⟩ := id hzf
  dsimp only at hz1 hz2 hz3
  have H := Lib.hid h
  have Hbl := Lib.hid hbl
  have Hr := Lib.hid (h.fils (D := fun _ => True) (fun _ _ => trivial))
  have Hz := Lib.hid hz
  have Hz20 := Lib.hid (shortCs_mono (B := 2000000) (by omega) hz)
  have Hz80 := Lib.hid (shortCs_mono (B := 8000000) (by omega) hz)
  have Hf := Lib.hid hf
  have Hfs := Lib.hid (show StmsIn w (fun _ => True) bv fb from StmsIn.of_owns hf (fun _ _ => trivial))
  have Hzf := Lib.hid hzf
  have Hz8 := Lib.hid (short_mono (B := 8000000) (by omega) hz3)
  obtain ⟨aa, ca, rfl⟩ := h.len
  obtain ⟨ab, cb, rfl⟩ := owns_shape hf
  clear h hbl hz hf hzf hz3
  obtain ⟨W0, hW0⟩ : ∃ W, W = w.alloc (.cells #[.int .i64 r, .string (mk p), .string (mk n), .bool i, .int .i64 st, .slice ab fb.length cb] 55) := ⟨_, rfl⟩
  have Hx0 := Lib.hid (show Boxed w #[.int .i64 r, .string (mk p), .string (mk n), .bool i, .int .i64 st, .slice ab fb.length cb] 55 W0 by rw [hW0]; exact Boxed.start w _ _)
  have HWe := Lib.hid hW0
  clear hW0
  have Hk := Lib.hid (fun (w' : World) (hC : Boxed w #[.int .i64 r, .string (mk p), .string (mk n), .bool i, .int .i64 st, .slice ab fb.length cb] 55 w') => (⟨hC.cell 0, hC.cell 1, hC.cell 2, hC.cell 3, hC.cell 4, hC.cell 5, hC.lt⟩ : w'.cell? ⟨w.heap.size, 0, none⟩ = some (.int .i64 r) ∧ w'.cell? ⟨w.heap.size, 1, none⟩ = some (.string (mk p)) ∧ w'.cell? ⟨w.heap.size, 2, none⟩ = some (.string (mk n)) ∧ w'.cell? ⟨w.heap.size, 3, none⟩ = some (.bool i) ∧ w'.cell? ⟨w.heap.size, 4, none⟩ = some (.int .i64 st) ∧ w'.cell? ⟨w.heap.size, 5, none⟩ = some (.slice ab fb.length cb) ∧ w.heap.size < w'.heap.size))
  obtain ⟨ans, hans⟩ : ∃ x, x = loadB (ps.map (·.1)) ⟨r, p, n, i, st, fb⟩ mode := ⟨_, rfl⟩
  rw [← hans]
  have Hans := Lib.hid hans
  clear hans
  cases h1 : okStore (ps.map (·.1))
  · have H1 := Lib.hid h1
    have Hn := Lib.hid (show ans = ([], [], false) by rw [Hans.out]; exact loadB_none (by rw [h1]; rfl))
    clear h1
    go_enter Try.func40, Try.ntmps40
    go_upto_region 1 with fail
    rw [← HWe.out]
    go_wp2_with (go_at_call 31; refine (impl_ValidStore _ _ _ _ (Hr.out.below Hx0.out.below) Hz20.out).mono ?_; rintro _ w5 ⟨rfl, hb5⟩; rw [H1.out])
    refine bodyPost_ret (v := .tuple #[.slice none 0 0, .slice none 0 0, .bool false]) (by simp [results, Try.results40, go_sem]) rfl ?_
    exact newLoad_none Hn.out (bt Hx0.out.below hb5)
  cases h2 : okFil ⟨r, p, n, i, st, fb⟩
  · have H1 := Lib.hid h1
    have H2 := Lib.hid h2
    have Hn := Lib.hid (show ans = ([], [], false) by rw [Hans.out]; exact loadB_none (by rw [h2]; simp))
    clear h1 h2
    go_enter Try.func40, Try.ntmps40
    go_upto_region 1 with fail
    rw [← HWe.out]
    go_wp2_with (first
      | (go_at_call 31; refine (impl_ValidStore _ _ _ _ (Hr.out.below Hx0.out.below) Hz20.out).mono ?_; rintro _ w5 ⟨rfl, hb5⟩; rw [H1.out]; obtain ⟨d0, d1, d2, d3, d4, d5, zs⟩ := Hk.out _ (Hx0.out.step hb5))
      | (go_at_call 90; refine (impl_validFile r st p n i _ fb (fun _ => True) _ (by omega) (by omega) (Hfs.out.below (bt Hx0.out.below hb5)) Hz8.out).mono ?_; rintro _ w6 ⟨rfl, hb6⟩; rw [H2.out]))
    refine bodyPost_ret (v := .tuple #[.slice none 0 0, .slice none 0 0, .bool false]) (by simp [results, Try.results40, go_sem]) rfl ?_
    exact newLoad_none Hn.out (bt (bt Hx0.out.below hb5) hb6)
  cases h3 : inr mode 0 2
  · have H1 := Lib.hid h1
    have H2 := Lib.hid h2
    have H3 := Lib.hid h3
    have Hn := Lib.hid (show ans = ([], [], false) by rw [Hans.out]; exact loadB_none (by rw [h3]; simp))
    clear h1 h2 h3
    go_enter Try.func40, Try.ntmps40
    go_upto_region 1 with fail
    rw [← HWe.out]
    go_wp2_with (first
      | (go_at_call 31; refine (impl_ValidStore _ _ _ _ (Hr.out.below Hx0.out.below) Hz20.out).mono ?_; rintro _ w5 ⟨rfl, hb5⟩; rw [H1.out]; obtain ⟨d0, d1, d2, d3, d4, d5, zs⟩ := Hk.out _ (Hx0.out.step hb5))
      | (go_at_call 90; refine (impl_validFile r st p n i _ fb (fun _ => True) _ (by omega) (by omega) (Hfs.out.below (bt Hx0.out.below hb5)) Hz8.out).mono ?_; rintro _ w6 ⟨rfl, hb6⟩; rw [H2.out])
      | (go_at_call 100; refine (impl_validMode mode _).mono ?_; rintro _ _ ⟨rfl, rfl⟩; rw [H3.out]))
    refine bodyPost_ret (v := .tuple #[.slice none 0 0, .slice none 0 0, .bool false]) (by simp [results, Try.results40, go_sem]) rfl ?_
    exact newLoad_none Hn.out (bt (bt Hx0.out.below hb5) hb6)
  have H1 := Lib.hid h1
  have H2 := Lib.hid h2
  have H3 := Lib.hid h3
  have Hcm := Lib.hid (compile_yes h2 h3)
  have hvn := (srcPlace_fil h2).2
  have hml := modName_len ⟨r, p, n, i, st, fb⟩
  dsimp only at hml
  have hrg := usAt_range (ps.map (·.1)) ⟨r, p, n, i, st, fb⟩
  have Hnew := Lib.hid (fun h => loadB_new (mode := mode) h1 h2 h3 h)
  have Hhad := Lib.hid (fun (k : Nat) hk h => loadB_had (mode := mode) (k := k) hk h1 h2 h3 h)
  clear h1 h2 h3
  obtain ⟨us, hus⟩ : ∃ u, u = usAt (ps.map (·.1)) ⟨r, p, n, i, st, fb⟩ := ⟨_, rfl⟩
  have Hus := Lib.hid hus
  rw [← hus] at hrg Hnew
  clear hus
  go_enter Try.func40, Try.ntmps40
  go_upto_region 1 with fail
  rw [← HWe.out]
  go_upto_region 5 with (first
    | (go_at_call 31; refine (impl_ValidStore _ _ _ _ (Hr.out.below Hx0.out.below) Hz20.out).mono ?_; rintro _ w5 ⟨rfl, hb5⟩; rw [H1.out]; obtain ⟨d0, d1, d2, d3, d4, d5, zs⟩ := Hk.out _ (Hx0.out.step hb5))
    | (go_at_call 90; refine (impl_validFile r st p n i _ fb (fun _ => True) _ (by omega) (by omega) (Hfs.out.below (bt Hx0.out.below hb5)) Hz8.out).mono ?_; rintro _ w6 ⟨rfl, hb6⟩; rw [H2.out]; have Hx6 := Lib.hid (Hx0.out.step (bt hb5 hb6)); clear hb5 hb6 d0 d1 d2 d3 d4 d5 zs)
    | (go_at_call 100; refine (impl_validMode mode _).mono ?_; rintro _ _ ⟨rfl, rfl⟩; rw [H3.out])
    | (go_at_call 66; refine (impl_copyStore _ ps B _ (H.out.below Hx6.out.below) hl Hbl.out).mono ?_; rintro _ w7 ⟨sv, qs, rfl, hqs, hown7, hb7⟩; obtain ⟨sa, sc, rfl⟩ := hown7.len; have Hqs := Lib.hid hqs; have Hown7 := Lib.hid hown7; have Hx7 := Lib.hid (Hx6.out.step hb7); have Hs67 := Lib.hid hb7.size; obtain ⟨d0, d1, d2, d3, d4, d5, zs⟩ := Hk.out _ Hx7.out; clear hqs hown7 hb7)
    | (go_at_call 101; refine (impl_usableAt _ _ _ (ps.map (·.1)) (fun _ => True) r st p n i _ fb B' _ (Hr.out.below Hx7.out.below) Hz.out (owns_below Hf.out Hx7.out.below) Hzf.out hfl H1.out H2.out).mono ?_; rintro _ w8 ⟨rfl, hb8⟩; rw [← Hus.out]; have Hx8 := Lib.hid (Hx7.out.step hb8); have Hown8 := Lib.hid (Hown7.out.below hb8); have Hs78 := Lib.hid hb8.size; clear hb8 d0 d1 d2 d3 d4 d5 zs))
  have Hcf := Lib.hid (fun (W : World) (hW : W.ownsRow B' 124 5 (.slice ab fb.length cb) fb.length (fb.flatMap stmCells)) => (show Calls Try.prog 93 #[.agg #[.int .i64 r, .string (mk p), .string (mk n), .bool i, .int .i64 st, .slice ab fb.length cb], .int .i64 mode] W (NewCompiled (compiled ⟨r, p, n, i, st, fb⟩ mode) W) by have hh := impl_CompileFile r st p n i _ fb mode B' W hW Hzf.out hfl; rw [Hcm.out] at hh; exact hh))
  obtain ⟨m, hm⟩ : ∃ m, m = modName ⟨r, p, n, i, st, fb⟩ := ⟨_, rfl⟩
  obtain ⟨sz, hsz⟩ : ∃ m : Int, m = (sizeSum fb : Int) := ⟨_, rfl⟩
  obtain ⟨hh, hhh⟩ : ∃ m : Int, m = hashOf fb := ⟨_, rfl⟩
  have Hce := Lib.hid (show compiled ⟨r, p, n, i, st, fb⟩ mode = ⟨r, m, i, mode, st, sz, hh, fb⟩ by rw [hm, hsz, hhh]; rfl)
  rw [Hce.out] at Hcf Hnew
  rw [← hm] at hvn hml
  clear hm hsz hhh
  rcases hrg with rfl | ⟨k, hk, rfl⟩
  · have Hv := Lib.hid (show ans = (fb, putC (ps.map (·.1)) ⟨r, m, i, mode, st, sz, hh, fb⟩, false) by rw [Hans.out]; exact Hnew.out rfl)
    have Hcf2 := Lib.hid (fun (W : World) (hW : W.ownsRow B' 124 5 (.slice ab fb.length cb) fb.length (fb.flatMap stmCells)) => (show Calls Try.prog 93 #[.agg #[.int .i64 r, .string (mk p), .string (mk n), .bool i, .int .i64 st, .slice ab fb.length cb], .int .i64 mode] W (fun e w'' => ∃ nv, e = .returned (.agg #[.int .i64 r, .string (mk m), .bool i, .int .i64 mode, .int .i64 st, .int .i64 sz, .int .i64 hh, nv]) ∧ w''.ownsRow W.heap.size 124 5 nv fb.length (fb.flatMap stmCells) ∧ Below W.heap.size W w'') from Hcf.out W hW))
    obtain ⟨d0, d1, d2, d3, d4, d5, zs⟩ := Hk.out _ Hx8.out
    have Hf8 := Lib.hid (owns_below Hf.out Hx8.out.below)
    have hx6 := Hx6.out.lt
    have Hx6l := Lib.hid hx6
    clear hx6 Hcf Hnew Hhad
    go_upto_region 7 with fail
    clear d0 d1 d2 d3 d4 d5 zs
    go_region_held3 (fun w' => w'.cell? ⟨w.heap.size, 0, none⟩ = some (.int .i64 r) ∧ w'.cell? ⟨w.heap.size, 1, none⟩ = some (.string (mk p)) ∧ w'.cell? ⟨w.heap.size, 2, none⟩ = some (.string (mk n)) ∧ w'.cell? ⟨w.heap.size, 3, none⟩ = some (.bool i) ∧ w'.cell? ⟨w.heap.size, 4, none⟩ = some (.int .i64 st) ∧ w'.cell? ⟨w.heap.size, 5, none⟩ = some (.slice ab fb.length cb) ∧ w.heap.size < w'.heap.size)
      (first | exact Hk.out _ (HxP.out.step (by (repeat (with_reducible first | exact Below.refl _ _ | assumption | refine ba ?_ _ | refine bd ?_ | refine bdN ?_ _ | refine bs ?_ (by first | exact Nat.le_refl _ | (dsimp only; omega) | (simp; done)) _ | refine bt ?_ (by assumption))))) | exact Hk.out _ (HxC.out.step (by (repeat (with_reducible first | exact Below.refl _ _ | assumption | refine ba ?_ _ | refine bd ?_ | refine bdN ?_ _ | refine bs ?_ (by first | exact Nat.le_refl _ | (dsimp only; omega) | (simp; done)) _ | refine bt ?_ (by assumption))))) | exact Hk.out _ (HxB.out.step (by (repeat (with_reducible first | exact Below.refl _ _ | assumption | refine ba ?_ _ | refine bd ?_ | refine bdN ?_ _ | refine bs ?_ (by first | exact Nat.le_refl _ | (dsimp only; omega) | (simp; done)) _ | refine bt ?_ (by assumption))))) | exact Hk.out _ (Hx8.out.step (by (repeat (with_reducible first | exact Below.refl _ _ | assumption | refine ba ?_ _ | refine bd ?_ | refine bdN ?_ _ | refine bs ?_ (by first | exact Nat.le_refl _ | (dsimp only; omega) | (simp; done)) _ | refine bt ?_ (by assumption))))))
      (first
        | (go_at_call 102; refine (impl_copyBody fb _ B' _ (owns_below Hf8.out (by (repeat (with_reducible first | exact Below.refl _ _ | assumption | refine ba ?_ _ | refine bd ?_ | refine bdN ?_ _ | refine bs ?_ (by first | exact Nat.le_refl _ | (dsimp only; omega) | (simp; done)) _ | refine bt ?_ (by assumption))))) hfl).mono ?_; rintro _ wB ⟨aB, cB, rfl, hownB, hbB⟩; have HbB := Lib.hid (show Below w8.heap.size w8 wB by (repeat (with_reducible first | exact Below.refl _ _ | assumption | refine ba ?_ _ | refine bd ?_ | refine bdN ?_ _ | refine bs ?_ (by first | exact Nat.le_refl _ | (dsimp only; omega) | (simp; done)) _ | refine bt ?_ (by assumption)))); have HownB := Lib.hid (owns_mono hownB (show Below w8.heap.size w8 _ by (repeat (with_reducible first | exact Below.refl _ _ | assumption | refine ba ?_ _ | refine bd ?_ | refine bdN ?_ _ | refine bs ?_ (by first | exact Nat.le_refl _ | (dsimp only; omega) | (simp; done)) _ | refine bt ?_ (by assumption)))).size); have HxB := Lib.hid (Hx8.out.step HbB.out); clear hownB hbB)
        | (go_at_call 93; refine (Hcf2.out _ (owns_below (owns_below Hf8.out HbB.out) (by (repeat (with_reducible first | exact Below.refl _ _ | assumption | refine ba ?_ _ | refine bd ?_ | refine bdN ?_ _ | refine bs ?_ (by first | exact Nat.le_refl _ | (dsimp only; omega) | (simp; done)) _ | refine bt ?_ (by assumption)))))).mono ?_; rintro _ wC ⟨nv, rfl, hownC, hbC⟩; have HbC := Lib.hid (show Below wB.heap.size wB wC by (repeat (with_reducible first | exact Below.refl _ _ | assumption | refine ba ?_ _ | refine bd ?_ | refine bdN ?_ _ | refine bs ?_ (by first | exact Nat.le_refl _ | (dsimp only; omega) | (simp; done)) _ | refine bt ?_ (by assumption)))); have HownC := Lib.hid (owns_mono hownC (show Below wB.heap.size wB _ by (repeat (with_reducible first | exact Below.refl _ _ | assumption | refine ba ?_ _ | refine bd ?_ | refine bdN ?_ _ | refine bs ?_ (by first | exact Nat.le_refl _ | (dsimp only; omega) | (simp; done)) _ | refine bt ?_ (by assumption)))).size); have HxC := Lib.hid (HxB.out.step HbC.out); have HszC := Lib.hid (Nat.le_trans (Nat.le_trans Hs67.out Hs78.out) HbB.out.size); have HapC := Lib.hid (apart_later (Hown8.out.below HbB.out).2 HownC.out); have HqC := Lib.hid (Hown8.out.below (bt HbB.out HbC.out)); have HnvC := Lib.hid (owns_mono HownC.out HszC.out); clear hownC hbC)
        | (go_at_call 103; refine (impl_putCompiled _ qs r m i mode st sz hh fb nv w6.heap.size _ (HqC.out.below (by (repeat (with_reducible first | exact Below.refl _ _ | assumption | refine ba ?_ _ | refine bd ?_ | refine bdN ?_ _ | refine bs ?_ (by first | exact Nat.le_refl _ | (dsimp only; omega) | (simp; done)) _ | refine bt ?_ (by assumption))))) (Nat.le_trans (Nat.le_trans HszC.out HbC.out.size) (show Below wC.heap.size wC _ by (repeat (with_reducible first | exact Below.refl _ _ | assumption | refine ba ?_ _ | refine bd ?_ | refine bdN ?_ _ | refine bs ?_ (by first | exact Nat.le_refl _ | (dsimp only; omega) | (simp; done)) _ | refine bt ?_ (by assumption)))).size) (owns_below HnvC.out (by (repeat (with_reducible first | exact Below.refl _ _ | assumption | refine ba ?_ _ | refine bd ?_ | refine bdN ?_ _ | refine bs ?_ (by first | exact Nat.le_refl _ | (dsimp only; omega) | (simp; done)) _ | refine bt ?_ (by assumption))))) HapC.out (by rw [Hqs.out]; exact Hz80.out) (by rw [Hqs.out]; exact H1.out) hvn (by omega)).mono ?_; rintro _ wP ⟨vP, psP, rfl, hpsP, hownP, hgP, hinP⟩; obtain ⟨pa, pc, rfl⟩ := hownP.len; have HgP := Lib.hid (pb_trans (pb_below (show Below wC.heap.size wC _ by (repeat (with_reducible first | exact Below.refl _ _ | assumption | refine ba ?_ _ | refine bd ?_ | refine bdN ?_ _ | refine bs ?_ (by first | exact Nat.le_refl _ | (dsimp only; omega) | (simp; done)) _ | refine bt ?_ (by assumption)))) _) hgP); have HownP := Lib.hid hownP; have HpsP := Lib.hid hpsP; have HinP := Lib.hid hinP; have HxP := Lib.hid (show Boxed w _ _ wP from Below.grown HxC.out HgP.out HxC.out.size (fun g hg => by have h1 := (HqC.out.1.lt g hg).1; have h2 := Hx6l.out; simp; omega)); clear hownP hpsP hgP hinP))
    all_goals
      go_wp2_with fail
      refine bodyPost_ret (v := .tuple #[.slice aB fb.length cB, .slice pa psP.length pc, .bool false]) (by simp [results, Try.results40, go_sem]) rfl ?_
      rw [Hv.out]
      have hPw := (show Below wP.heap.size wP _ by (repeat (with_reducible first | exact Below.refl _ _ | assumption | refine ba ?_ _ | refine bd ?_ | refine bdN ?_ _ | refine bs ?_ (by first | exact Nat.le_refl _ | (dsimp only; omega) | (simp; done)) _ | refine bt ?_ (by assumption))))
      refine ⟨_, _, psP, rfl, by rw [HpsP.out, Hqs.out], owns_mono (owns_below (row_keptC (owns_mono (owns_below HownB.out HbC.out) (Nat.le_trans Hs67.out Hs78.out)) HqC.out.1 HgP.out) hPw) Hx6.out.below.size, (HownP.out.below hPw).mono Hx6.out.below.size, fun q hq b hb hb' => ?_, (HxP.out.step hPw).below⟩
      rcases HinP.out q hq with hq | hq
      · exact apart_later Hown8.out.2 HownB.out q hq b hb hb'
      · rw [hq] at hb
        have e1 := (owns_block HownC.out hb).1
        have e2 := (owns_block HownB.out hb').2
        omega
  · have hk' : k < ps.length := by simpa using hk
    have Hv := Lib.hid (Hhad.out k hk Hus.out.symm)
    rw [← Hans.out, List.getElem_map] at Hv
    have hrow8 := owns_below H.out.1 Hx8.out.below
    obtain ⟨g, cap, e1, hg, hg2⟩ := H.out.1.form (by omega)
    simp only [Value.slice.injEq] at e1
    obtain ⟨rfl, _, rfl⟩ := e1
    obtain ⟨⟨c0, c1, c2, c3, c4, c5, c6, c7⟩, _⟩ := own8 hrow8 k hk'
    have Hbody := Lib.hid ((H.out.below Hx8.out.below).2.1 _ (List.getElem_mem hk'))
    have Hbk := Lib.hid (Hbl.out _ (List.getElem_mem hk'))
    have hk1 : (k : Int) < (ps.length : Int) := by omega
    have hk0 : (0 : Int) ≤ (k : Int) := by omega
    have hkn : ((k : Int) == -1) = false := by rw [beq_eq_false_iff_ne]; omega
    have hkm : ((k : Int) = -1) = False := eq_false (by omega)
    obtain ⟨q, hq⟩ : ∃ q, q = ps[k] := ⟨_, rfl⟩
    rw [← hq] at c7 Hbody Hbk Hv
    clear c0 c1 c2 c3 c4 c5 c6 hq hrow8
    obtain ⟨⟨x0, x1, x2, x3, x4, x5, x6, cb'⟩, qv⟩ := q
    dsimp only at c7 Hbody Hbk Hv
    obtain ⟨qa, qc, rfl⟩ := owns_shape Hbody.out
    go_wp2_with (go_at_call 102; refine (impl_copyBody cb' _ B _ Hbody.out Hbk.out).mono ?_; rintro _ w9 ⟨a9, c9, rfl, hown9, hb9⟩)
    have Hown9 := Lib.hid hown9
    refine bodyPost_ret (v := .tuple #[.slice a9 cb'.length c9, .slice sa qs.length sc, .bool true]) (by simp [results, Try.results40, go_sem]) rfl ?_
    rw [Hv.out]
    exact ⟨_, _, qs, rfl, Hqs.out, owns_mono Hown9.out (Hx8.out.below.size), (Hown8.out.below hb9).mono (Hx6.out.below.size), apart_later Hown8.out.2 Hown9.out, bt Hx8.out.below hb9⟩
end Go.Proofs.Ytomdmkhgkaalnaa
