/- Contracts of the functions that compile a file, of both sides. -/
import Derived.Test.YtomdmkhgkaalnaaStores
import Derived.Test.YtomdmkhgkaalnaaSizes
import Derived.Test.YtomdmkhgkaalnaaHash
import Derived.Test.YtomdmkhgkaalnaaHasF
import Derived.Test.YtomdmkhgkaalnaaBoxS
import Derived.Test.YtomdmkhgkaalnaaHeld
import Derived.Deep.RegionHeld3
import Derived.Deep.RegionLaw
import Derived.RegionCalls
import Derived.Deep.DeepCutAuto
set_option linter.unusedVariables false
set_option linter.unusedSimpArgs false
namespace Go.Proofs.Ytomdmkhgkaalnaa
open Go.RowKit Go.Proofs.Ytomdmkhgkaalnaa.Nm

def NewCompiled (c : Cmp) (w : World) (e : Ending) (w' : World) : Prop :=
  ∃ nv, e = .returned (.agg #[.int .i64 c.root, .string (mk c.module), .bool c.init, .int .i64 c.mode, .int .i64 c.stamp, .int .i64 c.size, .int .i64 c.hash, nv]) ∧ w'.ownsRow w.heap.size 124 5 nv c.body.length (c.body.flatMap stmCells) ∧ Below w.heap.size w w'
theorem compile_no {f : Fil} {mode : Int} (h : (okFil f && inr mode 0 2) = false) : compile f mode = noCmp := by unfold compile; rw [h]; rfl
theorem compile_yes {f : Fil} {mode : Int} (h1 : okFil f = true) (h2 : inr mode 0 2 = true) : compile f mode = compiled f mode := by unfold compile; rw [h1, h2]; rfl

set_option maxRecDepth 100000 in
set_option maxHeartbeats 4000000 in
theorem impl_CompileFile (r st : Int) (p n : Bs) (i : Bool) (bv : Value) (body : List Stm) (mode : Int) (B : Nat) (w : World) (hb : w.ownsRow B 124 5 bv body.length (body.flatMap stmCells)) (hz : ShortF 1048576 ⟨r, p, n, i, st, body⟩) (hl : body.length ≤ 1048576) :
    Calls Try.prog 93 #[.agg #[.int .i64 r, .string (mk p), .string (mk n), .bool i, .int .i64 st, bv], .int .i64 mode] w (NewCompiled (compile ⟨r, p, n, i, st, body⟩ mode) w) := by
  obtain ⟨hz1, hz2, hz3⟩ := hz
  dsimp only at hz1 hz2 hz3
  have Hb := Lib.hid (owns_mono hb (Nat.zero_le B))
  have Hz := Lib.hid (short_mono (B := 8000000) (by omega) hz3)
  obtain ⟨ab, cb, rfl⟩ := owns_shape hb
  have HS := Lib.hid (show StmsIn w (fun _ => True) (.slice ab body.length cb) body from StmsIn.of_owns hb (fun _ _ => trivial))
  clear hb hz3
  obtain ⟨Wb, hWb⟩ : ∃ Wb, Wb = (w.alloc (.cells #[.int .i64 r, .string (mk p), .string (mk n), .bool i, .int .i64 st, .slice ab body.length cb] 55)).alloc (.cells #[.int .i64 0, .string ⟨#[]⟩, .bool false, .int .i64 0, .int .i64 0, .int .i64 0, .int .i64 0, .slice none 0 0] 53) := ⟨_, rfl⟩
  have HBw := Lib.hid (show Below w.heap.size w Wb by rw [hWb]; (repeat (with_reducible first | exact Below.refl _ _ | assumption | refine ba ?_ _ | refine bd ?_ | refine bdN ?_ _ | refine bs ?_ (by first | exact Nat.le_refl _ | (dsimp only; omega) | (simp; done)) _ | refine bt ?_ (by assumption))))
  have HWs := Lib.hid (show Wb.heap.size = w.heap.size + 2 by rw [hWb]; simp)
  have HX0 := Lib.hid (show BoxC Wb w.heap.size #[.int .i64 r, .string (mk p), .string (mk n), .bool i, .int .i64 st, .slice ab body.length cb] by rw [hWb]; exact (BoxC.start w _ _).below (by (repeat (with_reducible first | exact Below.refl _ _ | assumption | refine ba ?_ _ | refine bd ?_ | refine bdN ?_ _ | refine bs ?_ (by first | exact Nat.le_refl _ | (dsimp only; omega) | (simp; done)) _ | refine bt ?_ (by assumption)))))
  have HX1 := Lib.hid (show BoxC Wb (w.heap.size + 1) #[.int .i64 0, .string ⟨#[]⟩, .bool false, .int .i64 0, .int .i64 0, .int .i64 0, .int .i64 0, .slice none 0 0] by rw [hWb]; exact (BoxC.start (w.alloc (.cells #[.int .i64 r, .string (mk p), .string (mk n), .bool i, .int .i64 st, .slice ab body.length cb] 55)) _ _).at (by simp))
  have HF1 := Lib.hid (fun (j : Nat) => (show Wb.frozen? ⟨w.heap.size + 1, j, none⟩ = false by rw [hWb]; simp [go_sem]))
  have HWe := Lib.hid hWb
  have Hk := Lib.hid (fun (w' : World) (hC : Below Wb.heap.size Wb w') => (⟨(HX0.out.below hC).2 0, (HX0.out.below hC).2 1, (HX0.out.below hC).2 2, (HX0.out.below hC).2 3, (HX0.out.below hC).2 4, (HX0.out.below hC).2 5, (HX1.out.below hC).2 0, (HX1.out.below hC).2 1, (HX1.out.below hC).2 2, (HX1.out.below hC).2 3, (HX1.out.below hC).2 4, (HX1.out.below hC).2 5, (HX1.out.below hC).2 6, (HX1.out.below hC).2 7, (hC.frozen (p := ⟨w.heap.size + 1, 0, none⟩) (by have := HWs.out; dsimp only; omega)).trans (HF1.out 0), (hC.frozen (p := ⟨w.heap.size + 1, 1, none⟩) (by have := HWs.out; dsimp only; omega)).trans (HF1.out 1), (hC.frozen (p := ⟨w.heap.size + 1, 2, none⟩) (by have := HWs.out; dsimp only; omega)).trans (HF1.out 2), (hC.frozen (p := ⟨w.heap.size + 1, 3, none⟩) (by have := HWs.out; dsimp only; omega)).trans (HF1.out 3), (hC.frozen (p := ⟨w.heap.size + 1, 4, none⟩) (by have := HWs.out; dsimp only; omega)).trans (HF1.out 4), (hC.frozen (p := ⟨w.heap.size + 1, 5, none⟩) (by have := HWs.out; dsimp only; omega)).trans (HF1.out 5), (hC.frozen (p := ⟨w.heap.size + 1, 6, none⟩) (by have := HWs.out; dsimp only; omega)).trans (HF1.out 6), (hC.frozen (p := ⟨w.heap.size + 1, 7, none⟩) (by have := HWs.out; dsimp only; omega)).trans (HF1.out 7), (by have := HWs.out; have := hC.size; omega)⟩ : w'.cell? ⟨w.heap.size, 0, none⟩ = some (.int .i64 r) ∧ w'.cell? ⟨w.heap.size, 1, none⟩ = some (.string (mk p)) ∧ w'.cell? ⟨w.heap.size, 2, none⟩ = some (.string (mk n)) ∧ w'.cell? ⟨w.heap.size, 3, none⟩ = some (.bool i) ∧ w'.cell? ⟨w.heap.size, 4, none⟩ = some (.int .i64 st) ∧ w'.cell? ⟨w.heap.size, 5, none⟩ = some (.slice ab body.length cb) ∧ w'.cell? ⟨w.heap.size + 1, 0, none⟩ = some (.int .i64 0) ∧ w'.cell? ⟨w.heap.size + 1, 1, none⟩ = some (.string ⟨#[]⟩) ∧ w'.cell? ⟨w.heap.size + 1, 2, none⟩ = some (.bool false) ∧ w'.cell? ⟨w.heap.size + 1, 3, none⟩ = some (.int .i64 0) ∧ w'.cell? ⟨w.heap.size + 1, 4, none⟩ = some (.int .i64 0) ∧ w'.cell? ⟨w.heap.size + 1, 5, none⟩ = some (.int .i64 0) ∧ w'.cell? ⟨w.heap.size + 1, 6, none⟩ = some (.int .i64 0) ∧ w'.cell? ⟨w.heap.size + 1, 7, none⟩ = some (.slice none 0 0) ∧ w'.frozen? ⟨w.heap.size + 1, 0, none⟩ = false ∧ w'.frozen? ⟨w.heap.size + 1, 1, none⟩ = false ∧ w'.frozen? ⟨w.heap.size + 1, 2, none⟩ = false ∧ w'.frozen? ⟨w.heap.size + 1, 3, none⟩ = false ∧ w'.frozen? ⟨w.heap.size + 1, 4, none⟩ = false ∧ w'.frozen? ⟨w.heap.size + 1, 5, none⟩ = false ∧ w'.frozen? ⟨w.heap.size + 1, 6, none⟩ = false ∧ w'.frozen? ⟨w.heap.size + 1, 7, none⟩ = false ∧ w.heap.size + 1 < w'.heap.size))
  clear hWb
  obtain ⟨d0, d1, d2, d3, d4, d5, e0, e1, e2, e3, e4, e5, e6, e7, g0, g1, g2, g3, g4, g5, g6, g7, zs⟩ := Hk.out _ (Below.refl _ _)
  cases h1 : okFil ⟨r, p, n, i, st, body⟩
  · have H1 := Lib.hid h1
    have Hn := Lib.hid (compile_no (f := ⟨r, p, n, i, st, body⟩) (mode := mode) (by rw [h1]; rfl))
    clear h1
    go_enter Try.func93, Try.ntmps93
    go_upto_region 1 with fail
    rw [← HWe.out]
    go_wp2_with fail
    refine (impl_validFile r st p n i _ body (fun _ => True) _ (by omega) (by omega) (HS.out.below HBw.out) Hz.out).mono ?_
    rintro _ w5 ⟨rfl, hb5⟩
    rw [H1.out]
    have HB5 := Lib.hid (show Below Wb.heap.size Wb w5 from hb5)
    clear hb5 d0 d1 d2 d3 d4 d5 e0 e1 e2 e3 e4 e5 e6 e7 g0 g1 g2 g3 g4 g5 g6 g7 zs
    obtain ⟨d0, d1, d2, d3, d4, d5, e0, e1, e2, e3, e4, e5, e6, e7, g0, g1, g2, g3, g4, g5, g6, g7, zs⟩ := Hk.out _ HB5.out
    have HBC := HB5
    go_wp2_with fail
    refine bodyPost_ret (v := .agg #[.int .i64 0, .string ⟨#[]⟩, .bool false, .int .i64 0, .int .i64 0, .int .i64 0, .int .i64 0, .slice none 0 0]) (by simp [results, Try.results93, go_sem, *]) rfl ?_
    rw [Hn.out]
    have hbw := HBw.out.trans (HBC.out.mono HBw.out.size)
    exact ⟨_, rfl, World.ownsRow_nil _ _ _ _, by (repeat (with_reducible first | exact Below.refl _ _ | assumption | refine ba ?_ _ | refine bd ?_ | refine bdN ?_ _ | refine bs ?_ (by first | exact Nat.le_refl _ | (dsimp only; omega) | (simp; done)) _ | refine bt ?_ (by assumption)))⟩
  cases h2 : inr mode 0 2
  · have H1 := Lib.hid h1
    have H2 := Lib.hid h2
    have Hn := Lib.hid (compile_no (f := ⟨r, p, n, i, st, body⟩) (mode := mode) (by rw [h2]; simp))
    clear h1 h2
    go_enter Try.func93, Try.ntmps93
    go_upto_region 1 with fail
    rw [← HWe.out]
    go_wp2_with fail
    refine (impl_validFile r st p n i _ body (fun _ => True) _ (by omega) (by omega) (HS.out.below HBw.out) Hz.out).mono ?_
    rintro _ w5 ⟨rfl, hb5⟩
    rw [H1.out]
    have HB5 := Lib.hid (show Below Wb.heap.size Wb w5 from hb5)
    clear hb5 d0 d1 d2 d3 d4 d5 e0 e1 e2 e3 e4 e5 e6 e7 g0 g1 g2 g3 g4 g5 g6 g7 zs
    obtain ⟨d0, d1, d2, d3, d4, d5, e0, e1, e2, e3, e4, e5, e6, e7, g0, g1, g2, g3, g4, g5, g6, g7, zs⟩ := Hk.out _ HB5.out
    go_wp2_with fail
    refine (impl_validMode mode _).mono ?_
    rintro _ _ ⟨rfl, rfl⟩
    rw [H2.out]
    have HBC := HB5
    go_wp2_with fail
    refine bodyPost_ret (v := .agg #[.int .i64 0, .string ⟨#[]⟩, .bool false, .int .i64 0, .int .i64 0, .int .i64 0, .int .i64 0, .slice none 0 0]) (by simp [results, Try.results93, go_sem, *]) rfl ?_
    rw [Hn.out]
    have hbw := HBw.out.trans (HBC.out.mono HBw.out.size)
    exact ⟨_, rfl, World.ownsRow_nil _ _ _ _, by (repeat (with_reducible first | exact Below.refl _ _ | assumption | refine ba ?_ _ | refine bd ?_ | refine bdN ?_ _ | refine bs ?_ (by first | exact Nat.le_refl _ | (dsimp only; omega) | (simp; done)) _ | refine bt ?_ (by assumption)))⟩
  have H1 := Lib.hid h1
  have H2 := Lib.hid h2
  have Hn := Lib.hid (compile_yes h1 h2)
  have Hmod := Lib.hid (okFil_mod h1).1
  have Hok := Lib.hid (show okBody body = true from okFil_body h1)
  have Hsz := Lib.hid (size_eq (show okBody body = true from okFil_body h1))
  clear h1 h2
  go_enter Try.func93, Try.ntmps93
  go_upto_region 1 with fail
  rw [← HWe.out]
  go_wp2_with fail
  refine (impl_validFile r st p n i _ body (fun _ => True) _ (by omega) (by omega) (HS.out.below HBw.out) Hz.out).mono ?_
  rintro _ w5 ⟨rfl, hb5⟩
  rw [H1.out]
  have HB5 := Lib.hid (show Below Wb.heap.size Wb w5 from hb5)
  clear hb5 d0 d1 d2 d3 d4 d5 e0 e1 e2 e3 e4 e5 e6 e7 g0 g1 g2 g3 g4 g5 g6 g7 zs
  obtain ⟨d0, d1, d2, d3, d4, d5, e0, e1, e2, e3, e4, e5, e6, e7, g0, g1, g2, g3, g4, g5, g6, g7, zs⟩ := Hk.out _ HB5.out
  go_wp2_with fail
  refine (impl_validMode mode _).mono ?_
  rintro _ _ ⟨rfl, rfl⟩
  rw [H2.out]
  have HB5b := HB5.out
  have Hkk := Lib.hid (fun (w' : World) (hC : Below Wb.heap.size Wb w') => (by
    obtain ⟨d0, d1, d2, d3, d4, d5, _, _, _, _, _, _, _, _, _, _, _, _, _, _, _, _, _⟩ := Hk.out w' hC
    exact ⟨d0, d1, d2, d3, d4, d5, HBw.out.trans (hC.mono HBw.out.size)⟩ : (fun w' => w'.cell? ⟨w.heap.size, 0, none⟩ = some (.int .i64 r) ∧ w'.cell? ⟨w.heap.size, 1, none⟩ = some (.string (mk p)) ∧ w'.cell? ⟨w.heap.size, 2, none⟩ = some (.string (mk n)) ∧ w'.cell? ⟨w.heap.size, 3, none⟩ = some (.bool i) ∧ w'.cell? ⟨w.heap.size, 4, none⟩ = some (.int .i64 st) ∧ w'.cell? ⟨w.heap.size, 5, none⟩ = some (.slice ab body.length cb) ∧ Below w.heap.size w w') w'))
  clear d0 d1 d2 d3 d4 d5 e0 e1 e2 e3 e4 e5 e6 e7 g0 g1 g2 g3 g4 g5 g6 g7 zs
  obtain ⟨d0, d1, d2, d3, d4, d5, _⟩ := Hkk.out _ HB5.out
  go_wp2_with fail
  go_region_held3 (fun w' => w'.cell? ⟨w.heap.size, 0, none⟩ = some (.int .i64 r) ∧ w'.cell? ⟨w.heap.size, 1, none⟩ = some (.string (mk p)) ∧ w'.cell? ⟨w.heap.size, 2, none⟩ = some (.string (mk n)) ∧ w'.cell? ⟨w.heap.size, 3, none⟩ = some (.bool i) ∧ w'.cell? ⟨w.heap.size, 4, none⟩ = some (.int .i64 st) ∧ w'.cell? ⟨w.heap.size, 5, none⟩ = some (.slice ab body.length cb) ∧ Below w.heap.size w w')
    (first
      | (refine Hkk.out _ ?_; (repeat (with_reducible first | exact Below.refl _ _ | assumption | refine ba ?_ _ | refine bd ?_ | refine bdN ?_ _ | refine bs ?_ (by first | exact Nat.le_refl _ | (dsimp only; omega) | (simp; done)) _ | refine bt ?_ (by assumption))); done)
      | (refine ⟨?_, ?_, ?_, ?_, ?_, ?_, ?_⟩ <;> first | (simp [go_sem, f0, f1, f2, f3, f4, f5]; done) | ((repeat (with_reducible first | exact Below.refl _ _ | assumption | refine ba ?_ _ | refine bd ?_ | refine bdN ?_ _ | refine bs ?_ (by first | exact Nat.le_refl _ | (dsimp only; omega) | (simp; done)) _ | refine bt ?_ (by assumption))); done)))
    (first
      | (go_at_call 96; refine (impl_moduleAt r st p n i _ body _ (by omega) (by omega)).mono ?_; rintro _ wA ⟨rfl, hbA⟩; rw [Hmod.out])
      | (go_at_call 38; refine (impl_SizeOf _ body (fun _ => True) _ (HS.out.below (HBw.out.trans ((show Below Wb.heap.size Wb _ by (repeat (with_reducible first | exact Below.refl _ _ | assumption | refine ba ?_ _ | refine bd ?_ | refine bdN ?_ _ | refine bs ?_ (by first | exact Nat.le_refl _ | (dsimp only; omega) | (simp; done)) _ | refine bt ?_ (by assumption)))).mono HBw.out.size))) Hz.out).mono ?_; rintro _ wB ⟨rfl, hbB⟩; rw [Hsz.out])
      | (go_at_call 37; refine (impl_HashOf _ body (fun _ => True) _ (HS.out.below (HBw.out.trans ((show Below Wb.heap.size Wb _ by (repeat (with_reducible first | exact Below.refl _ _ | assumption | refine ba ?_ _ | refine bd ?_ | refine bdN ?_ _ | refine bs ?_ (by first | exact Nat.le_refl _ | (dsimp only; omega) | (simp; done)) _ | refine bt ?_ (by assumption)))).mono HBw.out.size))) Hz.out).mono ?_; rintro _ wD ⟨rfl, hbD⟩)
      | (go_at_call 102; refine (impl_copyBody body _ 0 _ (owns_below Hb.out (HBw.out.trans ((show Below Wb.heap.size Wb _ by (repeat (with_reducible first | exact Below.refl _ _ | assumption | refine ba ?_ _ | refine bd ?_ | refine bdN ?_ _ | refine bs ?_ (by first | exact Nat.le_refl _ | (dsimp only; omega) | (simp; done)) _ | refine bt ?_ (by assumption)))).mono HBw.out.size))) hl).mono ?_; rintro _ wC ⟨aC, cC, rfl, hownC, hbC⟩; have HBC := Lib.hid (show Below Wb.heap.size Wb wC by (repeat (with_reducible first | exact Below.refl _ _ | assumption | refine ba ?_ _ | refine bd ?_ | refine bdN ?_ _ | refine bs ?_ (by first | exact Nat.le_refl _ | (dsimp only; omega) | (simp; done)) _ | refine bt ?_ (by assumption)))); have HOC := Lib.hid (owns_mono hownC (show w.heap.size + 2 ≤ _ by rw [← HWs.out]; exact (show Below Wb.heap.size Wb _ by (repeat (with_reducible first | exact Below.refl _ _ | assumption | refine ba ?_ _ | refine bd ?_ | refine bdN ?_ _ | refine bs ?_ (by first | exact Nat.le_refl _ | (dsimp only; omega) | (simp; done)) _ | refine bt ?_ (by assumption)))).size)); have hwC := HBw.out.trans (HBC.out.mono HBw.out.size); obtain ⟨f0, f1, f2, f3, f4, f5, e0, e1, e2, e3, e4, e5, e6, e7, g0, g1, g2, g3, g4, g5, g6, g7, zs⟩ := Hk.out wC HBC.out; clear hownC))
  go_wp2_with fail
  refine bodyPost_ret (v := .agg #[.int .i64 r, .string (mk (modName ⟨r, p, n, i, st, body⟩)), .bool i, .int .i64 mode, .int .i64 st, .int .i64 (sizeSum body : Nat), .int .i64 (hashOf body), .slice aC body.length cC]) (by simp [results, Try.results93, go_sem, *]) rfl ?_
  rw [Hn.out]
  have hbw := HBw.out.trans (HBC.out.mono HBw.out.size)
  refine ⟨_, rfl, ?_, by (repeat (with_reducible first | exact Below.refl _ _ | assumption | refine ba ?_ _ | refine bd ?_ | refine bdN ?_ _ | refine bs ?_ (by first | exact Nat.le_refl _ | (dsimp only; omega) | (simp; done)) _ | refine bt ?_ (by assumption)))⟩
  refine owns_mono (B := w.heap.size + 2) ?_ (by omega)
  (repeat (with_reducible first | refine World.ownsRow.alloc ?_ _ | refine owns_set_low ?_ (by first | (dsimp only; omega) | (simp; done) | (simp; omega)) _))
  exact HOC.out

/-! ### Contracts of the model's functions that compile a file, and the exact laws' marks of it. -/
/-- An empty row of one's own, made some time ago. -/
theorem made_later (W : World) (g base : Nat) {e : TypeId} {size : Nat} (hg : g = W.heap.size) (hb : base ≤ g) {w : World} (hB : Below (W.alloc (.cells #[] e)).heap.size (W.alloc (.cells #[] e)) w) : w.ownsRow base e size (.slice (some ⟨g, 0, none⟩) 0 0) 0 [] :=
  owns_below (made_at W g base size e hg hb) hB
/-- A row of statements is appended to an empty row of one's own, in a region that draws its order. -/
theorem step_append_lit {ops : Array Oper} {o : Oper} {a : Act} {w : World} {K : Act → World → Prop} {Q : Exit → Act → World → Prop} {E : Prop} (hgd : o.guard = none) (s x : Operand)
    (ho : o.op = .call { callee := .builtin .append, args := #[s, x], argTypes := #[51, 51] })
    (base : Nat) (v u : Value) (hs : a.eval s = v) (hown : w.ownsRow base 124 5 v 0 []) (body : List Stm) (hx : a.eval x = u) (hsrc : w.ownsRow 0 124 5 u body.length (body.flatMap stmCells))
    (hl : body.length ≤ 1048576) (hbase : base ≤ w.heap.size)
    (h : ∀ aC cC w', w'.ownsRow base 124 5 (.slice aC body.length cC) body.length (body.flatMap stmCells) → Below base w w' → K (a.put o.dst (.slice aC body.length cC)) w') :
    if Region.wanted o (yielded ops a.tmps) = true then Oper.wp Try.prog o a w K Q else E := by
  obtain ⟨i1, hi1, hy0, hy1, hy2⟩ := info_parts infoStm
  refine step_append_both hgd s x 51 ho base 124 i1 _ 5 56 Try.underlying51 hi1 hy0 hy1 hy2 rfl (by decide) v 0 [] hs hown 0 u body.length _ hx hsrc (stm_one body) (by unfold maxLen; omega) (by omega) hbase ?_
  intro v' w' ho' hg'
  rw [Nat.zero_add, List.nil_append] at ho'
  obtain ⟨aC, cC, rfl⟩ := owns_shape ho'
  exact h aC cC w' ho' ((Below.refl _ _).grown hg' hbase (fun k hk => (hown.lt k hk).1))

set_option maxRecDepth 100000 in
set_option maxHeartbeats 4000000 in
theorem spec_compiled (r st : Int) (p n : Bs) (i : Bool) (bv : Value) (body : List Stm) (mode : Int) (B : Nat) (w : World) (hb : w.ownsRow B 124 5 bv body.length (body.flatMap stmCells)) (hz : ShortF 1048576 ⟨r, p, n, i, st, body⟩) (hl : body.length ≤ 1048576) (hok : okBody body = true) :
    Calls Try.prog 85 #[.agg #[.int .i64 r, .string (mk p), .string (mk n), .bool i, .int .i64 st, bv], .int .i64 mode] w (NewCompiled (compiled ⟨r, p, n, i, st, body⟩ mode) w) := by
  obtain ⟨i1, hi1, hy0, hy1, hy2⟩ := info_parts infoStm
  have Hi1 := Lib.hid hi1
  have Hy0 := Lib.hid hy0
  have Hy1 := Lib.hid hy1
  have Hy2 := Lib.hid hy2
  clear hi1 hy0 hy1 hy2
  obtain ⟨hz1, hz2, hz3⟩ := hz
  dsimp only at hz1 hz2 hz3
  have Hb := Lib.hid (owns_mono hb (Nat.zero_le B))
  have Hz := Lib.hid (short_mono (B := 8000000) (by omega) hz3)
  obtain ⟨ab, cb, rfl⟩ := owns_shape hb
  have HS := Lib.hid (show StmsIn w (fun _ => True) (.slice ab body.length cb) body from StmsIn.of_owns hb (fun _ _ => trivial))
  clear hb hz3
  obtain ⟨Wb, hWb⟩ : ∃ Wb, Wb = (w.alloc (.cells #[.int .i64 r, .string (mk p), .string (mk n), .bool i, .int .i64 st, .slice ab body.length cb] 55)).alloc (.cells #[.int .i64 0, .string ⟨#[]⟩, .bool false, .int .i64 0, .int .i64 0, .int .i64 0, .int .i64 0, .slice none 0 0] 53) := ⟨_, rfl⟩
  have HBw := Lib.hid (show Below w.heap.size w Wb by rw [hWb]; (repeat (with_reducible first | exact Below.refl _ _ | assumption | refine ba ?_ _ | refine bd ?_ | refine bdN ?_ _ | refine bs ?_ (by first | exact Nat.le_refl _ | (dsimp only; omega) | (simp; done)) _ | refine bt ?_ (by assumption))))
  have HWs := Lib.hid (show Wb.heap.size = w.heap.size + 2 by rw [hWb]; simp)
  have HX0 := Lib.hid (show BoxC Wb w.heap.size #[.int .i64 r, .string (mk p), .string (mk n), .bool i, .int .i64 st, .slice ab body.length cb] by rw [hWb]; exact (BoxC.start w _ _).below (by (repeat (with_reducible first | exact Below.refl _ _ | assumption | refine ba ?_ _ | refine bd ?_ | refine bdN ?_ _ | refine bs ?_ (by first | exact Nat.le_refl _ | (dsimp only; omega) | (simp; done)) _ | refine bt ?_ (by assumption)))))
  have HX1 := Lib.hid (show BoxC Wb (w.heap.size + 1) #[.int .i64 0, .string ⟨#[]⟩, .bool false, .int .i64 0, .int .i64 0, .int .i64 0, .int .i64 0, .slice none 0 0] by rw [hWb]; exact (BoxC.start (w.alloc (.cells #[.int .i64 r, .string (mk p), .string (mk n), .bool i, .int .i64 st, .slice ab body.length cb] 55)) _ _).at (by simp))
  have HF1 := Lib.hid (fun (j : Nat) => (show Wb.frozen? ⟨w.heap.size + 1, j, none⟩ = false by rw [hWb]; simp [go_sem]))
  have HWe := Lib.hid hWb
  have Hk := Lib.hid (fun (w' : World) (hC : Below Wb.heap.size Wb w') => (⟨(HX0.out.below hC).2 0, (HX0.out.below hC).2 1, (HX0.out.below hC).2 2, (HX0.out.below hC).2 3, (HX0.out.below hC).2 4, (HX0.out.below hC).2 5, (HX1.out.below hC).2 0, (HX1.out.below hC).2 1, (HX1.out.below hC).2 2, (HX1.out.below hC).2 3, (HX1.out.below hC).2 4, (HX1.out.below hC).2 5, (HX1.out.below hC).2 6, (HX1.out.below hC).2 7, (hC.frozen (p := ⟨w.heap.size + 1, 0, none⟩) (by have := HWs.out; dsimp only; omega)).trans (HF1.out 0), (hC.frozen (p := ⟨w.heap.size + 1, 1, none⟩) (by have := HWs.out; dsimp only; omega)).trans (HF1.out 1), (hC.frozen (p := ⟨w.heap.size + 1, 2, none⟩) (by have := HWs.out; dsimp only; omega)).trans (HF1.out 2), (hC.frozen (p := ⟨w.heap.size + 1, 3, none⟩) (by have := HWs.out; dsimp only; omega)).trans (HF1.out 3), (hC.frozen (p := ⟨w.heap.size + 1, 4, none⟩) (by have := HWs.out; dsimp only; omega)).trans (HF1.out 4), (hC.frozen (p := ⟨w.heap.size + 1, 5, none⟩) (by have := HWs.out; dsimp only; omega)).trans (HF1.out 5), (hC.frozen (p := ⟨w.heap.size + 1, 6, none⟩) (by have := HWs.out; dsimp only; omega)).trans (HF1.out 6), (hC.frozen (p := ⟨w.heap.size + 1, 7, none⟩) (by have := HWs.out; dsimp only; omega)).trans (HF1.out 7), (by have := HWs.out; have := hC.size; omega), (by have := HWs.out; have := hC.size; omega)⟩ : w'.cell? ⟨w.heap.size, 0, none⟩ = some (.int .i64 r) ∧ w'.cell? ⟨w.heap.size, 1, none⟩ = some (.string (mk p)) ∧ w'.cell? ⟨w.heap.size, 2, none⟩ = some (.string (mk n)) ∧ w'.cell? ⟨w.heap.size, 3, none⟩ = some (.bool i) ∧ w'.cell? ⟨w.heap.size, 4, none⟩ = some (.int .i64 st) ∧ w'.cell? ⟨w.heap.size, 5, none⟩ = some (.slice ab body.length cb) ∧ w'.cell? ⟨w.heap.size + 1, 0, none⟩ = some (.int .i64 0) ∧ w'.cell? ⟨w.heap.size + 1, 1, none⟩ = some (.string ⟨#[]⟩) ∧ w'.cell? ⟨w.heap.size + 1, 2, none⟩ = some (.bool false) ∧ w'.cell? ⟨w.heap.size + 1, 3, none⟩ = some (.int .i64 0) ∧ w'.cell? ⟨w.heap.size + 1, 4, none⟩ = some (.int .i64 0) ∧ w'.cell? ⟨w.heap.size + 1, 5, none⟩ = some (.int .i64 0) ∧ w'.cell? ⟨w.heap.size + 1, 6, none⟩ = some (.int .i64 0) ∧ w'.cell? ⟨w.heap.size + 1, 7, none⟩ = some (.slice none 0 0) ∧ w'.frozen? ⟨w.heap.size + 1, 0, none⟩ = false ∧ w'.frozen? ⟨w.heap.size + 1, 1, none⟩ = false ∧ w'.frozen? ⟨w.heap.size + 1, 2, none⟩ = false ∧ w'.frozen? ⟨w.heap.size + 1, 3, none⟩ = false ∧ w'.frozen? ⟨w.heap.size + 1, 4, none⟩ = false ∧ w'.frozen? ⟨w.heap.size + 1, 5, none⟩ = false ∧ w'.frozen? ⟨w.heap.size + 1, 6, none⟩ = false ∧ w'.frozen? ⟨w.heap.size + 1, 7, none⟩ = false ∧ w.heap.size + 1 < w'.heap.size ∧ w.heap.size < w'.heap.size))
  clear hWb
  obtain ⟨d0, d1, d2, d3, d4, d5, e0, e1, e2, e3, e4, e5, e6, e7, g0, g1, g2, g3, g4, g5, g6, g7, zs, zt⟩ := Hk.out _ (Below.refl _ _)
  have Hok := Lib.hid hok
  have Hn := Lib.hid (show compiled ⟨r, p, n, i, st, body⟩ mode = ⟨r, modName ⟨r, p, n, i, st, body⟩, i, mode, st, (sizeSum body : Nat), hashOf body, body⟩ from rfl)
  clear hok
  go_enter Try.func85, Try.ntmps85
  go_upto_region 1 with fail
  rw [← HWe.out]
  have HB0 : Below Wb.heap.size Wb Wb := Below.refl _ _
  have Hkk := Lib.hid (fun (w' : World) (hC : Below Wb.heap.size Wb w') => (by
    obtain ⟨d0, d1, d2, d3, d4, d5, _⟩ := Hk.out w' hC
    exact ⟨d0, d1, d2, d3, d4, d5, HBw.out.trans (hC.mono HBw.out.size)⟩ : (fun w' => w'.cell? ⟨w.heap.size, 0, none⟩ = some (.int .i64 r) ∧ w'.cell? ⟨w.heap.size, 1, none⟩ = some (.string (mk p)) ∧ w'.cell? ⟨w.heap.size, 2, none⟩ = some (.string (mk n)) ∧ w'.cell? ⟨w.heap.size, 3, none⟩ = some (.bool i) ∧ w'.cell? ⟨w.heap.size, 4, none⟩ = some (.int .i64 st) ∧ w'.cell? ⟨w.heap.size, 5, none⟩ = some (.slice ab body.length cb) ∧ Below w.heap.size w w') w'))
  clear d0 d1 d2 d3 d4 d5 e0 e1 e2 e3 e4 e5 e6 e7 g0 g1 g2 g3 g4 g5 g6 g7 zs zt
  obtain ⟨d0, d1, d2, d3, d4, d5, _⟩ := Hkk.out _ HB0
  go_region_held3 (fun w' => w'.cell? ⟨w.heap.size, 0, none⟩ = some (.int .i64 r) ∧ w'.cell? ⟨w.heap.size, 1, none⟩ = some (.string (mk p)) ∧ w'.cell? ⟨w.heap.size, 2, none⟩ = some (.string (mk n)) ∧ w'.cell? ⟨w.heap.size, 3, none⟩ = some (.bool i) ∧ w'.cell? ⟨w.heap.size, 4, none⟩ = some (.int .i64 st) ∧ w'.cell? ⟨w.heap.size, 5, none⟩ = some (.slice ab body.length cb) ∧ Below w.heap.size w w')
    (first
      | (refine ⟨?_, ?_, ?_, ?_, ?_, ?_, ?_⟩ <;> first | (simp [go_sem, f0, f1, f2, f3, f4, f5]; done) | ((repeat (with_reducible first | exact Below.refl _ _ | assumption | refine ba ?_ _ | refine bd ?_ | refine bdN ?_ _ | refine bs ?_ (by first | exact Nat.le_refl _ | (dsimp only; omega) | (simp; done)) _ | refine bt ?_ (by assumption))); done))
      | (refine Hkk.out _ ?_; (repeat (with_reducible first | exact Below.refl _ _ | assumption | refine ba ?_ _ | refine bd ?_ | refine bdN ?_ _ | refine bs ?_ (by first | exact Nat.le_refl _ | (dsimp only; omega) | (simp; done)) _ | refine bt ?_ (by assumption))); done))
    (first
      | (go_at_call 60; refine (spec_moduleName r st p n i _ body _ (by omega) (by omega)).mono ?_; rintro _ wA ⟨rfl, hbA⟩)
      | (go_at_call 116; refine (spec_sizeOf _ body (fun _ => True) _ (HS.out.below (HBw.out.trans ((show Below Wb.heap.size Wb _ by (repeat (with_reducible first | exact Below.refl _ _ | assumption | refine ba ?_ _ | refine bd ?_ | refine bdN ?_ _ | refine bs ?_ (by first | exact Nat.le_refl _ | (dsimp only; omega) | (simp; done)) _ | refine bt ?_ (by assumption)))).mono HBw.out.size))) Hz.out Hok.out).mono ?_; rintro _ wB ⟨rfl, hbB⟩)
      | (go_at_call 117; refine (spec_hashOf _ body (fun _ => True) _ (HS.out.below (HBw.out.trans ((show Below Wb.heap.size Wb _ by (repeat (with_reducible first | exact Below.refl _ _ | assumption | refine ba ?_ _ | refine bd ?_ | refine bdN ?_ _ | refine bs ?_ (by first | exact Nat.le_refl _ | (dsimp only; omega) | (simp; done)) _ | refine bt ?_ (by assumption)))).mono HBw.out.size))) Hz.out Hok.out).mono ?_; rintro _ wD ⟨rfl, hbD⟩)
      | (refine step_append_lit rfl (.tmp 20) (.tmp 22) rfl Wb.heap.size _ _ rfl (by first | exact made_later Wb _ _ rfl (Nat.le_refl _) (by (repeat (with_reducible first | exact Below.refl _ _ | assumption | refine ba ?_ _ | refine bd ?_ | refine bdN ?_ _ | refine bs ?_ (by first | exact Nat.le_refl _ | (dsimp only; omega) | (simp; done)) _ | refine bt ?_ (by assumption))); done) | exact made_later wA _ _ rfl (show Below Wb.heap.size Wb _ by (repeat (with_reducible first | exact Below.refl _ _ | assumption | refine ba ?_ _ | refine bd ?_ | refine bdN ?_ _ | refine bs ?_ (by first | exact Nat.le_refl _ | (dsimp only; omega) | (simp; done)) _ | refine bt ?_ (by assumption)))).size (by (repeat (with_reducible first | exact Below.refl _ _ | assumption | refine ba ?_ _ | refine bd ?_ | refine bdN ?_ _ | refine bs ?_ (by first | exact Nat.le_refl _ | (dsimp only; omega) | (simp; done)) _ | refine bt ?_ (by assumption))); done) | exact made_later wB _ _ rfl (show Below Wb.heap.size Wb _ by (repeat (with_reducible first | exact Below.refl _ _ | assumption | refine ba ?_ _ | refine bd ?_ | refine bdN ?_ _ | refine bs ?_ (by first | exact Nat.le_refl _ | (dsimp only; omega) | (simp; done)) _ | refine bt ?_ (by assumption)))).size (by (repeat (with_reducible first | exact Below.refl _ _ | assumption | refine ba ?_ _ | refine bd ?_ | refine bdN ?_ _ | refine bs ?_ (by first | exact Nat.le_refl _ | (dsimp only; omega) | (simp; done)) _ | refine bt ?_ (by assumption))); done) | exact made_later wD _ _ rfl (show Below Wb.heap.size Wb _ by (repeat (with_reducible first | exact Below.refl _ _ | assumption | refine ba ?_ _ | refine bd ?_ | refine bdN ?_ _ | refine bs ?_ (by first | exact Nat.le_refl _ | (dsimp only; omega) | (simp; done)) _ | refine bt ?_ (by assumption)))).size (by (repeat (with_reducible first | exact Below.refl _ _ | assumption | refine ba ?_ _ | refine bd ?_ | refine bdN ?_ _ | refine bs ?_ (by first | exact Nat.le_refl _ | (dsimp only; omega) | (simp; done)) _ | refine bt ?_ (by assumption))); done)) body rfl (owns_below Hb.out (HBw.out.trans ((show Below Wb.heap.size Wb _ by (repeat (with_reducible first | exact Below.refl _ _ | assumption | refine ba ?_ _ | refine bd ?_ | refine bdN ?_ _ | refine bs ?_ (by first | exact Nat.le_refl _ | (dsimp only; omega) | (simp; done)) _ | refine bt ?_ (by assumption)))).mono HBw.out.size))) hl (show Below Wb.heap.size Wb _ by (repeat (with_reducible first | exact Below.refl _ _ | assumption | refine ba ?_ _ | refine bd ?_ | refine bdN ?_ _ | refine bs ?_ (by first | exact Nat.le_refl _ | (dsimp only; omega) | (simp; done)) _ | refine bt ?_ (by assumption)))).size ?_; intro aC cC wE hownE hbE; have HOC := Lib.hid (show wE.ownsRow (w.heap.size + 2) _ _ _ _ _ from by rw [← HWs.out]; exact hownE); have HBC := Lib.hid (show Below Wb.heap.size Wb wE from Below.trans (by (repeat (with_reducible first | exact Below.refl _ _ | assumption | refine ba ?_ _ | refine bd ?_ | refine bdN ?_ _ | refine bs ?_ (by first | exact Nat.le_refl _ | (dsimp only; omega) | (simp; done)) _ | refine bt ?_ (by assumption)))) hbE); obtain ⟨f0, f1, f2, f3, f4, f5, e0, e1, e2, e3, e4, e5, e6, e7, g0, g1, g2, g3, g4, g5, g6, g7, zs, zt⟩ := Hk.out wE HBC.out; clear hownE hbE; have hBC := HBC.out))
  all_goals
    go_wp2_with fail
    refine bodyPost_ret (v := .agg #[.int .i64 r, .string (mk (modName ⟨r, p, n, i, st, body⟩)), .bool i, .int .i64 mode, .int .i64 st, .int .i64 (sizeSum body : Nat), .int .i64 (hashOf body), .slice aC body.length cC]) (by simp [results, Try.results85, go_sem, *]) rfl ?_
    rw [Hn.out]
    have hbw := HBw.out.trans (HBC.out.mono HBw.out.size)
    refine ⟨_, rfl, ?_, by (repeat (with_reducible first | exact Below.refl _ _ | assumption | refine ba ?_ _ | refine bd ?_ | refine bdN ?_ _ | refine bs ?_ (by first | exact Nat.le_refl _ | (dsimp only; omega) | (simp; done)) _ | refine bt ?_ (by assumption)))⟩
    refine owns_mono (B := w.heap.size + 2) ?_ (by omega)
    (repeat (with_reducible first | refine World.ownsRow.alloc ?_ _ | refine owns_set_low ?_ (by first | (dsimp only; omega) | (simp; done) | (simp; omega)) _))
    exact HOC.out


end Go.Proofs.Ytomdmkhgkaalnaa
