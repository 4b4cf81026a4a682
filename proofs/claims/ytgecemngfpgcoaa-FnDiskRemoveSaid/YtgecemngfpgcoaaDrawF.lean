/- The function that draws a file: whatever the code, it answers a short one, with a body in memory of its own. Written by mkfile.py. -/
import Derived.Test.YtgecemngfpgcoaaDrawU
import Derived.Test.YtgecemngfpgcoaaSzTree
set_option linter.unusedVariables false
set_option linter.unusedSimpArgs false
namespace Go.Proofs.Ytgecemngfpgcoaa
open Go.RowKit Go.Proofs.Ytgecemngfpgcoaa.Nm

/-- What a function that draws a file comes to. -/
def DrawFil (R q c : Nat) (w : World) (e : Ending) (w' : World) : Prop :=
  ∃ (f : Fil) (bv : Value), e = .returned (filV (f, bv)) ∧ w'.ownsRow w.heap.size 138 5 bv f.body.length (f.body.flatMap stmCells) ∧ ShortF 8 f ∧ f.body.length ≤ 4 ∧ ∃ q', q' ≤ q + c ∧ Rd w' R q' ∧ w.grownBy w' (some R)
/-- .. and the file is a valid one. -/
def DrawFilK (R q c : Nat) (w : World) (e : Ending) (w' : World) : Prop :=
  ∃ (f : Fil) (bv : Value), e = .returned (filV (f, bv)) ∧ okFil f = true ∧ w'.ownsRow w.heap.size 138 5 bv f.body.length (f.body.flatMap stmCells) ∧ ShortF 8 f ∧ f.body.length ≤ 4 ∧ ∃ q', q' ≤ q + c ∧ Rd w' R q' ∧ w.grownBy w' (some R)
theorem Dst.cells6 {w w1 : World} {R X : Nat} {a b c d e f : Value} (h : Dst w R X #[a, b, c, d, e, f] w1) :
    w1.cell? ⟨X, 0, none⟩ = some a ∧ w1.cell? ⟨X, 1, none⟩ = some b ∧ w1.cell? ⟨X, 2, none⟩ = some c ∧ w1.cell? ⟨X, 3, none⟩ = some d ∧ w1.cell? ⟨X, 4, none⟩ = some e ∧ w1.cell? ⟨X, 5, none⟩ = some f := ⟨h.1.2 0, h.1.2 1, h.1.2 2, h.1.2 3, h.1.2 4, h.1.2 5⟩
/-- One cell of the box is put, of another box none. -/
theorem Dst.put {w w1 : World} {R X : Nat} {cs : Array Value} (h : Dst w R X cs w1) (i : Nat) (hi : i < cs.size) (v : Value) : Dst w R X (cs.set i v hi) (w1.setCell ⟨X, i, none⟩ v) := by
  obtain ⟨⟨b1, b2⟩, f, g, hx, hw⟩ := h
  refine ⟨⟨Nat.lt_of_lt_of_eq b1 (by simp), fun j => ?_⟩, fun j => by rw [World.frozen?_setCell]; exact f j, gb_set g (p := ⟨X, i, none⟩) hw v, hx, hw⟩
  by_cases e : j = i
  · subst e
    have hc : w1.cell? ⟨X, j, none⟩ = some cs[j] := by rw [b2 j]; exact Array.getElem?_eq_getElem hi
    simp [go_sem, hc]
  · rw [World.cell?_setCell_other _ _ _ _ (by simp [e]), b2 j]
    simp [Array.getElem?_set, Ne.symm e]
theorem Dst.other {w w1 : World} {R X Y : Nat} {cs : Array Value} (h : Dst w R X cs w1) (hY : Y ≠ X) (hw' : w.heap.size ≤ Y) (i : Nat) (v : Value) : Dst w R X cs (w1.setCell ⟨Y, i, none⟩ v) := by
  obtain ⟨⟨b1, b2⟩, f, g, hx, hw⟩ := h
  refine ⟨⟨Nat.lt_of_lt_of_eq b1 (by simp), fun j => ?_⟩, fun j => by rw [World.frozen?_setCell]; exact f j, gb_set g (p := ⟨Y, i, none⟩) hw' v, hx, hw⟩
  rw [World.cell?_setCell_other _ _ _ _ (by simp [Ne.symm hY])]; exact b2 j
set_option maxRecDepth 100000 in
set_option maxHeartbeats 2000000 in
theorem spec_someFileK (R q : Nat) (w : World) (hr : Rd w R q) (hq : q ≤ 500000) :
    Calls Try.prog 119 #[.pointer (some ⟨R, 0, none⟩)] w (DrawFilK R q 60 w) := by
  have hR := hr.lt
  go_enter Try.func119, Try.ntmps119
  go_wp2_with fail
  have d0 := Dst.start hR #[.int .i64 0, .string (⟨#[]⟩ : ByteArray), .string (⟨#[]⟩ : ByteArray), .bool false, .int .i64 0, .slice none 0 0] 36
  have hr0 := hr.alloc (.cells #[.int .i64 0, .string (⟨#[]⟩ : ByteArray), .string (⟨#[]⟩ : ByteArray), .bool false, .int .i64 0, .slice none 0 0] 36)
  have hlt0 : w.heap.size + 1 ≠ R := by omega
  refine (reader_one R q (w.heap.size + 1) 3 [0, 0, 1, 2, 1] _ (hr0.alloc _) (by have h := heap_new (w.alloc (.cells #[.int .i64 0, .string (⟨#[]⟩ : ByteArray), .string (⟨#[]⟩ : ByteArray), .bool false, .int .i64 0, .slice none 0 0] 36)) ([0, 0, 1, 2, 1].map ivN).toArray 3; rw [World.size_alloc] at h; exact h) hlt0 (by decide) (by decide) (by omega)).mono ?_
  rintro e w1 ⟨rt, hrt, rfl, hr1, hg1⟩
  have D1 := Lib.hid ((d0.alloc _).step hg1)
  have Hrt := Lib.hid (mem_int 0 2 (by decide) hrt)
  clear d0 hg1 hrt hr0 hlt0
  go_wp2_with fail
  refine (reader_pick R (q + 1) _ _ hr1 (by omega) (by omega)).mono ?_
  rintro e w2 ⟨st, rfl, hst0, hst, hr2, hg2⟩
  have D2 := Lib.hid (D1.out.step hg2)
  have hz2 := D2.out.2.2.1.size
  have hzs2 := D2.out.1.1
  have Hst := Lib.hid (show 0 ≤ st ∧ st < 100 by omega)
  clear hg2 hst0 hst
  go_wp2_with fail
  refine (spec_someBodyK R (q + 1 + 1) _ hr2 (by omega)).mono ?_
  rintro e w3 ⟨bv, ss, rfl, hown3, hkb, hsh, hl4, q3, hq3, hr3, hg3⟩
  have D3 := Lib.hid (D2.out.step hg3)
  obtain ⟨ba, bc, rfl⟩ := owns_shape hown3
  have Hsh := Lib.hid hsh
  have Hkb := Lib.hid hkb
  have hz3 := D3.out.2.2.1.size
  have hzl := D3.out.1.1
  have hR3 := hr3.lt
  have Hge := Lib.hid (fun b hb => (hown3.lt b hb).1)
  have Hlt := Lib.hid (fun b hb => (hown3.lt b hb).2)
  have e1 := Dst.start (w := w3) hR3 #[.int .i64 rt, .string (⟨#[]⟩ : ByteArray), .string (⟨#[]⟩ : ByteArray), .bool false, .int .i64 st, .slice ba ss.length bc] 36
  have D4 := Lib.hid (D3.out.alloc (.cells #[.int .i64 rt, .string (⟨#[]⟩ : ByteArray), .string (⟨#[]⟩ : ByteArray), .bool false, .int .i64 st, .slice ba ss.length bc] 36))
  have hr4 := hr3.alloc (.cells #[.int .i64 rt, .string (⟨#[]⟩ : ByteArray), .string (⟨#[]⟩ : ByteArray), .bool false, .int .i64 st, .slice ba ss.length bc] 36)
  have Hown4 := Lib.hid (hown3.alloc (.cells #[.int .i64 rt, .string (⟨#[]⟩ : ByteArray), .string (⟨#[]⟩ : ByteArray), .bool false, .int .i64 st, .slice ba ss.length bc] 36))
  have hzz : w2.heap.size ≤ w3.heap.size := hg3.size
  clear hg3 hown3 hsh hr3 hkb
  go_wp2_with fail
  refine (reader_pick R q3 _ _ hr4 (by omega) (by omega)).mono ?_
  rintro e w5 ⟨j, rfl, hj0, hj, hr5, hg5⟩
  have E5 := Lib.hid (e1.step hg5)
  have D5 := Lib.hid (D4.out.step hg5)
  have Hown5 := Lib.hid (Hown4.out.kept hg5 (.inr (fun e => by have := Hge.out _ e; omega)))
  clear hg5 e1 D4 Hown4 hr4 D1 D2 D3
  obtain ⟨X, hX⟩ : ∃ X, X = w3.heap.size := ⟨_, rfl⟩
  rw [← hX] at E5 Hlt hzl ⊢
  have hXw : w.heap.size ≠ X := by omega
  have hXw' : X ≠ w.heap.size := by omega
  have hXle : w3.heap.size ≤ X := by omega
  have hwX : w.heap.size ≤ X := by omega
  have hRX : R < X := by omega
  clear hX
  have hcase : (j = 0 ∨ j = 1) ∨ (j = 2 ∨ j = 3) ∨ j = 4 ∨ j = 5 := by omega
  rcases hcase with (rfl | rfl) | (rfl | rfl) | rfl | rfl
  · skip
    have Ep := Lib.hid E5.out
    have Dp := Lib.hid D5.out
    have Hownp := Lib.hid Hown5.out
    have hrp := hr5
    skip
    go_wp2_with fail
    refine (spec_aPartK R (q3 + 1) _ hrp (by omega)).mono ?_
    rintro e w6 ⟨p6, rfl, hv6, hp6, q6, hq6, hr6, hg6⟩
    have E6 := Lib.hid (Ep.out.step hg6)
    have D6 := Lib.hid (Dp.out.step hg6)
    have Hown6 := Lib.hid (Hownp.out.kept hg6 (.inr (fun e => by have := Hge.out _ e; omega)))
    have Hv6 := Lib.hid hv6
    clear hg6 Ep Dp Hownp hrp hv6
    obtain ⟨x0, x1, x2, x3, x4, x5⟩ := Dst.cells6 E6.out
    obtain ⟨y0, y1, y2, y3, y4, y5⟩ := Dst.cells6 D6.out
    have xf := E6.out.2.1
    have yf := D6.out.2.1
    have xf0 := xf 0
    have xf1 := xf 1
    have xf2 := xf 2
    have xf3 := xf 3
    have yf0 := yf 0
    have yf1 := yf 1
    have yf2 := yf 2
    have yf3 := yf 3
    have yf4 := yf 4
    have yf5 := yf 5
    clear xf yf
    go_wp2_with fail
    refine bodyPost_ret (v := filV (⟨rt, [], p6, false, st, ss⟩, .slice ba ss.length bc)) (by simp [results, Try.results119, go_sem, filV, mk_nil, *]) rfl ⟨_, _, rfl, okF_name Hrt.out Hst.out Hkb.out Hv6.out, ?_, ⟨by simp <;> omega, by simp <;> omega, Hsh.out⟩, hl4, q6, by omega, ?_, ?_⟩
    · have h3 := Hown6.out
      refine owns_mono (B := w2.heap.size) ?_ (by omega)
      repeat (first | with_reducible exact h3 | with_reducible refine owns_set_otherD ?_ (fun b hb => by have h1 := Hlt.out b hb; have h2 := Hge.out b hb; dsimp only; omega) _)
    · repeat (first | with_reducible exact hr6 | with_reducible refine Rd.set ?_ (by dsimp only; omega) _)
    · have h3 := D6.out.2.2.1
      repeat (first | with_reducible exact h3 | with_reducible refine gb_set ?_ (by dsimp only; omega) _)
  · skip
    have Ep := Lib.hid E5.out
    have Dp := Lib.hid D5.out
    have Hownp := Lib.hid Hown5.out
    have hrp := hr5
    skip
    go_wp2_with fail
    refine (spec_aPartK R (q3 + 1) _ hrp (by omega)).mono ?_
    rintro e w6 ⟨p6, rfl, hv6, hp6, q6, hq6, hr6, hg6⟩
    have E6 := Lib.hid (Ep.out.step hg6)
    have D6 := Lib.hid (Dp.out.step hg6)
    have Hown6 := Lib.hid (Hownp.out.kept hg6 (.inr (fun e => by have := Hge.out _ e; omega)))
    have Hv6 := Lib.hid hv6
    clear hg6 Ep Dp Hownp hrp hv6
    obtain ⟨x0, x1, x2, x3, x4, x5⟩ := Dst.cells6 E6.out
    obtain ⟨y0, y1, y2, y3, y4, y5⟩ := Dst.cells6 D6.out
    have xf := E6.out.2.1
    have yf := D6.out.2.1
    have xf0 := xf 0
    have xf1 := xf 1
    have xf2 := xf 2
    have xf3 := xf 3
    have yf0 := yf 0
    have yf1 := yf 1
    have yf2 := yf 2
    have yf3 := yf 3
    have yf4 := yf 4
    have yf5 := yf 5
    clear xf yf
    go_wp2_with fail
    refine bodyPost_ret (v := filV (⟨rt, [], p6, false, st, ss⟩, .slice ba ss.length bc)) (by simp [results, Try.results119, go_sem, filV, mk_nil, *]) rfl ⟨_, _, rfl, okF_name Hrt.out Hst.out Hkb.out Hv6.out, ?_, ⟨by simp <;> omega, by simp <;> omega, Hsh.out⟩, hl4, q6, by omega, ?_, ?_⟩
    · have h3 := Hown6.out
      refine owns_mono (B := w2.heap.size) ?_ (by omega)
      repeat (first | with_reducible exact h3 | with_reducible refine owns_set_otherD ?_ (fun b hb => by have h1 := Hlt.out b hb; have h2 := Hge.out b hb; dsimp only; omega) _)
    · repeat (first | with_reducible exact hr6 | with_reducible refine Rd.set ?_ (by dsimp only; omega) _)
    · have h3 := D6.out.2.2.1
      repeat (first | with_reducible exact h3 | with_reducible refine gb_set ?_ (by dsimp only; omega) _)
  · skip
    have Ep := Lib.hid E5.out
    have Dp := Lib.hid D5.out
    have Hownp := Lib.hid Hown5.out
    have hrp := hr5
    skip
    go_wp2_with fail
    refine (spec_aPartK R (q3 + 1) _ hrp (by omega)).mono ?_
    rintro e w6 ⟨p6, rfl, hv6, hp6, q6, hq6, hr6, hg6⟩
    have E6 := Lib.hid (Ep.out.step hg6)
    have D6 := Lib.hid (Dp.out.step hg6)
    have Hown6 := Lib.hid (Hownp.out.kept hg6 (.inr (fun e => by have := Hge.out _ e; omega)))
    have Hv6 := Lib.hid hv6
    clear hg6 Ep Dp Hownp hrp hv6
    obtain ⟨x0, x1, x2, x3, x4, x5⟩ := Dst.cells6 E6.out
    obtain ⟨y0, y1, y2, y3, y4, y5⟩ := Dst.cells6 D6.out
    have xf := E6.out.2.1
    have yf := D6.out.2.1
    have xf0 := xf 0
    have xf1 := xf 1
    have xf2 := xf 2
    have xf3 := xf 3
    have yf0 := yf 0
    have yf1 := yf 1
    have yf2 := yf 2
    have yf3 := yf 3
    have yf4 := yf 4
    have yf5 := yf 5
    clear xf yf
    have Ep := Lib.hid (Dst.put E6.out 1 (by simp) (.string (mk p6)))
    have Dp := Lib.hid (Dst.other D6.out hXw' hwX 1 (.string (mk p6)))
    have Hownp := Lib.hid (owns_set_otherD Hown6.out (p := ⟨X, 1, none⟩) (fun b hb => by have := Hlt.out b hb; dsimp only; omega) (.string (mk p6)))
    have hrp := (Rd.set hr6 (p := ⟨X, 1, none⟩) hRX (.string (mk p6)))
    simp only [List.set_toArray, List.set_cons_zero, List.set_cons_succ] at Ep
    go_wp2_with fail
    refine (spec_aPartK R q6 _ hrp (by omega)).mono ?_
    rintro e w7 ⟨p7, rfl, hv7, hp7, q7, hq7, hr7, hg7⟩
    have E7 := Lib.hid (Ep.out.step hg7)
    have D7 := Lib.hid (Dp.out.step hg7)
    have Hown7 := Lib.hid (Hownp.out.kept hg7 (.inr (fun e => by have := Hge.out _ e; omega)))
    have Hv7 := Lib.hid hv7
    clear hg7 Ep Dp Hownp hrp hv7
    clear x0 x1 x2 x3 x4 x5 y0 y1 y2 y3 y4 y5 xf0 xf1 xf2 xf3 yf0 yf1 yf2 yf3 yf4 yf5
    obtain ⟨x0, x1, x2, x3, x4, x5⟩ := Dst.cells6 E7.out
    obtain ⟨y0, y1, y2, y3, y4, y5⟩ := Dst.cells6 D7.out
    have xf := E7.out.2.1
    have yf := D7.out.2.1
    have xf0 := xf 0
    have xf1 := xf 1
    have xf2 := xf 2
    have xf3 := xf 3
    have yf0 := yf 0
    have yf1 := yf 1
    have yf2 := yf 2
    have yf3 := yf 3
    have yf4 := yf 4
    have yf5 := yf 5
    clear xf yf
    go_wp2_with fail
    refine bodyPost_ret (v := filV (⟨rt, p6, p7, false, st, ss⟩, .slice ba ss.length bc)) (by simp [results, Try.results119, go_sem, filV, mk_nil, *]) rfl ⟨_, _, rfl, okF_in Hrt.out Hst.out Hkb.out Hv6.out Hv7.out, ?_, ⟨by simp <;> omega, by simp <;> omega, Hsh.out⟩, hl4, q7, by omega, ?_, ?_⟩
    · have h3 := Hown7.out
      refine owns_mono (B := w2.heap.size) ?_ (by omega)
      repeat (first | with_reducible exact h3 | with_reducible refine owns_set_otherD ?_ (fun b hb => by have h1 := Hlt.out b hb; have h2 := Hge.out b hb; dsimp only; omega) _)
    · repeat (first | with_reducible exact hr7 | with_reducible refine Rd.set ?_ (by dsimp only; omega) _)
    · have h3 := D7.out.2.2.1
      repeat (first | with_reducible exact h3 | with_reducible refine gb_set ?_ (by dsimp only; omega) _)
  · skip
    have Ep := Lib.hid E5.out
    have Dp := Lib.hid D5.out
    have Hownp := Lib.hid Hown5.out
    have hrp := hr5
    skip
    go_wp2_with fail
    refine (spec_aPartK R (q3 + 1) _ hrp (by omega)).mono ?_
    rintro e w6 ⟨p6, rfl, hv6, hp6, q6, hq6, hr6, hg6⟩
    have E6 := Lib.hid (Ep.out.step hg6)
    have D6 := Lib.hid (Dp.out.step hg6)
    have Hown6 := Lib.hid (Hownp.out.kept hg6 (.inr (fun e => by have := Hge.out _ e; omega)))
    have Hv6 := Lib.hid hv6
    clear hg6 Ep Dp Hownp hrp hv6
    obtain ⟨x0, x1, x2, x3, x4, x5⟩ := Dst.cells6 E6.out
    obtain ⟨y0, y1, y2, y3, y4, y5⟩ := Dst.cells6 D6.out
    have xf := E6.out.2.1
    have yf := D6.out.2.1
    have xf0 := xf 0
    have xf1 := xf 1
    have xf2 := xf 2
    have xf3 := xf 3
    have yf0 := yf 0
    have yf1 := yf 1
    have yf2 := yf 2
    have yf3 := yf 3
    have yf4 := yf 4
    have yf5 := yf 5
    clear xf yf
    have Ep := Lib.hid (Dst.put E6.out 1 (by simp) (.string (mk p6)))
    have Dp := Lib.hid (Dst.other D6.out hXw' hwX 1 (.string (mk p6)))
    have Hownp := Lib.hid (owns_set_otherD Hown6.out (p := ⟨X, 1, none⟩) (fun b hb => by have := Hlt.out b hb; dsimp only; omega) (.string (mk p6)))
    have hrp := (Rd.set hr6 (p := ⟨X, 1, none⟩) hRX (.string (mk p6)))
    simp only [List.set_toArray, List.set_cons_zero, List.set_cons_succ] at Ep
    go_wp2_with fail
    refine (spec_aPartK R q6 _ hrp (by omega)).mono ?_
    rintro e w7 ⟨p7, rfl, hv7, hp7, q7, hq7, hr7, hg7⟩
    have E7 := Lib.hid (Ep.out.step hg7)
    have D7 := Lib.hid (Dp.out.step hg7)
    have Hown7 := Lib.hid (Hownp.out.kept hg7 (.inr (fun e => by have := Hge.out _ e; omega)))
    have Hv7 := Lib.hid hv7
    clear hg7 Ep Dp Hownp hrp hv7
    clear x0 x1 x2 x3 x4 x5 y0 y1 y2 y3 y4 y5 xf0 xf1 xf2 xf3 yf0 yf1 yf2 yf3 yf4 yf5
    obtain ⟨x0, x1, x2, x3, x4, x5⟩ := Dst.cells6 E7.out
    obtain ⟨y0, y1, y2, y3, y4, y5⟩ := Dst.cells6 D7.out
    have xf := E7.out.2.1
    have yf := D7.out.2.1
    have xf0 := xf 0
    have xf1 := xf 1
    have xf2 := xf 2
    have xf3 := xf 3
    have yf0 := yf 0
    have yf1 := yf 1
    have yf2 := yf 2
    have yf3 := yf 3
    have yf4 := yf 4
    have yf5 := yf 5
    clear xf yf
    go_wp2_with fail
    refine bodyPost_ret (v := filV (⟨rt, p6, p7, false, st, ss⟩, .slice ba ss.length bc)) (by simp [results, Try.results119, go_sem, filV, mk_nil, *]) rfl ⟨_, _, rfl, okF_in Hrt.out Hst.out Hkb.out Hv6.out Hv7.out, ?_, ⟨by simp <;> omega, by simp <;> omega, Hsh.out⟩, hl4, q7, by omega, ?_, ?_⟩
    · have h3 := Hown7.out
      refine owns_mono (B := w2.heap.size) ?_ (by omega)
      repeat (first | with_reducible exact h3 | with_reducible refine owns_set_otherD ?_ (fun b hb => by have h1 := Hlt.out b hb; have h2 := Hge.out b hb; dsimp only; omega) _)
    · repeat (first | with_reducible exact hr7 | with_reducible refine Rd.set ?_ (by dsimp only; omega) _)
    · have h3 := D7.out.2.2.1
      repeat (first | with_reducible exact h3 | with_reducible refine gb_set ?_ (by dsimp only; omega) _)
  · skip
    have Ep := Lib.hid E5.out
    have Dp := Lib.hid D5.out
    have Hownp := Lib.hid Hown5.out
    have hrp := hr5
    skip
    go_wp2_with fail
    refine (spec_aPartK R (q3 + 1) _ hrp (by omega)).mono ?_
    rintro e w6 ⟨p6, rfl, hv6, hp6, q6, hq6, hr6, hg6⟩
    have E6 := Lib.hid (Ep.out.step hg6)
    have D6 := Lib.hid (Dp.out.step hg6)
    have Hown6 := Lib.hid (Hownp.out.kept hg6 (.inr (fun e => by have := Hge.out _ e; omega)))
    have Hv6 := Lib.hid hv6
    clear hg6 Ep Dp Hownp hrp hv6
    obtain ⟨x0, x1, x2, x3, x4, x5⟩ := Dst.cells6 E6.out
    obtain ⟨y0, y1, y2, y3, y4, y5⟩ := Dst.cells6 D6.out
    have xf := E6.out.2.1
    have yf := D6.out.2.1
    have xf0 := xf 0
    have xf1 := xf 1
    have xf2 := xf 2
    have xf3 := xf 3
    have yf0 := yf 0
    have yf1 := yf 1
    have yf2 := yf 2
    have yf3 := yf 3
    have yf4 := yf 4
    have yf5 := yf 5
    clear xf yf
    go_wp2_with fail
    refine bodyPost_ret (v := filV (⟨rt, p6, [], true, st, ss⟩, .slice ba ss.length bc)) (by simp [results, Try.results119, go_sem, filV, mk_nil, *]) rfl ⟨_, _, rfl, okF_init Hrt.out Hst.out Hkb.out Hv6.out, ?_, ⟨by simp <;> omega, by simp <;> omega, Hsh.out⟩, hl4, q6, by omega, ?_, ?_⟩
    · have h3 := Hown6.out
      refine owns_mono (B := w2.heap.size) ?_ (by omega)
      repeat (first | with_reducible exact h3 | with_reducible refine owns_set_otherD ?_ (fun b hb => by have h1 := Hlt.out b hb; have h2 := Hge.out b hb; dsimp only; omega) _)
    · repeat (first | with_reducible exact hr6 | with_reducible refine Rd.set ?_ (by dsimp only; omega) _)
    · have h3 := D6.out.2.2.1
      repeat (first | with_reducible exact h3 | with_reducible refine gb_set ?_ (by dsimp only; omega) _)
  · skip
    have Ep := Lib.hid E5.out
    have Dp := Lib.hid D5.out
    have Hownp := Lib.hid Hown5.out
    have hrp := hr5
    skip
    go_wp2_with fail
    refine (spec_aPartK R (q3 + 1) _ hrp (by omega)).mono ?_
    rintro e w6 ⟨p6, rfl, hv6, hp6, q6, hq6, hr6, hg6⟩
    have E6 := Lib.hid (Ep.out.step hg6)
    have D6 := Lib.hid (Dp.out.step hg6)
    have Hown6 := Lib.hid (Hownp.out.kept hg6 (.inr (fun e => by have := Hge.out _ e; omega)))
    have Hv6 := Lib.hid hv6
    clear hg6 Ep Dp Hownp hrp hv6
    have Ep := Lib.hid E6.out
    have Dp := Lib.hid D6.out
    have Hownp := Lib.hid Hown6.out
    have hrp := hr6
    skip
    go_wp2_with fail
    refine (spec_aPartK R q6 _ hrp (by omega)).mono ?_
    rintro e w7 ⟨p7, rfl, hv7, hp7, q7, hq7, hr7, hg7⟩
    have E7 := Lib.hid (Ep.out.step hg7)
    have D7 := Lib.hid (Dp.out.step hg7)
    have Hown7 := Lib.hid (Hownp.out.kept hg7 (.inr (fun e => by have := Hge.out _ e; omega)))
    have Hv7 := Lib.hid hv7
    clear hg7 Ep Dp Hownp hrp hv7
    obtain ⟨x0, x1, x2, x3, x4, x5⟩ := Dst.cells6 E7.out
    obtain ⟨y0, y1, y2, y3, y4, y5⟩ := Dst.cells6 D7.out
    have xf := E7.out.2.1
    have yf := D7.out.2.1
    have xf0 := xf 0
    have xf1 := xf 1
    have xf2 := xf 2
    have xf3 := xf 3
    have yf0 := yf 0
    have yf1 := yf 1
    have yf2 := yf 2
    have yf3 := yf 3
    have yf4 := yf 4
    have yf5 := yf 5
    clear xf yf
    have Ep := Lib.hid (Dst.put E7.out 1 (by simp) (.string (mk (p6 ++ 46 :: p7))))
    have Dp := Lib.hid (Dst.other D7.out hXw' hwX 1 (.string (mk (p6 ++ 46 :: p7))))
    have Hownp := Lib.hid (owns_set_otherD Hown7.out (p := ⟨X, 1, none⟩) (fun b hb => by have := Hlt.out b hb; dsimp only; omega) (.string (mk (p6 ++ 46 :: p7))))
    have hrp := (Rd.set hr7 (p := ⟨X, 1, none⟩) hRX (.string (mk (p6 ++ 46 :: p7))))
    simp only [List.set_toArray, List.set_cons_zero, List.set_cons_succ] at Ep
    have hcat : (mk p6 ++ (⟨#[46]⟩ : ByteArray)) ++ mk p7 = mk (p6 ++ 46 :: p7) := by rw [mk_app_dot, mk_append]; simp
    go_wp2_with fail
    refine (reader_pick R q7 _ _ hrp (by omega) (by omega)).mono ?_
    rintro e w8 ⟨i, rfl, hi0, hi, hr8, hg8⟩
    have E8 := Lib.hid (Ep.out.step hg8)
    have D8 := Lib.hid (Dp.out.step hg8)
    have Hown8 := Lib.hid (Hownp.out.kept hg8 (.inr (fun e => by have := Hge.out _ e; omega)))
    clear hg8 Ep Dp Hownp hrp x0 x1 x2 x3 x4 x5 y0 y1 y2 y3 y4 y5 xf0 xf1 xf2 xf3 yf0 yf1 yf2 yf3 yf4 yf5
    by_cases hi1 : i = 0
    · subst hi1
      obtain ⟨x0, x1, x2, x3, x4, x5⟩ := Dst.cells6 E8.out
      obtain ⟨y0, y1, y2, y3, y4, y5⟩ := Dst.cells6 D8.out
      have xf := E8.out.2.1
      have yf := D8.out.2.1
      have xf0 := xf 0
      have xf1 := xf 1
      have xf2 := xf 2
      have xf3 := xf 3
      have yf0 := yf 0
      have yf1 := yf 1
      have yf2 := yf 2
      have yf3 := yf 3
      have yf4 := yf 4
      have yf5 := yf 5
      clear xf yf
      go_wp2_with fail
      refine bodyPost_ret (v := filV (⟨rt, (p6 ++ 46 :: p7), [], true, st, ss⟩, .slice ba ss.length bc)) (by simp [results, Try.results119, go_sem, filV, mk_nil, *]) rfl ⟨_, _, rfl, okF_init2 Hrt.out Hst.out Hkb.out Hv6.out Hv7.out, ?_, ⟨by simp <;> omega, by simp <;> omega, Hsh.out⟩, hl4, (q7 + 1), by omega, ?_, ?_⟩
      · have h3 := Hown8.out
        refine owns_mono (B := w2.heap.size) ?_ (by omega)
        repeat (first | with_reducible exact h3 | with_reducible refine owns_set_otherD ?_ (fun b hb => by have h1 := Hlt.out b hb; have h2 := Hge.out b hb; dsimp only; omega) _)
      · repeat (first | with_reducible exact hr8 | with_reducible refine Rd.set ?_ (by dsimp only; omega) _)
      · have h3 := D8.out.2.2.1
        repeat (first | with_reducible exact h3 | with_reducible refine gb_set ?_ (by dsimp only; omega) _)
    · have hib : (i == 0) = false := by simpa using hi1
      have Ep := Lib.hid E8.out
      have Dp := Lib.hid D8.out
      have Hownp := Lib.hid Hown8.out
      have hrp := hr8
      skip
      go_wp2_with fail
      refine (spec_aPartK R (q7 + 1) _ hrp (by omega)).mono ?_
      rintro e w9 ⟨p9, rfl, hv9, hp9, q9, hq9, hr9, hg9⟩
      have E9 := Lib.hid (Ep.out.step hg9)
      have D9 := Lib.hid (Dp.out.step hg9)
      have Hown9 := Lib.hid (Hownp.out.kept hg9 (.inr (fun e => by have := Hge.out _ e; omega)))
      have Hv9 := Lib.hid hv9
      clear hg9 Ep Dp Hownp hrp hv9
      obtain ⟨x0, x1, x2, x3, x4, x5⟩ := Dst.cells6 E9.out
      obtain ⟨y0, y1, y2, y3, y4, y5⟩ := Dst.cells6 D9.out
      have xf := E9.out.2.1
      have yf := D9.out.2.1
      have xf0 := xf 0
      have xf1 := xf 1
      have xf2 := xf 2
      have xf3 := xf 3
      have yf0 := yf 0
      have yf1 := yf 1
      have yf2 := yf 2
      have yf3 := yf 3
      have yf4 := yf 4
      have yf5 := yf 5
      clear xf yf
      go_wp2_with fail
      refine bodyPost_ret (v := filV (⟨rt, (p6 ++ 46 :: p7), p9, false, st, ss⟩, .slice ba ss.length bc)) (by simp [results, Try.results119, go_sem, filV, mk_nil, *]) rfl ⟨_, _, rfl, okF_in2 Hrt.out Hst.out Hkb.out Hv6.out Hv7.out Hv9.out, ?_, ⟨by simp <;> omega, by simp <;> omega, Hsh.out⟩, hl4, q9, by omega, ?_, ?_⟩
      · have h3 := Hown9.out
        refine owns_mono (B := w2.heap.size) ?_ (by omega)
        repeat (first | with_reducible exact h3 | with_reducible refine owns_set_otherD ?_ (fun b hb => by have h1 := Hlt.out b hb; have h2 := Hge.out b hb; dsimp only; omega) _)
      · repeat (first | with_reducible exact hr9 | with_reducible refine Rd.set ?_ (by dsimp only; omega) _)
      · have h3 := D9.out.2.2.1
        repeat (first | with_reducible exact h3 | with_reducible refine gb_set ?_ (by dsimp only; omega) _)
theorem spec_someFile (R q : Nat) (w : World) (hr : Rd w R q) (hq : q ≤ 500000) :
    Calls Try.prog 119 #[.pointer (some ⟨R, 0, none⟩)] w (DrawFil R q 60 w) :=
  (spec_someFileK R q w hr hq).mono fun _ _ ⟨f, bv, h1, _, h2⟩ => ⟨f, bv, h1, h2⟩

/-! ### The functions that draw a file that may not be valid. Written by mkany.py. -/
/-- A drawn file. -/
def DrawnFil (w : World) (e : Ending) (w' : World) : Prop :=
  ∃ (f : Fil) (bv : Value), e = .returned (filV (f, bv)) ∧ w'.ownsRow w.heap.size 138 5 bv f.body.length (f.body.flatMap stmCells) ∧ ShortF 8 f ∧ f.body.length ≤ 4 ∧ Below w.heap.size w w'
theorem code_alloc {w : World} {a : Option Addr} {n cap : Nat} (hc : Code w w.heap.size a n cap) (o : Obj) : Code (w.alloc o) (w.alloc o).heap.size a n cap := by
  rcases hc with ⟨rfl, h⟩ | ⟨b, off, rfl, hb, hl, hcm, hcc⟩
  · exact .inl ⟨rfl, h⟩
  · refine .inr ⟨b, off, rfl, by rw [World.size_alloc]; omega, hl, hcm, fun i hi => ?_⟩
    obtain ⟨c, c1, c2, c3⟩ := hcc i hi
    exact ⟨c, c1, c2, by rw [World.cell?_of_block (w := w) (Below.heap_alloc w o b hb)]; exact c3⟩
end Go.Proofs.Ytgecemngfpgcoaa
