/- The functions that draw a file that may not be valid. Written by mkany.py. -/
import Derived.Test.YtomdmkhgkaalnaaDrawF
set_option linter.unusedVariables false
set_option linter.unusedSimpArgs false
namespace Go.Proofs.Ytomdmkhgkaalnaa
open Go.RowKit Go.Proofs.Ytomdmkhgkaalnaa.Nm

set_option maxRecDepth 100000 in
set_option maxHeartbeats 1500000 in
theorem spec_anyFile (R q : Nat) (w : World) (hr : Rd w R q) (hq : q ≤ 400000) :
    Calls Try.prog 88 #[.pointer (some ⟨R, 0, none⟩)] w (DrawFil R q 120 w) := by
  have hR := hr.lt
  go_enter Try.func88, Try.ntmps88
  go_wp2_with fail
  have d0 := Dst.start hR #[.int .i64 0, .string (⟨#[]⟩ : ByteArray), .string (⟨#[]⟩ : ByteArray), .bool false, .int .i64 0, .slice none 0 0] 55
  refine (spec_someFile R q _ (hr.alloc _) (by omega)).mono ?_
  rintro e w1 ⟨⟨fr, fp, fn, fi, fst, fb⟩, bv, rfl, hown1, hsf, hl4, q1, hq1, hr1, hg1⟩
  unfold filV
  dsimp only at hown1 hl4 ⊢
  obtain ⟨ba, bc, rfl⟩ := owns_shape hown1
  have Hsf := Lib.hid hsf
  have D1 := Lib.hid (d0.step hg1)
  have hz1 := D1.out.2.2.1.size
  have hzl := D1.out.1.1
  have hR1 := hr1.lt
  have Hge := Lib.hid (fun b hb => (hown1.lt b hb).1)
  have Hlt := Lib.hid (fun b hb => (hown1.lt b hb).2)
  have e1 := Dst.start (w := w1) hR1 #[.int .i64 fr, .string (mk fp), .string (mk fn), .bool fi, .int .i64 fst, .slice ba fb.length bc] 55
  have D2 := Lib.hid (D1.out.alloc (.cells #[.int .i64 fr, .string (mk fp), .string (mk fn), .bool fi, .int .i64 fst, .slice ba fb.length bc] 55))
  have hr2 := hr1.alloc (.cells #[.int .i64 fr, .string (mk fp), .string (mk fn), .bool fi, .int .i64 fst, .slice ba fb.length bc] 55)
  have Hown2 := Lib.hid (hown1.alloc (.cells #[.int .i64 fr, .string (mk fp), .string (mk fn), .bool fi, .int .i64 fst, .slice ba fb.length bc] 55))
  clear hg1 hown1 hsf d0 hr1
  go_wp2_with fail
  refine (reader_pick R q1 _ _ hr2 (by omega) (by omega)).mono ?_
  rintro e w3 ⟨j, rfl, hj0, hj, hr3, hg3⟩
  have E3 := Lib.hid (e1.step hg3)
  have D3 := Lib.hid (D2.out.step hg3)
  have Hown3 := Lib.hid (Hown2.out.kept hg3 (.inr (fun e => by have := Hge.out _ e; simp at this; omega)))
  have hz3 := hg3.size
  clear hg3 e1 D2 Hown2 hr2 D1
  obtain ⟨X, hX⟩ : ∃ X, X = w1.heap.size := ⟨_, rfl⟩
  rw [← hX] at E3 Hlt hzl ⊢
  have hXw : w.heap.size ≠ X := by omega
  have hXw' : X ≠ w.heap.size := by omega
  have hwX : w.heap.size ≤ X := by omega
  have hRX : R < X := by omega
  have hz3' : X < w3.heap.size := by simp at hz3; omega
  clear hX hz3
  have Hge' := Lib.hid (fun b hb => (show w.heap.size < b by have := Hge.out b hb; simp at this; omega))
  by_cases h0 : j = 0
  · subst h0
    obtain ⟨x0, x1, x2, x3, x4, x5⟩ := Dst.cells6 E3.out
    obtain ⟨y0, y1, y2, y3, y4, y5⟩ := Dst.cells6 D3.out
    have xf := E3.out.2.1
    have yf := D3.out.2.1
    have xf1 := xf 1
    have xf3 := xf 3
    have xf5 := xf 5
    have yf0 := yf 0
    have yf1 := yf 1
    have yf2 := yf 2
    have yf3 := yf 3
    have yf4 := yf 4
    have yf5 := yf 5
    clear xf yf
    go_wp2_with fail
    refine bodyPost_ret (v := filV (⟨fr, fp, fn, !fi, fst, fb⟩, .slice ba fb.length bc)) (by simp [results, Try.results88, go_sem, filV, mk_nil, *]) rfl ⟨_, _, rfl, ?_, ⟨Hsf.out.1, Hsf.out.2.1, Hsf.out.2.2⟩, hl4, q1 + 1, by omega, ?_, ?_⟩
    · have h3 := Hown3.out
      refine owns_mono (B := (w.alloc (.cells #[.int .i64 0, .string (⟨#[]⟩ : ByteArray), .string (⟨#[]⟩ : ByteArray), .bool false, .int .i64 0, .slice none 0 0] 55)).heap.size) ?_ (by simp)
      repeat (first | with_reducible exact h3 | with_reducible refine owns_set_otherD ?_ (fun b hb => by have h1 := Hlt.out b hb; have h2 := Hge'.out b hb; dsimp only; omega) _)
    · repeat (first | with_reducible exact hr3 | with_reducible refine Rd.set ?_ (by dsimp only; omega) _)
    · have h3 := D3.out.2.2.1
      repeat (first | with_reducible exact h3 | with_reducible refine gb_set ?_ (by dsimp only; omega) _)
  · have h0b : (j == 0) = false := by simpa using h0
    by_cases h1 : j = 1
    · subst h1
      go_wp2_with fail
      refine (spec_anyPackage R (q1 + 1) _ hr3 (by omega)).mono ?_
      rintro e w4 ⟨p, rfl, hp, q4, hq4, hr4, hg4⟩
      have E4 := Lib.hid (E3.out.step hg4)
      have D4 := Lib.hid (D3.out.step hg4)
      have Hown4 := Lib.hid (Hown3.out.kept hg4 (.inr (fun e => by have := Hge'.out _ e; omega)))
      clear hg4
      obtain ⟨x0, x1, x2, x3, x4, x5⟩ := Dst.cells6 E4.out
      obtain ⟨y0, y1, y2, y3, y4, y5⟩ := Dst.cells6 D4.out
      have xf := E4.out.2.1
      have yf := D4.out.2.1
      have xf1 := xf 1
      have xf3 := xf 3
      have xf5 := xf 5
      have yf0 := yf 0
      have yf1 := yf 1
      have yf2 := yf 2
      have yf3 := yf 3
      have yf4 := yf 4
      have yf5 := yf 5
      clear xf yf
      go_wp2_with fail
      refine bodyPost_ret (v := filV (⟨fr, p, fn, fi, fst, fb⟩, .slice ba fb.length bc)) (by simp [results, Try.results88, go_sem, filV, mk_nil, *]) rfl ⟨_, _, rfl, ?_, ⟨by dsimp only; omega, Hsf.out.2.1, Hsf.out.2.2⟩, hl4, q4, by omega, ?_, ?_⟩
      · have h3 := Hown4.out
        refine owns_mono (B := (w.alloc (.cells #[.int .i64 0, .string (⟨#[]⟩ : ByteArray), .string (⟨#[]⟩ : ByteArray), .bool false, .int .i64 0, .slice none 0 0] 55)).heap.size) ?_ (by simp)
        repeat (first | with_reducible exact h3 | with_reducible refine owns_set_otherD ?_ (fun b hb => by have h1 := Hlt.out b hb; have h2 := Hge'.out b hb; dsimp only; omega) _)
      · repeat (first | with_reducible exact hr4 | with_reducible refine Rd.set ?_ (by dsimp only; omega) _)
      · have h3 := D4.out.2.2.1
        repeat (first | with_reducible exact h3 | with_reducible refine gb_set ?_ (by dsimp only; omega) _)
    · have h1b : (j == 1) = false := by simpa using h1
      by_cases h2 : j = 2
      · subst h2
        go_wp2_with fail
        refine (spec_anyBody R (q1 + 1) _ hr3 (by omega)).mono ?_
        rintro e w4 ⟨bv4, ss4, rfl, hown4, hsh4, hl44, q4, hq4, hr4, hg4⟩
        obtain ⟨ba4, bc4, rfl⟩ := owns_shape hown4
        have E4 := Lib.hid (E3.out.step hg4)
        have D4 := Lib.hid (D3.out.step hg4)
        have Hown4 := Lib.hid hown4
        have Hsh4 := Lib.hid hsh4
        have Hg44 := Lib.hid (fun b hb => (hown4.lt b hb).1)
        clear hg4 hown4 hsh4
        obtain ⟨x0, x1, x2, x3, x4, x5⟩ := Dst.cells6 E4.out
        obtain ⟨y0, y1, y2, y3, y4, y5⟩ := Dst.cells6 D4.out
        have xf := E4.out.2.1
        have yf := D4.out.2.1
        have xf1 := xf 1
        have xf3 := xf 3
        have xf5 := xf 5
        have yf0 := yf 0
        have yf1 := yf 1
        have yf2 := yf 2
        have yf3 := yf 3
        have yf4 := yf 4
        have yf5 := yf 5
        clear xf yf
        go_wp2_with fail
        refine bodyPost_ret (v := filV (⟨fr, fp, fn, fi, fst, ss4⟩, .slice ba4 ss4.length bc4)) (by simp [results, Try.results88, go_sem, filV, mk_nil, *]) rfl ⟨_, _, rfl, ?_, ⟨Hsf.out.1, Hsf.out.2.1, Hsh4.out⟩, hl44, q4, by omega, ?_, ?_⟩
        · have h3 := owns_mono Hown4.out (show (w.alloc (.cells #[.int .i64 0, .string (⟨#[]⟩ : ByteArray), .string (⟨#[]⟩ : ByteArray), .bool false, .int .i64 0, .slice none 0 0] 55)).heap.size ≤ _ by simp; omega)
          refine owns_mono (B := (w.alloc (.cells #[.int .i64 0, .string (⟨#[]⟩ : ByteArray), .string (⟨#[]⟩ : ByteArray), .bool false, .int .i64 0, .slice none 0 0] 55)).heap.size) ?_ (by simp)
          repeat (first | with_reducible exact h3 | with_reducible refine owns_set_otherD ?_ (fun b hb => by have h2 := Hg44.out b hb; dsimp only; omega) _)
        · repeat (first | with_reducible exact hr4 | with_reducible refine Rd.set ?_ (by dsimp only; omega) _)
        · have h3 := D4.out.2.2.1
          repeat (first | with_reducible exact h3 | with_reducible refine gb_set ?_ (by dsimp only; omega) _)
      · have h2b : (j == 2) = false := by simpa using h2
        obtain ⟨x0, x1, x2, x3, x4, x5⟩ := Dst.cells6 E3.out
        obtain ⟨y0, y1, y2, y3, y4, y5⟩ := Dst.cells6 D3.out
        have xf := E3.out.2.1
        have yf := D3.out.2.1
        have xf1 := xf 1
        have xf3 := xf 3
        have xf5 := xf 5
        have yf0 := yf 0
        have yf1 := yf 1
        have yf2 := yf 2
        have yf3 := yf 3
        have yf4 := yf 4
        have yf5 := yf 5
        clear xf yf
        go_wp2_with fail
        refine bodyPost_ret (v := filV (⟨fr, fp, fn, fi, fst, fb⟩, .slice ba fb.length bc)) (by simp [results, Try.results88, go_sem, filV, mk_nil, *]) rfl ⟨_, _, rfl, ?_, ⟨Hsf.out.1, Hsf.out.2.1, Hsf.out.2.2⟩, hl4, q1 + 1, by omega, ?_, ?_⟩
        · have h3 := Hown3.out
          refine owns_mono (B := (w.alloc (.cells #[.int .i64 0, .string (⟨#[]⟩ : ByteArray), .string (⟨#[]⟩ : ByteArray), .bool false, .int .i64 0, .slice none 0 0] 55)).heap.size) ?_ (by simp)
          repeat (first | with_reducible exact h3 | with_reducible refine owns_set_otherD ?_ (fun b hb => by have h1 := Hlt.out b hb; have h2 := Hge'.out b hb; dsimp only; omega) _)
        · repeat (first | with_reducible exact hr3 | with_reducible refine Rd.set ?_ (by dsimp only; omega) _)
        · have h3 := D3.out.2.2.1
          repeat (first | with_reducible exact h3 | with_reducible refine gb_set ?_ (by dsimp only; omega) _)
/-- A drawn file. -/
def DrawnFil (w : World) (e : Ending) (w' : World) : Prop :=
  ∃ (f : Fil) (bv : Value), e = .returned (filV (f, bv)) ∧ w'.ownsRow w.heap.size 124 5 bv f.body.length (f.body.flatMap stmCells) ∧ ShortF 8 f ∧ f.body.length ≤ 4 ∧ Below w.heap.size w w'
theorem code_alloc {w : World} {a : Option Addr} {n cap : Nat} (hc : Code w w.heap.size a n cap) (o : Obj) : Code (w.alloc o) (w.alloc o).heap.size a n cap := by
  rcases hc with ⟨rfl, h⟩ | ⟨b, off, rfl, hb, hl, hcm, hcc⟩
  · exact .inl ⟨rfl, h⟩
  · refine .inr ⟨b, off, rfl, by rw [World.size_alloc]; omega, hl, hcm, fun i hi => ?_⟩
    obtain ⟨c, c1, c2, c3⟩ := hcc i hi
    exact ⟨c, c1, c2, by rw [World.cell?_of_block (w := w) (Below.heap_alloc w o b hb)]; exact c3⟩
end Go.Proofs.Ytomdmkhgkaalnaa
