/- The function that draws what is compiled and a file for a law. -/
import Derived.Test.YtomdmkhgkaalnaaDrawL
set_option linter.unusedVariables false
set_option linter.unusedSimpArgs false
namespace Go.Proofs.Ytomdmkhgkaalnaa
open Go.RowKit Go.Proofs.Ytomdmkhgkaalnaa.Nm

theorem Dst.cells8 {w w1 : World} {R X : Nat} {a b c d e f g h : Value} (hh : Dst w R X #[a, b, c, d, e, f, g, h] w1) :
    w1.cell? ⟨X, 0, none⟩ = some a ∧ w1.cell? ⟨X, 1, none⟩ = some b ∧ w1.cell? ⟨X, 2, none⟩ = some c ∧ w1.cell? ⟨X, 3, none⟩ = some d ∧ w1.cell? ⟨X, 4, none⟩ = some e ∧ w1.cell? ⟨X, 5, none⟩ = some f ∧ w1.cell? ⟨X, 6, none⟩ = some g ∧ w1.cell? ⟨X, 7, none⟩ = some h :=
  ⟨hh.1.2 0, hh.1.2 1, hh.1.2 2, hh.1.2 3, hh.1.2 4, hh.1.2 5, hh.1.2 6, hh.1.2 7⟩
theorem Dst.put8 {w w1 : World} {R X : Nat} {cs : Array Value} (hs : cs.size = 8) (h : Dst w R X cs w1) (a b c d e f g k : Value) :
    Dst w R X #[a, b, c, d, e, f, g, k] ((((((((w1.setCell ⟨X, 0, none⟩ a).setCell ⟨X, 1, none⟩ b).setCell ⟨X, 2, none⟩ c).setCell ⟨X, 3, none⟩ d).setCell ⟨X, 4, none⟩ e).setCell ⟨X, 5, none⟩ f).setCell ⟨X, 6, none⟩ g).setCell ⟨X, 7, none⟩ k) := by
  obtain ⟨c0, c1, c2, c3, c4, c5, c6, c7, rfl⟩ : ∃ c0 c1 c2 c3 c4 c5 c6 c7, cs = #[c0, c1, c2, c3, c4, c5, c6, c7] := by
    obtain ⟨l⟩ := cs
    obtain ⟨a0, a1, a2, a3, a4, a5, a6, a7, e⟩ := list8 (l := l) (by simpa using hs)
    exact ⟨a0, a1, a2, a3, a4, a5, a6, a7, by rw [e]⟩
  have h8 := (((((((h.put 0 (by simp) a).put 1 (by simp) b).put 2 (by simp) c).put 3 (by simp) d).put 4 (by simp) e).put 5 (by simp) f).put 6 (by simp) g).put 7 (by simp) k
  simpa using h8
/-- A box of a call that draws, laid behind other boxes. -/
theorem Dst.more {w w1 : World} {R : Nat} (hg : w.grownBy w1 (some R)) (hR : R < w1.heap.size) (cs : Array Value) (T : TypeId) : Dst w R w1.heap.size cs (w1.alloc (.cells cs T)) := by
  obtain ⟨h1, h2, h3, h4, h5⟩ := Dst.start (w := w1) hR cs T
  exact ⟨h1, h2, gb_trans hg h3, h4, Nat.le_trans hg.size h5⟩
theorem owns_drewI {w : World} {B e s n : Nat} {v : Value} {xs : List Value} (h : w.ownsRow B e s v n xs) : w.drew.ownsRow B e s v n xs := owns_below h ⟨rfl, rfl, rfl, Nat.le_refl _, fun _ _ => rfl⟩
theorem gbDrew (w : World) (r : Option Nat) : w.grownBy w.drew r := ⟨rfl, rfl, rfl, Nat.le_refl _, fun _ _ _ => rfl⟩
set_option maxRecDepth 100000 in
set_option maxHeartbeats 8000000 in
theorem spec_DrawIsUsable (a : Option Addr) (n cap : Nat) (w : World) (hc : Code w w.heap.size a n cap) :
    Calls Try.prog 33 #[.slice a n cap] w fun e w' => ∃ c cv f bv, e = .returned (.tuple #[cmpV (c, cv), filV (f, bv)]) ∧ w'.ownsRow w.heap.size 124 5 cv c.body.length (c.body.flatMap stmCells) ∧ ShortC 20 c ∧ c.body.length ≤ 4 ∧ w'.ownsRow w.heap.size 124 5 bv f.body.length (f.body.flatMap stmCells) ∧ ShortF 8 f ∧ f.body.length ≤ 4 ∧ Below w.heap.size w w' := by
  go_enter Try.func33, Try.ntmps33
  go_wp2_with fail
  refine (spec_newReader a n cap _ (code_alloc (code_alloc hc _) _)).mono ?_
  rintro e w1 ⟨rfl, hr, hb⟩
  have hz := hb.size
  rw [show ((w.alloc (.cells #[.int .i64 0, .string (⟨#[]⟩ : ByteArray), .bool false, .int .i64 0, .int .i64 0, .int .i64 0, .int .i64 0, .slice none 0 0] 53)).alloc (.cells #[.int .i64 0, .string (⟨#[]⟩ : ByteArray), .string (⟨#[]⟩ : ByteArray), .bool false, .int .i64 0, .slice none 0 0] 55)).heap.size = w.heap.size + 2 by simp] at hr
  have hz1 : w.heap.size + 2 ≤ w1.heap.size := by simp at hz; omega
  have Hb1 := Lib.hid (show Below (w.heap.size + 2) ((w.alloc (.cells #[.int .i64 0, .string (⟨#[]⟩ : ByteArray), .bool false, .int .i64 0, .int .i64 0, .int .i64 0, .int .i64 0, .slice none 0 0] 53)).alloc (.cells #[.int .i64 0, .string (⟨#[]⟩ : ByteArray), .string (⟨#[]⟩ : ByteArray), .bool false, .int .i64 0, .slice none 0 0] 55)) w1 from by simpa using hb)
  have hRlt := hr.lt
  simp only [World.size_alloc]
  clear hb hz
  go_wp2_with fail
  refine (spec_someFileK _ 0 _ hr (by omega)).mono ?_
  rintro e w2 ⟨⟨fr, fp, fn, fi, fst, fb⟩, bv, rfl, hokf, hown, hsf, hl4, q2, hq2, hr2, hg2⟩
  unfold filV
  dsimp only at hown hl4 ⊢
  obtain ⟨ab, cb, rfl⟩ := owns_shape hown
  have Hob := Lib.hid (show okBody fb = true from okFil_body hokf)
  have Hsf := Lib.hid hsf
  have hz2 := hg2.size
  have Y3 := Lib.hid (Dst.more hg2 hr2.lt #[.int .i64 fr, .string (mk fp), .string (mk fn), .bool fi, .int .i64 fst, .slice ab fb.length cb] 55)
  have Bd3 := Lib.hid (hown.alloc (.cells #[.int .i64 fr, .string (mk fp), .string (mk fn), .bool fi, .int .i64 fst, .slice ab fb.length cb] 55))
  have hr3 := hr2.alloc (.cells #[.int .i64 fr, .string (mk fp), .string (mk fn), .bool fi, .int .i64 fst, .slice ab fb.length cb] 55)
  have Hlt := Lib.hid (fun b (hb : (Value.slice ab fb.length cb).ownBlock = some b) => (owns_block hown hb).2)
  obtain ⟨w3, hw3⟩ : ∃ w3, w3 = w2.alloc (.cells #[.int .i64 fr, .string (mk fp), .string (mk fn), .bool fi, .int .i64 fst, .slice ab fb.length cb] 55) := ⟨_, rfl⟩
  obtain ⟨Y, hY⟩ : ∃ Y, Y = w2.heap.size := ⟨_, rfl⟩
  have hw3s : w3.heap.size = Y + 1 := by rw [hw3, hY]; simp
  rw [← hw3] at Y3 Bd3 hr3
  rw [← hY] at Y3 hz2 Hlt
  have HW3 := Lib.hid hw3
  have HYs := Lib.hid hY
  clear hw3 hY hown hsf hokf hg2 hr hr2
  obtain ⟨j0, j1, j2, j3, j4, j5⟩ := Dst.cells6 Y3.out
  go_upto_region 3 with fail
  rw [← HW3.out, ← HYs.out]
  have hR3 := hr3.lt
  have hYlt : Y < w3.heap.size := by omega
  have Res := Lib.hid (show ∀ wt : World, w1.grownBy wt (some (w.heap.size + 2)) → (∀ i, wt.cell? ⟨w.heap.size, i, none⟩ = (#[.int .i64 0, .string (⟨#[]⟩ : ByteArray), .bool false, .int .i64 0, .int .i64 0, .int .i64 0, .int .i64 0, .slice none 0 0] : Array Value)[i]?) ∧ (∀ i, wt.frozen? ⟨w.heap.size, i, none⟩ = false) ∧ (∀ i, wt.cell? ⟨w.heap.size + 1, i, none⟩ = (#[.int .i64 0, .string (⟨#[]⟩ : ByteArray), .string (⟨#[]⟩ : ByteArray), .bool false, .int .i64 0, .slice none 0 0] : Array Value)[i]?) ∧ (∀ i, wt.frozen? ⟨w.heap.size + 1, i, none⟩ = false) from fun wt hg => by
    have hbt : Below (w.heap.size + 2) ((w.alloc (.cells #[.int .i64 0, .string (⟨#[]⟩ : ByteArray), .bool false, .int .i64 0, .int .i64 0, .int .i64 0, .int .i64 0, .slice none 0 0] 53)).alloc (.cells #[.int .i64 0, .string (⟨#[]⟩ : ByteArray), .string (⟨#[]⟩ : ByteArray), .bool false, .int .i64 0, .slice none 0 0] 55)) wt := below_gb Hb1.out (by omega) (by omega) hg
    refine ⟨fun i => ?_, fun i => ?_, fun i => ?_, fun i => ?_⟩
    · rw [hbt.cell (p := ⟨w.heap.size, i, none⟩) (by dsimp only; omega)]
      rw [World.cell?_alloc_old _ _ _ (by simp)]
      exact (BoxC.start w #[.int .i64 0, .string (⟨#[]⟩ : ByteArray), .bool false, .int .i64 0, .int .i64 0, .int .i64 0, .int .i64 0, .slice none 0 0] 53).2 i
    · rw [hbt.frozen (p := ⟨w.heap.size, i, none⟩) (by dsimp only; omega)]
      simp [go_sem]
    · rw [hbt.cell (p := ⟨w.heap.size + 1, i, none⟩) (by dsimp only; omega)]
      simp
    · rw [hbt.frozen (p := ⟨w.heap.size + 1, i, none⟩) (by dsimp only; omega)]
      simp [go_sem])
  go_cut [6] (fun s6 wx => ∃ (Z : Nat) (m : Int) (a6 : Option Addr) (c6 : Nat), s6 = .pointer (some ⟨Z, 0, none⟩) ∧ Z ≠ Y ∧ Dst w1 (w.heap.size + 2) Z #[.int .i64 fr, .string (mk (modName ⟨fr, fp, fn, fi, fst, fb⟩)), .bool fi, .int .i64 m, .int .i64 fst, .int .i64 (sizeSum fb : Nat), .int .i64 (hashOf fb), .slice a6 fb.length c6] wx ∧ Dst w1 (w.heap.size + 2) Y #[.int .i64 fr, .string (mk fp), .string (mk fn), .bool fi, .int .i64 fst, .slice ab fb.length cb] wx ∧ Rd wx (w.heap.size + 2) (q2 + 1) ∧ wx.ownsRow w1.heap.size 124 5 (.slice a6 fb.length c6) fb.length (fb.flatMap stmCells) ∧ (∀ b, (Value.slice a6 fb.length c6).ownBlock = some b → b ≠ Y ∧ b ≠ Z) ∧ wx.ownsRow w1.heap.size 124 5 (.slice ab fb.length cb) fb.length (fb.flatMap stmCells) ∧ (∀ b, (Value.slice ab fb.length cb).ownBlock = some b → b ≠ Y ∧ b ≠ Z))
  case first =>
    go_region_law (first
      | (go_simp; go_at_call 86; refine (reader_pick _ q2 3 _ (by first | exact hr3.drewJ | exact hr3.drewJ.alloc _) (by omega) (by omega)).mono ?_; rintro e w5 ⟨m, rfl, hm0, hm, hr5, hg5⟩; have G5 := Lib.hid (show w3.grownBy w5 (some (w.heap.size + 2)) from (by first | exact gb_trans (gbDrew w3 _) hg5 | exact gb_trans (gb_trans (gbDrew w3 _) (World.grownBy_alloc _ _ _)) hg5)); (first | (have z5 : Dst w1 (w.heap.size + 2) w3.heap.size #[.int .i64 0, .string (⟨#[]⟩ : ByteArray), .bool false, .int .i64 0, .int .i64 0, .int .i64 0, .int .i64 0, .slice none 0 0] w5 := (by exact (Dst.more (w1 := w3.drew) (gb_trans Y3.out.2.2.1 (gbDrew w3 _)) hr3.lt #[.int .i64 0, .string (⟨#[]⟩ : ByteArray), .bool false, .int .i64 0, .int .i64 0, .int .i64 0, .int .i64 0, .slice none 0 0] 53).step hg5); rw [hw3s] at z5; have z5l : Y + 1 < w5.heap.size := z5.1.1; have Z5 := Lib.hid z5; clear z5) | skip); have hY5 : Y < w5.heap.size := Nat.lt_of_lt_of_le hYlt G5.out.size; obtain ⟨k0, k1, k2, k3, k4, k5⟩ := Dst.cells6 (Y3.out.step G5.out); have Hr5 := Lib.hid hr5; clear hr5 hg5 hm)
      | (go_simp; go_at_call 85; refine (spec_compiled fr fst fp fn fi _ fb m 0 _ (owns_mono (by first | exact Bd3.out.kept G5.out (.inr (fun e => by have h := (owns_block Bd3.out e).1; omega)) | exact (Bd3.out.kept G5.out (.inr (fun e => by have h := (owns_block Bd3.out e).1; omega))).alloc _) (Nat.zero_le _)) (shortF_mono (by omega) Hsf.out) (by omega) Hob.out).mono ?_; rintro e w6 ⟨v6, rfl, hown6, hb6⟩; unfold compiled at hown6 ⊢; dsimp only at hown6 ⊢; obtain ⟨a6, c6, hv6⟩ := owns_shape hown6; subst hv6; have Hown6 := Lib.hid hown6; have G6 := Lib.hid (show w3.grownBy w6 (some (w.heap.size + 2)) from (by first | exact gb_trans G5.out (gb_below hb6 _) | exact gb_trans G5.out (gb_trans (World.grownBy_alloc _ _ _) (gb_below hb6 _)))); have hY6 : Y < w6.heap.size := Nat.lt_of_lt_of_le hYlt G6.out.size; have Hr6 := Lib.hid (show Rd w6 (w.heap.size + 2) (q2 + 1) from (by first | exact Hr5.out.below hb6 Hr5.out.lt | exact (Hr5.out.alloc _).below hb6 (by have := Hr5.out.lt; simp; omega))); (first | (have z6 : Dst w1 (w.heap.size + 2) (Y + 1) #[.int .i64 0, .string (⟨#[]⟩ : ByteArray), .bool false, .int .i64 0, .int .i64 0, .int .i64 0, .int .i64 0, .slice none 0 0] w6 := (by exact Z5.out.step (gb_below hb6 _)); obtain ⟨z0, z1, z2, z3, z4, z5, z6', z7⟩ := Dst.cells8 z6; have zf := z6.2.1; have zf0 := zf 0; have zf1 := zf 1; have zf2 := zf 2; have zf3 := zf 3; have zf4 := zf 4; have zf5 := zf 5; have zf6 := zf 6; have zf7 := zf 7; have Z6 := Lib.hid z6; clear zf z6) | (have z6 : Dst w1 (w.heap.size + 2) w5.heap.size #[.int .i64 0, .string (⟨#[]⟩ : ByteArray), .bool false, .int .i64 0, .int .i64 0, .int .i64 0, .int .i64 0, .slice none 0 0] w6 := (by exact (Dst.more (gb_trans Y3.out.2.2.1 G5.out) Hr5.out.lt #[.int .i64 0, .string (⟨#[]⟩ : ByteArray), .bool false, .int .i64 0, .int .i64 0, .int .i64 0, .int .i64 0, .slice none 0 0] 53).step (gb_below hb6 _)); obtain ⟨z0, z1, z2, z3, z4, z5, z6', z7⟩ := Dst.cells8 z6; have zf := z6.2.1; have zf0 := zf 0; have zf1 := zf 1; have zf2 := zf 2; have zf3 := zf 3; have zf4 := zf 4; have zf5 := zf 5; have zf6 := zf 6; have zf7 := zf 7; have Z6 := Lib.hid z6; clear zf z6) | skip); clear hown6 hb6))
    all_goals
      go_wp2_with fail
      go_meet
      have hy6 := Y3.out.step G6.out
      have hb6 := Bd3.out.kept G6.out (.inr (fun e => by have h := (owns_block Bd3.out e).1; omega))
      have h6 := Hown6.out
      have hz6 : w1.heap.size ≤ w6.heap.size := Nat.le_trans Y3.out.2.2.1.size G6.out.size
      have hl6 := Hlt.out
      first
        | (have hZw := Z6.out.2.2.2.2
           have hZR := Z6.out.2.2.2.1
           refine ⟨_, m, a6, c6, rfl, by omega, Z6.out.put8 rfl _ _ _ _ _ _ _ _, ?_, ?_, ?_, fun b hb => ?_, ?_, fun b hb => ?_⟩
           · exact (((((((hy6.other (by omega) hZw _ _).other (by omega) hZw _ _).other (by omega) hZw _ _).other (by omega) hZw _ _).other (by omega) hZw _ _).other (by omega) hZw _ _).other (by omega) hZw _ _).other (by omega) hZw _ _
           · have h3 := Hr6.out
             repeat (first | with_reducible exact h3 | with_reducible refine Rd.set ?_ (by dsimp only; omega) _)
           · have h3 := owns_mono (B' := w1.heap.size) h6 (by first | omega | (simp; omega))
             repeat (first | with_reducible exact h3 | with_reducible refine owns_set_otherD ?_ (fun b hb => by have h := owns_block h6 hb; (try simp only [World.size_alloc] at h); dsimp only; omega) _)
           · have h := owns_block h6 hb
             (try simp only [World.size_alloc] at h)
             omega
           · have h3 := hb6
             repeat (first | with_reducible exact h3 | with_reducible refine owns_set_otherD ?_ (fun b hb => by have h := hl6 b hb; dsimp only; omega) _)
           · have h := hl6 b hb
             omega)
        | (refine ⟨_, m, a6, c6, rfl, by omega, Dst.more (gb_trans Y3.out.2.2.1 G6.out) Hr6.out.lt _ _, hy6.alloc _, Hr6.out.alloc _, (owns_mono h6 (by first | omega | (simp; omega))).alloc _, fun b hb => ?_, hb6.alloc _, fun b hb => ?_⟩
           · have h := owns_block h6 hb
             (try simp only [World.size_alloc] at h)
             omega
           · have h := hl6 b hb
             omega)
  case rest =>
    obtain ⟨Z, m, a6, c6, rfl, hZY, hZ, hY, hr4, hbc, hbcn, hbf, hbfn⟩ := hcut
    have HSC := Lib.hid (fine_compiled (m := m) (f := ⟨fr, fp, fn, fi, fst, fb⟩) Hsf.out hl4 Hob.out)
    have hZ1 := hZ.2.2.2.2
    have hZR := hZ.2.2.2.1
    have hY1 := hY.2.2.2.2
    have hYR := hY.2.2.2.1
    have hYZ : Y ≠ Z := fun e => hZY e.symm
    have hYw : Y ≠ w.heap.size := by omega
    have hYw1 : Y ≠ w.heap.size + 1 := by omega
    have hwY : w.heap.size ≠ Y := by omega
    have hwY1 : w.heap.size + 1 ≠ Y := by omega
    have hZw : Z ≠ w.heap.size := by omega
    have hZw1 : Z ≠ w.heap.size + 1 := by omega
    have hwZ : w.heap.size ≠ Z := by omega
    have hwZ1 : w.heap.size + 1 ≠ Z := by omega
    have Hbcn := Lib.hid hbcn
    have Hbfn := Lib.hid hbfn
    clear hbcn hbfn j0 j1 j2 j3 j4 j5
    go_wp2_with fail
    refine (reader_pick _ (q2 + 1) 6 _ hr4 (by omega) (by omega)).mono ?_
    rintro e w7 ⟨j, rfl, hj0, hj, hr7, hg7⟩
    have Z7 := Lib.hid (hZ.step hg7)
    have Y7 := Lib.hid (hY.step hg7)
    have BC7 := Lib.hid (hbc.kept hg7 (.inr (fun e => by have h := (owns_block hbc e).1; omega)))
    have BF7 := Lib.hid (hbf.kept hg7 (.inr (fun e => by have h := (owns_block hbf e).1; omega)))
    have hz7 : w1.heap.size ≤ w7.heap.size := Y7.out.2.2.1.size
    have hYl7 := Y7.out.1.1
    have hZl7 := Z7.out.1.1
    clear hZ hY hbc hbf hg7 hj hr4
    by_cases e0 : j = 0
    · subst e0
      go_wp2_with fail
      refine (spec_someBody _ (q2 + 1 + 1) _ hr7 (by omega)).mono ?_
      rintro e w8 ⟨bv8, ss, rfl, hown8, hsh8, hl8, q8, hq8, hr8, hg8⟩
      obtain ⟨ba8, bc8, rfl⟩ := owns_shape hown8
      have Z8 := Lib.hid (Z7.out.step hg8)
      have Y8 := Lib.hid (Y7.out.step hg8)
      have BC8 := Lib.hid (BC7.out.kept hg8 (.inr (fun e => by have h := (owns_block BC7.out e).1; omega)))
      have BF8 := Lib.hid (BF7.out.kept hg8 (.inr (fun e => by have h := (owns_block BF7.out e).1; omega)))
      obtain ⟨y0, y1, y2, y3, y4, y5⟩ := Dst.cells6 Y8.out
      have yf0 := Y8.out.2.1 0
      have yf1 := Y8.out.2.1 1
      have yf2 := Y8.out.2.1 2
      have yf3 := Y8.out.2.1 3
      have yf4 := Y8.out.2.1 4
      have yf5 := Y8.out.2.1 5
      go_upto_region 13 with fail
      obtain ⟨wt, hwt⟩ : ∃ wt, wt = w8.setCell ⟨Y, 5, none⟩ (.slice ba8 ss.length bc8) := ⟨_, rfl⟩
      have Yt := Lib.hid (show Dst w1 (w.heap.size + 2) Y #[.int .i64 fr, .string (mk fp), .string (mk fn), .bool fi, .int .i64 fst, .slice ba8 ss.length bc8] wt by rw [hwt]; have h := Y8.out.put 5 (by simp) (.slice ba8 ss.length bc8); simpa using h)
      have Zt := Lib.hid (show Dst w1 (w.heap.size + 2) Z #[.int .i64 fr, .string (mk (modName ⟨fr, fp, fn, fi, fst, fb⟩)), .bool fi, .int .i64 m, .int .i64 fst, .int .i64 (sizeSum fb : Nat), .int .i64 (hashOf fb), .slice a6 fb.length c6] wt by rw [hwt]; exact Z8.out.other hYZ hY1 _ _)
      have Bct := Lib.hid (show wt.ownsRow w1.heap.size 124 5 (.slice a6 fb.length c6) fb.length (fb.flatMap stmCells) by
        rw [hwt]
        have h3 := BC8.out
        repeat (first | with_reducible exact h3 | with_reducible refine owns_set_otherD ?_ (fun b hb => by have h := Hbcn.out b hb; dsimp only; omega) _))
      have Bft := Lib.hid (show wt.ownsRow w1.heap.size 124 5 (.slice ba8 ss.length bc8) ss.length (ss.flatMap stmCells) by
        rw [hwt]
        have h3 := owns_mono (B' := w1.heap.size) hown8 (by omega)
        repeat (first | with_reducible exact h3 | with_reducible refine owns_set_otherD ?_ (fun b hb => by have h := (owns_block hown8 hb).1; dsimp only; omega) _))
      rw [← hwt]
      clear hwt y0 y1 y2 y3 y4 y5 yf0 yf1 yf2 yf3 yf4 yf5
      obtain ⟨r0, r1, r2, r3⟩ := Res.out _ Yt.out.2.2.1
      have ra0 := r0 0
      have ra1 := r0 1
      have ra2 := r0 2
      have ra3 := r0 3
      have ra4 := r0 4
      have ra5 := r0 5
      have ra6 := r0 6
      have ra7 := r0 7
      have rb0 := r2 0
      have rb1 := r2 1
      have rb2 := r2 2
      have rb3 := r2 3
      have rb4 := r2 4
      have rb5 := r2 5
      simp at ra0 ra1 ra2 ra3 ra4 ra5 ra6 ra7 rb0 rb1 rb2 rb3 rb4 rb5
      have rc0 := r1 0
      have rc1 := r1 1
      have rc2 := r1 2
      have rc3 := r1 3
      have rc4 := r1 4
      have rc5 := r1 5
      have rc6 := r1 6
      have rc7 := r1 7
      have rd0 := r3 0
      have rd1 := r3 1
      have rd2 := r3 2
      have rd3 := r3 3
      have rd4 := r3 4
      have rd5 := r3 5
      obtain ⟨y0, y1, y2, y3, y4, y5⟩ := Dst.cells6 Yt.out
      obtain ⟨x0, x1, x2, x3, x4, x5, x6, x7⟩ := Dst.cells8 Zt.out
      have HBt := Lib.hid (show Below w.heap.size w wt from ((ba (ba (Below.refl _ _) _) _ : Below w.heap.size w ((w.alloc (.cells #[.int .i64 0, .string (⟨#[]⟩ : ByteArray), .bool false, .int .i64 0, .int .i64 0, .int .i64 0, .int .i64 0, .slice none 0 0] 53)).alloc (.cells #[.int .i64 0, .string (⟨#[]⟩ : ByteArray), .string (⟨#[]⟩ : ByteArray), .bool false, .int .i64 0, .slice none 0 0] 55))).trans ((below_gb Hb1.out (by omega) (by omega) Yt.out.2.2.1).mono (by omega))))
      clear r0 r1 r2 r3
      go_region
      go_wp2_with fail
      refine bodyPost_ret (v := .tuple #[cmpV (⟨fr, modName ⟨fr, fp, fn, fi, fst, fb⟩, fi, m, fst, (sizeSum fb : Nat), hashOf fb, fb⟩, .slice a6 fb.length c6), filV (⟨fr, fp, fn, fi, fst, ss⟩, .slice ba8 ss.length bc8)]) (by simp [results, Try.results33, go_sem, filV, cmpV, *]) rfl ⟨⟨fr, modName ⟨fr, fp, fn, fi, fst, fb⟩, fi, m, fst, (sizeSum fb : Nat), hashOf fb, fb⟩, .slice a6 fb.length c6, ⟨fr, fp, fn, fi, fst, ss⟩, .slice ba8 ss.length bc8, rfl, ?_, HSC.out.1, HSC.out.2.1, ?_, ⟨Hsf.out.1, Hsf.out.2.1, hsh8⟩, hl8, ?_⟩
      · have h3 := Bct.out
        refine owns_mono (B := w1.heap.size) ?_ (by omega)
        repeat (first | with_reducible exact h3 | with_reducible refine owns_set_low ?_ (by dsimp only; omega) _ | with_reducible refine owns_drewI ?_)
      · have h3 := Bft.out
        refine owns_mono (B := w1.heap.size) ?_ (by omega)
        repeat (first | with_reducible exact h3 | with_reducible refine owns_set_low ?_ (by dsimp only; omega) _ | with_reducible refine owns_drewI ?_)
      · have h3 := HBt.out
        (repeat (with_reducible first | exact Below.refl _ _ | assumption | refine ba ?_ _ | refine bd ?_ | refine bdN ?_ _ | refine bs ?_ (by first | exact Nat.le_refl _ | (dsimp only; omega) | (simp; done)) _ | refine bt ?_ (by assumption)))
    have e0b : (j == 0) = false := by simpa using e0
    by_cases e1 : j = 1
    · subst e1
      go_wp2_with fail
      refine (reader_pick _ (q2 + 1 + 1) 100 _ hr7 (by omega) (by omega)).mono ?_
      rintro e w8 ⟨st, rfl, hst0, hst, hr8, hg8⟩
      have Z8 := Lib.hid (Z7.out.step hg8)
      have Y8 := Lib.hid (Y7.out.step hg8)
      have BC8 := Lib.hid (BC7.out.kept hg8 (.inr (fun e => by have h := (owns_block BC7.out e).1; omega)))
      have BF8 := Lib.hid (BF7.out.kept hg8 (.inr (fun e => by have h := (owns_block BF7.out e).1; omega)))
      obtain ⟨y0, y1, y2, y3, y4, y5⟩ := Dst.cells6 Y8.out
      have yf0 := Y8.out.2.1 0
      have yf1 := Y8.out.2.1 1
      have yf2 := Y8.out.2.1 2
      have yf3 := Y8.out.2.1 3
      have yf4 := Y8.out.2.1 4
      have yf5 := Y8.out.2.1 5
      go_upto_region 13 with fail
      obtain ⟨wt, hwt⟩ : ∃ wt, wt = w8.setCell ⟨Y, 4, none⟩ (.int .i64 st) := ⟨_, rfl⟩
      have Yt := Lib.hid (show Dst w1 (w.heap.size + 2) Y #[.int .i64 fr, .string (mk fp), .string (mk fn), .bool fi, .int .i64 st, .slice ab fb.length cb] wt by rw [hwt]; have h := Y8.out.put 4 (by simp) (.int .i64 st); simpa using h)
      have Zt := Lib.hid (show Dst w1 (w.heap.size + 2) Z #[.int .i64 fr, .string (mk (modName ⟨fr, fp, fn, fi, fst, fb⟩)), .bool fi, .int .i64 m, .int .i64 fst, .int .i64 (sizeSum fb : Nat), .int .i64 (hashOf fb), .slice a6 fb.length c6] wt by rw [hwt]; exact Z8.out.other hYZ hY1 _ _)
      have Bct := Lib.hid (show wt.ownsRow w1.heap.size 124 5 (.slice a6 fb.length c6) fb.length (fb.flatMap stmCells) by
        rw [hwt]
        have h3 := BC8.out
        repeat (first | with_reducible exact h3 | with_reducible refine owns_set_otherD ?_ (fun b hb => by have h := Hbcn.out b hb; dsimp only; omega) _))
      have Bft := Lib.hid (show wt.ownsRow w1.heap.size 124 5 (.slice ab fb.length cb) fb.length (fb.flatMap stmCells) by
        rw [hwt]
        have h3 := BF8.out
        repeat (first | with_reducible exact h3 | with_reducible refine owns_set_otherD ?_ (fun b hb => by have h := Hbfn.out b hb; dsimp only; omega) _))
      rw [← hwt]
      clear hwt y0 y1 y2 y3 y4 y5 yf0 yf1 yf2 yf3 yf4 yf5
      obtain ⟨r0, r1, r2, r3⟩ := Res.out _ Yt.out.2.2.1
      have ra0 := r0 0
      have ra1 := r0 1
      have ra2 := r0 2
      have ra3 := r0 3
      have ra4 := r0 4
      have ra5 := r0 5
      have ra6 := r0 6
      have ra7 := r0 7
      have rb0 := r2 0
      have rb1 := r2 1
      have rb2 := r2 2
      have rb3 := r2 3
      have rb4 := r2 4
      have rb5 := r2 5
      simp at ra0 ra1 ra2 ra3 ra4 ra5 ra6 ra7 rb0 rb1 rb2 rb3 rb4 rb5
      have rc0 := r1 0
      have rc1 := r1 1
      have rc2 := r1 2
      have rc3 := r1 3
      have rc4 := r1 4
      have rc5 := r1 5
      have rc6 := r1 6
      have rc7 := r1 7
      have rd0 := r3 0
      have rd1 := r3 1
      have rd2 := r3 2
      have rd3 := r3 3
      have rd4 := r3 4
      have rd5 := r3 5
      obtain ⟨y0, y1, y2, y3, y4, y5⟩ := Dst.cells6 Yt.out
      obtain ⟨x0, x1, x2, x3, x4, x5, x6, x7⟩ := Dst.cells8 Zt.out
      have HBt := Lib.hid (show Below w.heap.size w wt from ((ba (ba (Below.refl _ _) _) _ : Below w.heap.size w ((w.alloc (.cells #[.int .i64 0, .string (⟨#[]⟩ : ByteArray), .bool false, .int .i64 0, .int .i64 0, .int .i64 0, .int .i64 0, .slice none 0 0] 53)).alloc (.cells #[.int .i64 0, .string (⟨#[]⟩ : ByteArray), .string (⟨#[]⟩ : ByteArray), .bool false, .int .i64 0, .slice none 0 0] 55))).trans ((below_gb Hb1.out (by omega) (by omega) Yt.out.2.2.1).mono (by omega))))
      clear r0 r1 r2 r3
      go_region
      go_wp2_with fail
      refine bodyPost_ret (v := .tuple #[cmpV (⟨fr, modName ⟨fr, fp, fn, fi, fst, fb⟩, fi, m, fst, (sizeSum fb : Nat), hashOf fb, fb⟩, .slice a6 fb.length c6), filV (⟨fr, fp, fn, fi, st, fb⟩, .slice ab fb.length cb)]) (by simp [results, Try.results33, go_sem, filV, cmpV, *]) rfl ⟨⟨fr, modName ⟨fr, fp, fn, fi, fst, fb⟩, fi, m, fst, (sizeSum fb : Nat), hashOf fb, fb⟩, .slice a6 fb.length c6, ⟨fr, fp, fn, fi, st, fb⟩, .slice ab fb.length cb, rfl, ?_, HSC.out.1, HSC.out.2.1, ?_, ⟨Hsf.out.1, Hsf.out.2.1, Hsf.out.2.2⟩, hl4, ?_⟩
      · have h3 := Bct.out
        refine owns_mono (B := w1.heap.size) ?_ (by omega)
        repeat (first | with_reducible exact h3 | with_reducible refine owns_set_low ?_ (by dsimp only; omega) _ | with_reducible refine owns_drewI ?_)
      · have h3 := Bft.out
        refine owns_mono (B := w1.heap.size) ?_ (by omega)
        repeat (first | with_reducible exact h3 | with_reducible refine owns_set_low ?_ (by dsimp only; omega) _ | with_reducible refine owns_drewI ?_)
      · have h3 := HBt.out
        (repeat (with_reducible first | exact Below.refl _ _ | assumption | refine ba ?_ _ | refine bd ?_ | refine bdN ?_ _ | refine bs ?_ (by first | exact Nat.le_refl _ | (dsimp only; omega) | (simp; done)) _ | refine bt ?_ (by assumption)))
    have e1b : (j == 1) = false := by simpa using e1
    by_cases e2 : j = 2
    · subst e2
      go_wp2_with fail
      refine (spec_anyFile _ (q2 + 1 + 1) _ hr7 (by omega)).mono ?_
      rintro e w8 ⟨⟨ar, ap, an, ai, ast, af⟩, av, rfl, hown8, hsf8, hl8, q8, hq8, hr8, hg8⟩
      unfold filV
      dsimp only at hown8 hl8 ⊢
      obtain ⟨ba8, bc8, rfl⟩ := owns_shape hown8
      have Z8 := Lib.hid (Z7.out.step hg8)
      have Y8 := Lib.hid (Y7.out.step hg8)
      have BC8 := Lib.hid (BC7.out.kept hg8 (.inr (fun e => by have h := (owns_block BC7.out e).1; omega)))
      have BF8 := Lib.hid (BF7.out.kept hg8 (.inr (fun e => by have h := (owns_block BF7.out e).1; omega)))
      obtain ⟨y0, y1, y2, y3, y4, y5⟩ := Dst.cells6 Y8.out
      have yf0 := Y8.out.2.1 0
      have yf1 := Y8.out.2.1 1
      have yf2 := Y8.out.2.1 2
      have yf3 := Y8.out.2.1 3
      have yf4 := Y8.out.2.1 4
      have yf5 := Y8.out.2.1 5
      go_upto_region 13 with fail
      obtain ⟨wt, hwt⟩ : ∃ wt, wt = ((((((w8.setCell ⟨Y, 0, none⟩ (.int .i64 ar)).setCell ⟨Y, 1, none⟩ (.string (mk ap))).setCell ⟨Y, 2, none⟩ (.string (mk an))).setCell ⟨Y, 3, none⟩ (.bool ai)).setCell ⟨Y, 4, none⟩ (.int .i64 ast)).setCell ⟨Y, 5, none⟩ (.slice ba8 af.length bc8)) := ⟨_, rfl⟩
      have Yt := Lib.hid (show Dst w1 (w.heap.size + 2) Y #[.int .i64 ar, .string (mk ap), .string (mk an), .bool ai, .int .i64 ast, .slice ba8 af.length bc8] wt by rw [hwt]; have h := (((((Dst.put Y8.out 0 (by simp) (.int .i64 ar)).put 1 (by simp) (.string (mk ap))).put 2 (by simp) (.string (mk an))).put 3 (by simp) (.bool ai)).put 4 (by simp) (.int .i64 ast)).put 5 (by simp) (.slice ba8 af.length bc8); simpa using h)
      have Zt := Lib.hid (show Dst w1 (w.heap.size + 2) Z #[.int .i64 fr, .string (mk (modName ⟨fr, fp, fn, fi, fst, fb⟩)), .bool fi, .int .i64 m, .int .i64 fst, .int .i64 (sizeSum fb : Nat), .int .i64 (hashOf fb), .slice a6 fb.length c6] wt by rw [hwt]; exact (((((Z8.out.other hYZ hY1 _ _).other hYZ hY1 _ _).other hYZ hY1 _ _).other hYZ hY1 _ _).other hYZ hY1 _ _).other hYZ hY1 _ _)
      have Bct := Lib.hid (show wt.ownsRow w1.heap.size 124 5 (.slice a6 fb.length c6) fb.length (fb.flatMap stmCells) by
        rw [hwt]
        have h3 := BC8.out
        repeat (first | with_reducible exact h3 | with_reducible refine owns_set_otherD ?_ (fun b hb => by have h := Hbcn.out b hb; dsimp only; omega) _))
      have Bft := Lib.hid (show wt.ownsRow w1.heap.size 124 5 (.slice ba8 af.length bc8) af.length (af.flatMap stmCells) by
        rw [hwt]
        have h3 := owns_mono (B' := w1.heap.size) hown8 (by omega)
        repeat (first | with_reducible exact h3 | with_reducible refine owns_set_otherD ?_ (fun b hb => by have h := (owns_block hown8 hb).1; dsimp only; omega) _))
      rw [← hwt]
      clear hwt y0 y1 y2 y3 y4 y5 yf0 yf1 yf2 yf3 yf4 yf5
      obtain ⟨r0, r1, r2, r3⟩ := Res.out _ Yt.out.2.2.1
      have ra0 := r0 0
      have ra1 := r0 1
      have ra2 := r0 2
      have ra3 := r0 3
      have ra4 := r0 4
      have ra5 := r0 5
      have ra6 := r0 6
      have ra7 := r0 7
      have rb0 := r2 0
      have rb1 := r2 1
      have rb2 := r2 2
      have rb3 := r2 3
      have rb4 := r2 4
      have rb5 := r2 5
      simp at ra0 ra1 ra2 ra3 ra4 ra5 ra6 ra7 rb0 rb1 rb2 rb3 rb4 rb5
      have rc0 := r1 0
      have rc1 := r1 1
      have rc2 := r1 2
      have rc3 := r1 3
      have rc4 := r1 4
      have rc5 := r1 5
      have rc6 := r1 6
      have rc7 := r1 7
      have rd0 := r3 0
      have rd1 := r3 1
      have rd2 := r3 2
      have rd3 := r3 3
      have rd4 := r3 4
      have rd5 := r3 5
      obtain ⟨y0, y1, y2, y3, y4, y5⟩ := Dst.cells6 Yt.out
      obtain ⟨x0, x1, x2, x3, x4, x5, x6, x7⟩ := Dst.cells8 Zt.out
      have HBt := Lib.hid (show Below w.heap.size w wt from ((ba (ba (Below.refl _ _) _) _ : Below w.heap.size w ((w.alloc (.cells #[.int .i64 0, .string (⟨#[]⟩ : ByteArray), .bool false, .int .i64 0, .int .i64 0, .int .i64 0, .int .i64 0, .slice none 0 0] 53)).alloc (.cells #[.int .i64 0, .string (⟨#[]⟩ : ByteArray), .string (⟨#[]⟩ : ByteArray), .bool false, .int .i64 0, .slice none 0 0] 55))).trans ((below_gb Hb1.out (by omega) (by omega) Yt.out.2.2.1).mono (by omega))))
      clear r0 r1 r2 r3
      go_region
      go_wp2_with fail
      refine bodyPost_ret (v := .tuple #[cmpV (⟨fr, modName ⟨fr, fp, fn, fi, fst, fb⟩, fi, m, fst, (sizeSum fb : Nat), hashOf fb, fb⟩, .slice a6 fb.length c6), filV (⟨ar, ap, an, ai, ast, af⟩, .slice ba8 af.length bc8)]) (by simp [results, Try.results33, go_sem, filV, cmpV, *]) rfl ⟨⟨fr, modName ⟨fr, fp, fn, fi, fst, fb⟩, fi, m, fst, (sizeSum fb : Nat), hashOf fb, fb⟩, .slice a6 fb.length c6, ⟨ar, ap, an, ai, ast, af⟩, .slice ba8 af.length bc8, rfl, ?_, HSC.out.1, HSC.out.2.1, ?_, hsf8, hl8, ?_⟩
      · have h3 := Bct.out
        refine owns_mono (B := w1.heap.size) ?_ (by omega)
        repeat (first | with_reducible exact h3 | with_reducible refine owns_set_low ?_ (by dsimp only; omega) _ | with_reducible refine owns_drewI ?_)
      · have h3 := Bft.out
        refine owns_mono (B := w1.heap.size) ?_ (by omega)
        repeat (first | with_reducible exact h3 | with_reducible refine owns_set_low ?_ (by dsimp only; omega) _ | with_reducible refine owns_drewI ?_)
      · have h3 := HBt.out
        (repeat (with_reducible first | exact Below.refl _ _ | assumption | refine ba ?_ _ | refine bd ?_ | refine bdN ?_ _ | refine bs ?_ (by first | exact Nat.le_refl _ | (dsimp only; omega) | (simp; done)) _ | refine bt ?_ (by assumption)))
    have e2b : (j == 2) = false := by simpa using e2
    by_cases e3 : j = 3
    · subst e3
      have hsz : ((sizeSum fb : Nat) : Int) ≤ 100 := by
        have h := sizeSum_le (b := fb) (B := 19) (fun s hs => by have h1 := Hsf.out.2.2 s hs; unfold stmSize; omega)
        omega
      obtain ⟨x0, x1, x2, x3, x4, x5, x6, x7⟩ := Dst.cells8 Z7.out
      have hR7 := hr7.lt
      go_upto_region 12 with fail
      go_region_law (first
        | (go_simp; go_at_call 89; refine (reader_one _ (q2 + 1 + 1) w7.heap.size 3 [0, 1] _ (hr7.drewJ.alloc _) (heap_new w7.drew _ _) (by omega) (by decide) (by decide) (by omega)).mono ?_; rintro e w8 ⟨kk, hkk, rfl, hr8, hg8⟩; have hk' := mem_int 0 1 (by decide) hkk; have hwk : IntKind.i64.wrap (((sizeSum fb : Nat) : Int) + kk) = ((sizeSum fb : Nat) : Int) + kk := (by rw [IntKind.wrap_i64]; omega); have G8 := Lib.hid (gb_trans (gbDrew w7 _) (gb_trans (World.grownBy_alloc w7.drew (.cells ([0, 1].map ivN).toArray 3) _) hg8)); have Z8 := Lib.hid (Z7.out.step G8.out); have Y8 := Lib.hid (Y7.out.step G8.out); have BC8 := Lib.hid (BC7.out.kept G8.out (.inr (fun e => by have h := (owns_block BC7.out e).1; omega))); have BF8 := Lib.hid (BF7.out.kept G8.out (.inr (fun e => by have h := (owns_block BF7.out e).1; omega))); obtain ⟨u0, u1, u2, u3, u4, u5, u6, u7⟩ := Dst.cells8 Z8.out; have uf5 := Z8.out.2.1 5; clear hg8 hr8 hkk))
      all_goals
        go_upto_region 13 with fail
        obtain ⟨wt, hwt⟩ : ∃ wt, wt = w8.setCell ⟨Z, 5, none⟩ (.int .i64 (((sizeSum fb : Nat) : Int) + kk)) := ⟨_, rfl⟩
        have Zt := Lib.hid (show Dst w1 (w.heap.size + 2) Z #[.int .i64 fr, .string (mk (modName ⟨fr, fp, fn, fi, fst, fb⟩)), .bool fi, .int .i64 m, .int .i64 fst, .int .i64 ((sizeSum fb : Nat) + kk), .int .i64 (hashOf fb), .slice a6 fb.length c6] wt by rw [hwt]; have h := Z8.out.put 5 (by simp) (.int .i64 (((sizeSum fb : Nat) : Int) + kk)); simpa using h)
        have Yt := Lib.hid (show Dst w1 (w.heap.size + 2) Y #[.int .i64 fr, .string (mk fp), .string (mk fn), .bool fi, .int .i64 fst, .slice ab fb.length cb] wt by rw [hwt]; exact Y8.out.other hZY hZ1 _ _)
        have Bct := Lib.hid (show wt.ownsRow w1.heap.size 124 5 (.slice a6 fb.length c6) fb.length (fb.flatMap stmCells) by
          rw [hwt]
          exact owns_set_otherD BC8.out (fun b hb => by have h := Hbcn.out b hb; dsimp only; omega) _)
        have Bft := Lib.hid (show wt.ownsRow w1.heap.size 124 5 (.slice ab fb.length cb) fb.length (fb.flatMap stmCells) by
          rw [hwt]
          exact owns_set_otherD BF8.out (fun b hb => by have h := Hbfn.out b hb; dsimp only; omega) _)
        rw [← hwt]
        clear hwt x0 x1 x2 x3 x4 x5 x6 x7 u0 u1 u2 u3 u4 u5 u6 u7 uf5 hwk
        obtain ⟨r0, r1, r2, r3⟩ := Res.out _ Yt.out.2.2.1
        have ra0 := r0 0
        have ra1 := r0 1
        have ra2 := r0 2
        have ra3 := r0 3
        have ra4 := r0 4
        have ra5 := r0 5
        have ra6 := r0 6
        have ra7 := r0 7
        have rb0 := r2 0
        have rb1 := r2 1
        have rb2 := r2 2
        have rb3 := r2 3
        have rb4 := r2 4
        have rb5 := r2 5
        simp at ra0 ra1 ra2 ra3 ra4 ra5 ra6 ra7 rb0 rb1 rb2 rb3 rb4 rb5
        have rc0 := r1 0
        have rc1 := r1 1
        have rc2 := r1 2
        have rc3 := r1 3
        have rc4 := r1 4
        have rc5 := r1 5
        have rc6 := r1 6
        have rc7 := r1 7
        have rd0 := r3 0
        have rd1 := r3 1
        have rd2 := r3 2
        have rd3 := r3 3
        have rd4 := r3 4
        have rd5 := r3 5
        obtain ⟨y0, y1, y2, y3, y4, y5⟩ := Dst.cells6 Yt.out
        obtain ⟨x0, x1, x2, x3, x4, x5, x6, x7⟩ := Dst.cells8 Zt.out
        have HBt := Lib.hid (show Below w.heap.size w wt from ((ba (ba (Below.refl _ _) _) _ : Below w.heap.size w ((w.alloc (.cells #[.int .i64 0, .string (⟨#[]⟩ : ByteArray), .bool false, .int .i64 0, .int .i64 0, .int .i64 0, .int .i64 0, .slice none 0 0] 53)).alloc (.cells #[.int .i64 0, .string (⟨#[]⟩ : ByteArray), .string (⟨#[]⟩ : ByteArray), .bool false, .int .i64 0, .slice none 0 0] 55))).trans ((below_gb Hb1.out (by omega) (by omega) Yt.out.2.2.1).mono (by omega))))
        clear r0 r1 r2 r3
        go_region
        go_wp2_with fail
        refine bodyPost_ret (v := .tuple #[cmpV (⟨fr, modName ⟨fr, fp, fn, fi, fst, fb⟩, fi, m, fst, (sizeSum fb : Nat) + kk, hashOf fb, fb⟩, .slice a6 fb.length c6), filV (⟨fr, fp, fn, fi, fst, fb⟩, .slice ab fb.length cb)]) (by simp [results, Try.results33, go_sem, filV, cmpV, *]) rfl ⟨⟨fr, modName ⟨fr, fp, fn, fi, fst, fb⟩, fi, m, fst, (sizeSum fb : Nat) + kk, hashOf fb, fb⟩, .slice a6 fb.length c6, ⟨fr, fp, fn, fi, fst, fb⟩, .slice ab fb.length cb, rfl, ?_, ⟨HSC.out.1.1, HSC.out.1.2⟩, HSC.out.2.1, ?_, Hsf.out, hl4, ?_⟩
        · have h3 := Bct.out
          refine owns_mono (B := w1.heap.size) ?_ (by omega)
          repeat (first | with_reducible exact h3 | with_reducible refine owns_set_low ?_ (by dsimp only; omega) _ | with_reducible refine owns_drewI ?_)
        · have h3 := Bft.out
          refine owns_mono (B := w1.heap.size) ?_ (by omega)
          repeat (first | with_reducible exact h3 | with_reducible refine owns_set_low ?_ (by dsimp only; omega) _ | with_reducible refine owns_drewI ?_)
        · have h3 := HBt.out
          (repeat (with_reducible first | exact Below.refl _ _ | assumption | refine ba ?_ _ | refine bd ?_ | refine bdN ?_ _ | refine bs ?_ (by first | exact Nat.le_refl _ | (dsimp only; omega) | (simp; done)) _ | refine bt ?_ (by assumption)))
    have e3b : (j == 3) = false := by simpa using e3
    obtain ⟨wt, hwt⟩ : ∃ wt, wt = w7 := ⟨_, rfl⟩
    go_upto_region 13 with fail
    rw [← hwt] at Z7 Y7 BC7 BF7 ⊢
    have Zt := Lib.hid Z7.out
    have Yt := Lib.hid Y7.out
    have Bct := Lib.hid BC7.out
    have Bft := Lib.hid BF7.out
    clear hwt
    obtain ⟨r0, r1, r2, r3⟩ := Res.out _ Yt.out.2.2.1
    have ra0 := r0 0
    have ra1 := r0 1
    have ra2 := r0 2
    have ra3 := r0 3
    have ra4 := r0 4
    have ra5 := r0 5
    have ra6 := r0 6
    have ra7 := r0 7
    have rb0 := r2 0
    have rb1 := r2 1
    have rb2 := r2 2
    have rb3 := r2 3
    have rb4 := r2 4
    have rb5 := r2 5
    simp at ra0 ra1 ra2 ra3 ra4 ra5 ra6 ra7 rb0 rb1 rb2 rb3 rb4 rb5
    have rc0 := r1 0
    have rc1 := r1 1
    have rc2 := r1 2
    have rc3 := r1 3
    have rc4 := r1 4
    have rc5 := r1 5
    have rc6 := r1 6
    have rc7 := r1 7
    have rd0 := r3 0
    have rd1 := r3 1
    have rd2 := r3 2
    have rd3 := r3 3
    have rd4 := r3 4
    have rd5 := r3 5
    obtain ⟨y0, y1, y2, y3, y4, y5⟩ := Dst.cells6 Yt.out
    obtain ⟨x0, x1, x2, x3, x4, x5, x6, x7⟩ := Dst.cells8 Zt.out
    have HBt := Lib.hid (show Below w.heap.size w wt from ((ba (ba (Below.refl _ _) _) _ : Below w.heap.size w ((w.alloc (.cells #[.int .i64 0, .string (⟨#[]⟩ : ByteArray), .bool false, .int .i64 0, .int .i64 0, .int .i64 0, .int .i64 0, .slice none 0 0] 53)).alloc (.cells #[.int .i64 0, .string (⟨#[]⟩ : ByteArray), .string (⟨#[]⟩ : ByteArray), .bool false, .int .i64 0, .slice none 0 0] 55))).trans ((below_gb Hb1.out (by omega) (by omega) Yt.out.2.2.1).mono (by omega))))
    clear r0 r1 r2 r3
    go_region
    go_wp2_with fail
    refine bodyPost_ret (v := .tuple #[cmpV (⟨fr, modName ⟨fr, fp, fn, fi, fst, fb⟩, fi, m, fst, (sizeSum fb : Nat), hashOf fb, fb⟩, .slice a6 fb.length c6), filV (⟨fr, fp, fn, fi, fst, fb⟩, .slice ab fb.length cb)]) (by simp [results, Try.results33, go_sem, filV, cmpV, *]) rfl ⟨⟨fr, modName ⟨fr, fp, fn, fi, fst, fb⟩, fi, m, fst, (sizeSum fb : Nat), hashOf fb, fb⟩, .slice a6 fb.length c6, ⟨fr, fp, fn, fi, fst, fb⟩, .slice ab fb.length cb, rfl, ?_, HSC.out.1, HSC.out.2.1, ?_, Hsf.out, hl4, ?_⟩
    · have h3 := Bct.out
      refine owns_mono (B := w1.heap.size) ?_ (by omega)
      repeat (first | with_reducible exact h3 | with_reducible refine owns_set_low ?_ (by dsimp only; omega) _ | with_reducible refine owns_drewI ?_)
    · have h3 := Bft.out
      refine owns_mono (B := w1.heap.size) ?_ (by omega)
      repeat (first | with_reducible exact h3 | with_reducible refine owns_set_low ?_ (by dsimp only; omega) _ | with_reducible refine owns_drewI ?_)
    · have h3 := HBt.out
      (repeat (with_reducible first | exact Below.refl _ _ | assumption | refine ba ?_ _ | refine bd ?_ | refine bdN ?_ _ | refine bs ?_ (by first | exact Nat.le_refl _ | (dsimp only; omega) | (simp; done)) _ | refine bt ?_ (by assumption)))
end Go.Proofs.Ytomdmkhgkaalnaa
