/- The function that draws a tree: whatever the code, it answers a short one, in memory of its own. -/
import Derived.Test.YtcmnldomcpjlcaaGreatDrawF
import Derived.Test.YtcmnldomcpjlcaaGreatTrees
import Derived.Test.YtcmnldomcpjlcaaGreatPlainG
import Derived.Test.YtcmnldomcpjlcaaGreatMarks2
set_option linter.unusedVariables false
set_option linter.unusedSimpArgs false
namespace Go.Proofs.YtcmnldomcpjlcaaGreat
open Go.RowKit Go.Proofs.YtcmnldomcpjlcaaGreat.Nm

theorem OwnFils.gb {w w' : World} {B R : Nat} {v : Value} {ps : List (Fil × Value)} (h : OwnFils w B v ps) (hg : w.grownBy w' (some R)) (hR : R < B) : OwnFils w' B v ps :=
  ⟨owns_heap h.1 (fun b hb => hg.block b (owns_block h.1 hb).2 (fun e => by have h1 := (owns_block h.1 hb).1; have := Option.some.inj e; omega)),
   h.2.heap (fun b hB hlt _ => hg.block b hlt (fun e => by have := Option.some.inj e; omega))⟩
theorem OwnFils.set_at {w : World} {B : Nat} {v : Value} {ps : List (Fil × Value)} (h : OwnFils w B v ps) {p : Addr} (hp : p.block < B) (u : Value) : OwnFils (w.setCell p u) B v ps := h.set_low hp u
/-- One more file with its own body behind others, in a call that draws. -/
theorem fils_snocD {wr w4 W w7 : World} {B R : Nat} {ov v7 : Value} {qs : List (Fil × Value)} {q : Fil × Value} (h : OwnFils wr B ov qs) (hg4 : wr.grownBy w4 (some R)) (hR : R < B) (hb : Below w4.heap.size w4 W) (hB : B ≤ wr.heap.size)
    (hq : w4.ownsRow wr.heap.size 118 5 q.2 q.1.body.length (q.1.body.flatMap stmCells)) (hg : W.grownBy w7 ov.ownBlock)
    (h7 : w7.ownsRow B 79 6 v7 (qs.length + 1) (qs.flatMap filCells ++ filCells q)) : OwnFils w7 B v7 (qs ++ [q]) := by
  refine ⟨by simpa using h7, ?_⟩
  have h4 := h.gb hg4 hR
  have hW := h4.below hb
  have h1 : OwnBodies W B (qs ++ [q]) := by
    refine ⟨fun p hp => ?_, ?_⟩
    · rcases List.mem_append.1 hp with hp | hp
      · exact hW.2.1 p hp
      · simp at hp; subst hp; exact owns_mono (owns_below hq hb) hB
    · rw [List.pairwise_append]
      refine ⟨h.2.2, by simp, fun p hp x hx b hpb => ?_⟩
      simp at hx; subst hx
      intro hxb
      have e1 := owns_block (h.2.1 p hp) hpb
      have e2 := owns_block hq hxb
      omega
  exact h1.heap (fun b _ hlt ⟨p, hp, hpb⟩ => hg.block b hlt (fun e => own_types (T := 79) (T' := 118) (by decide) hW.1 (h1.1 p hp) e.symm hpb))
/-- A box stays while a row behind it grows. -/
theorem Dst.keepD {w w1 w2 : World} {R X : Nat} {cs : Array Value} {row : Option Nat} (h : Dst w R X cs w1) (hg : w1.grownBy w2 row) (hX : X < w1.heap.size) (hr : ∀ b, row = some b → X ≠ b) (hw : ∀ b, row = some b → w.heap.size ≤ b := by assumption) : Dst w R X cs w2 := by
  obtain ⟨⟨b1, b2⟩, f, g, hx, hw0⟩ := h
  have hb := hg.block X b1 (fun e => hr X e.symm rfl)
  refine ⟨⟨Nat.lt_of_lt_of_le b1 hg.size, fun i => ?_⟩, fun j => ?_, gb_own g hg hw, hx, hw0⟩
  · rw [World.cell?_of_block (w := w1) hb]; exact b2 i
  · rw [show w2.frozen? ⟨X, j, none⟩ = w1.frozen? ⟨X, j, none⟩ by simp only [World.frozen?, hb]]; exact f j
theorem len1D {v : Value} {w : World} {B : Nat} {ps : List (Fil × Value)} (h : OwnFils w B v ps) : ∃ a c, v = .slice a ps.length c := owns_shape h.1
/-- What a function that draws a tree comes to: it, too, says how the row lies. -/
def DrawTree0 (R q c : Nat) (w : World) (e : Ending) (w' : World) : Prop :=
  ∃ (v : Value) (ps : List (Fil × Value)), e = .returned (.agg #[v]) ∧ OwnFils w' w.heap.size v ps ∧ ShortT 8 (ps.map (·.1)) ∧ ps.length ≤ 10 ∧ (∀ p ∈ ps, p.1.body.length ≤ 4) ∧ ∃ q', q' ≤ q + c ∧ Rd w' R q' ∧ w.grownBy w' (some R)
/-- .. and the tree is a valid one. -/
def DrawTree0K (R q c : Nat) (w : World) (e : Ending) (w' : World) : Prop :=
  ∃ (v : Value) (ps : List (Fil × Value)), e = .returned (.agg #[v]) ∧ okTree (ps.map (·.1)) = true ∧ OwnFils w' w.heap.size v ps ∧ ShortT 8 (ps.map (·.1)) ∧ ps.length ≤ 10 ∧ (∀ p ∈ ps, p.1.body.length ≤ 4) ∧ ∃ q', q' ≤ q + c ∧ Rd w' R q' ∧ w.grownBy w' (some R)
theorem okTree_nil : okTree [] = true := by decide
theorem okTree_snoc {t : List Fil} {f : Fil} (h : okTree t = true) (hf : okFil f = true) (hl : t.length ≤ 11) (hp : firstAt t (place f) < 0) : okTree (t ++ [f]) = true := by
  have h1 : firstAt t (place f) = -1 := by
    rcases (firstAt_ge t (place f)).2 with h | h
    · exact h
    · omega
  have h2 := firstAt_none.1 h1
  obtain ⟨ha, hb, hc⟩ := okTree_all h
  unfold okTree
  simp only [List.all_append, ha, List.all_cons, hf, List.all_nil, Bool.and_true, Bool.true_and, List.map_append, List.map_cons, List.map_nil, Bool.and_eq_true, decide_eq_true_eq, List.length_append, List.length_cons, List.length_nil]
  refine ⟨?_, by omega⟩
  rw [List.nodup_append]
  refine ⟨hb, by simp, fun x hx y hy => ?_⟩
  simp at hy; subst hy
  obtain ⟨g, hg, rfl⟩ := List.mem_map.1 hx
  exact h2 g hg
set_option maxRecDepth 100000 in
set_option maxHeartbeats 2000000 in
theorem spec_someTreeK (R q : Nat) (w : World) (hr : Rd w R q) (hq : q ≤ 300000) :
    Calls Tryz.prog 163 #[.pointer (some ⟨R, 0, none⟩)] w (DrawTree0K R q 610 w) := by
  obtain ⟨i0, hi, hz0, hz1, hz2⟩ := info_parts infoFil
  have Hi := Lib.hid hi
  have Hz0 := Lib.hid hz0
  have Hz1 := Lib.hid hz1
  have Hz2 := Lib.hid hz2
  clear hi hz0 hz1 hz2
  have hR := hr.lt
  go_enter Tryz.func163, Tryz.ntmps163
  go_wp2_with fail
  have d0 := Dst.start hR #[.slice none 0 0] 31
  have hr0 := hr.alloc (.cells #[.slice none 0 0] 31)
  have hR0 : R < (w.alloc (.cells #[.slice none 0 0] 31)).heap.size := by simp; omega
  have e0 : Dst w R (w.heap.size + 1) #[.slice none 0 0] ((w.alloc (.cells #[.slice none 0 0] 31)).alloc (.cells #[.slice none 0 0] 31)) := by
    have h := Dst.start (w := w.alloc (.cells #[.slice none 0 0] 31)) hR0 #[.slice none 0 0] 31
    obtain ⟨h1, h2, h3, h4, h5⟩ := h
    rw [show (w.alloc (.cells #[.slice none 0 0] 31)).heap.size = w.heap.size + 1 by simp] at h1 h2 h4 h5
    exact ⟨h1, h2, gb_trans d0.2.2.1 h3, h4, by omega⟩
  refine (reader_one R q (w.heap.size + 2) 3 [5, 4, 6, 3, 8, 1, 0, 10] _ ((hr0.alloc _).alloc _) (by have h := heap_new ((w.alloc (.cells #[.slice none 0 0] 31)).alloc (.cells #[.slice none 0 0] 31)) ([5, 4, 6, 3, 8, 1, 0, 10].map ivN).toArray 3; rw [World.size_alloc, World.size_alloc] at h; exact h) (by omega) (by decide) (by decide) (by omega)).mono ?_
  rintro e w1 ⟨n, hn, rfl, hr1, hg1⟩
  have hn' := mem_int 0 10 (by decide) hn
  have D1 := Lib.hid (((d0.alloc _).alloc _).step hg1)
  have E1 := Lib.hid ((e0.alloc _).step hg1)
  clear d0 e0 hg1 hn hr0 hR0
  go_wp2_with fail
  go_loopw [4] (fun kv wr => ∃ (v : Value) (ps : List (Fil × Value)) (k : Int) (q2 : Nat), kv = .int .i64 k ∧ 0 ≤ k ∧ (ps.length : Int) + k ≤ 10 ∧ (q2 : Int) + 60 * k ≤ q + 601 ∧ ShortT 8 (ps.map (·.1)) ∧ (∀ p ∈ ps, p.1.body.length ≤ 4) ∧ okTree (ps.map (·.1)) = true ∧ OwnFils wr (w.heap.size + 2) v ps ∧ Dst w R w.heap.size #[.slice none 0 0] wr ∧ Dst w R (w.heap.size + 1) #[v] wr ∧ Rd wr R q2) (fun kv _ => (intOf kv).toNat)
  case atStart => exact ⟨.slice none 0 0, [], n, q + 1, rfl, hn'.1, by simp; omega, by omega, (fun f hf => by cases hf), (fun f hf => by cases hf), okTree_nil, ⟨World.ownsRow_nil _ _ _ _, OwnBodies.nil _ _⟩, D1.out, E1.out, hr1⟩
  case round =>
    obtain ⟨v, ps, k, q2, rfl, hk0, hk10, hq2, hsh, hb4, hokt, hown, hd, he, hrd⟩ := hrel
    have Hokt := Lib.hid hokt
    obtain ⟨oa, oc, rfl⟩ := len1D hown
    have Hsh := Lib.hid hsh
    have Hb4 := Lib.hid hb4
    have Hown := Lib.hid hown
    have Hd := Lib.hid hd
    have He := Lib.hid he
    have hRr := hrd.lt
    have hzr : w.heap.size + 2 ≤ wr.heap.size := by have := he.1.1; omega
    clear hsh hb4 hown hd he D1 E1 hr1 hokt
    by_cases hk1 : 0 < k
    · go_wp2_with fail
      refine (spec_someFileK R q2 _ hrd (by omega)).mono ?_
      rintro e w4 ⟨⟨fr, fp, fn, fi, fst, fb⟩, bv, rfl, hkf, hown4, hsf, hl4, q4, hq4, hr4, hg4⟩
      unfold filV
      dsimp only at hown4 hl4 ⊢
      obtain ⟨ba', bc, rfl⟩ := owns_shape hown4
      have Hf4 := Lib.hid (Hown.out.gb hg4 (by omega))
      have Hq4 := Lib.hid hown4
      have Hg4 := Lib.hid hg4
      have Hsf := Lib.hid hsf
      have Hkf := Lib.hid hkf
      clear hkf
      have D4 := Lib.hid (Hd.out.step hg4)
      have E4 := Lib.hid (He.out.step hg4)
      have hz4 := hg4.size
      have hR4 := hr4.lt
      have y0 : w4.cell? ⟨w.heap.size + 1, 0, none⟩ = some (.slice oa ps.length oc) := E4.out.1.2 0
      have yf0 : w4.frozen? ⟨w.heap.size + 1, 0, none⟩ = false := E4.out.2.1 0
      have Hfi := Lib.hid (show FilsIn w4 (fun _ => True) (.slice oa ps.length oc) (ps.map (·.1)) from Hf4.out.fils (fun _ _ => trivial))
      clear hown4 hsf hg4
      have B0 := BoxC.start w4 #[.int .i64 fr, .string (mk fp), .string (mk fn), .bool fi, .int .i64 fst, .slice ba' fb.length bc] 79
      have E5 := Lib.hid (E4.out.alloc (.cells #[.int .i64 fr, .string (mk fp), .string (mk fn), .bool fi, .int .i64 fst, .slice ba' fb.length bc] 79))
      have D5 := Lib.hid (D4.out.alloc (.cells #[.int .i64 fr, .string (mk fp), .string (mk fn), .bool fi, .int .i64 fst, .slice ba' fb.length bc] 79))
      have HC := Lib.hid (show Below w4.heap.size w4 (w4.alloc (.cells #[.int .i64 fr, .string (mk fp), .string (mk fn), .bool fi, .int .i64 fst, .slice ba' fb.length bc] 79)) by (repeat (with_reducible first | exact Below.refl _ _ | assumption | refine ba ?_ _ | refine bd ?_ | refine bdN ?_ _ | refine bs ?_ (by first | exact Nat.le_refl _ | (dsimp only; omega) | (simp; done)) _ | refine bt ?_ (by assumption))))
      have hbx : w4.heap.size ≠ w.heap.size + 1 := by omega
      have Hro := Lib.hid (hr4.alloc (.cells #[.int .i64 fr, .string (mk fp), .string (mk fn), .bool fi, .int .i64 fst, .slice ba' fb.length bc] 79))
      have y0a : (w4.alloc (.cells #[.int .i64 fr, .string (mk fp), .string (mk fn), .bool fi, .int .i64 fst, .slice ba' fb.length bc] 79)).cell? ⟨w.heap.size + 1, 0, none⟩ = some (.slice oa ps.length oc) := E5.out.1.2 0
      have hlt1 : w.heap.size + 1 < w4.heap.size := E4.out.1.1
      clear D4 E4
      go_wp2_with fail
      refine (spec_fileAt _ (ps.map (·.1)) (fun _ => True) fr fst fp fn fi ba' fb.length bc _ (Hfi.out.below HC.out)).mono ?_
      rintro e w5 ⟨rfl, hb5⟩
      have X5 := Lib.hid (B0.below hb5)
      obtain ⟨x0, x1, x2, x3, x4, x5⟩ : w5.cell? ⟨w4.heap.size, 0, none⟩ = some (.int .i64 fr) ∧ w5.cell? ⟨w4.heap.size, 1, none⟩ = some (.string (mk fp)) ∧ w5.cell? ⟨w4.heap.size, 2, none⟩ = some (.string (mk fn)) ∧ w5.cell? ⟨w4.heap.size, 3, none⟩ = some (.bool fi) ∧ w5.cell? ⟨w4.heap.size, 4, none⟩ = some (.int .i64 fst) ∧ w5.cell? ⟨w4.heap.size, 5, none⟩ = some (.slice ba' fb.length bc) := ⟨X5.out.2 0, X5.out.2 1, X5.out.2 2, X5.out.2 3, X5.out.2 4, X5.out.2 5⟩
      have D6 := Lib.hid (D5.out.step (gb_below hb5 _))
      have E6 := Lib.hid (E5.out.step (gb_below hb5 _))
      have HB6 := Lib.hid (bt HC.out hb5)
      have Hr6 := Lib.hid (Hro.out.below hb5 (by simp; omega))
      have hz6 := HB6.out.size
      have y0' : w5.cell? ⟨w.heap.size + 1, 0, none⟩ = some (.slice oa ps.length oc) := E6.out.1.2 0
      have yf0' : w5.frozen? ⟨w.heap.size + 1, 0, none⟩ = false := E6.out.2.1 0
      clear y0 y0a yf0 hb5 E5 D5 B0
      by_cases hfa : firstAt (ps.map (·.1)) (fr, fp, fn, fi) < 0
      · have Ho6 := Lib.hid (Hf4.out.below HB6.out)
        go_wp2_with (at_builtin; refine wpList_append_own _ rfl _ _ 29 rfl (w.heap.size + 2) 79 i0 _ 6 80 Tryz.underlying29 Hi.out Hz0.out Hz1.out Hz2.out rfl (by decide) _ ps.length _ rfl (Ho6.out.1.alloc _) ⟨_, 0, none⟩ 1 1 (filCells ((⟨fr, fp, fn, fi, fst, fb⟩ : Fil), .slice ba' fb.length bc)) rfl rfl ?_ (fun x hx => by simp [filCells] at hx; rcases hx with rfl | rfl | rfl | rfl | rfl | rfl <;> rfl) (by unfold maxLen; omega) (by omega) (by simp; omega) ?_; (exact new_cellsD _ (filCells ((⟨fr, fp, fn, fi, fst, fb⟩ : Fil), .slice ba' fb.length bc)).toArray _ _ (by first | rfl | simp)); intro v7 w7 hown7 hgrow7 hnil7; obtain ⟨a7, c7, hv7⟩ := owns_shape hown7; subst hv7; have Hx7 := Lib.hid (fils_snocD (q := ((⟨fr, fp, fn, fi, fst, fb⟩ : Fil), .slice ba' fb.length bc)) Hown.out Hg4.out (by omega) (ba HB6.out _) (by omega) Hq4.out hgrow7 hown7); have Hg7 := Lib.hid hgrow7; have hge7 : ∀ b, (Value.slice oa ps.length oc).ownBlock = some b → w.heap.size + 2 ≤ b := fun b hb => (owns_block Hown.out.1 hb).1; have HE7 := Lib.hid (Dst.keepD (E6.out.alloc _) hgrow7 (by have := E6.out.1.1; simp; omega) (fun b hb => by have := hge7 b hb; omega) (fun b hb => by have := hge7 b hb; omega)); have HD7 := Lib.hid (Dst.keepD (D6.out.alloc _) hgrow7 (by have := D6.out.1.1; simp; omega) (fun b hb => by have := hge7 b hb; omega) (fun b hb => by have := hge7 b hb; omega)); have z0 : w7.cell? ⟨w.heap.size + 1, 0, none⟩ = some (.slice oa ps.length oc) := HE7.out.1.2 0; have zf : w7.frozen? ⟨w.heap.size + 1, 0, none⟩ = false := HE7.out.2.1 0; clear hown7 hgrow7 hnil7)
        have Hr7 := Lib.hid ((Hr6.out.alloc (.cells (filCells ((⟨fr, fp, fn, fi, fst, fb⟩ : Fil), .slice ba' fb.length bc)).toArray 79)).keep (fun j hj => Hg7.out.block j (by simp; omega) (fun e => by have := hge7 j e.symm; omega)))
        go_roundw
        case rel =>
          refine ⟨_, ps ++ [((⟨fr, fp, fn, fi, fst, fb⟩ : Fil), Value.slice ba' fb.length bc)], k - 1, q4, by go_num, by omega, by simp; omega, by omega, ?_, ?_, by rw [List.map_append]; exact okTree_snoc Hokt.out Hkf.out (by rw [List.length_map]; omega) hfa, Hx7.out.set_low (by dsimp only; omega) _, HD7.out.other (by omega) (by omega) 0 _, by have h := HE7.out.put 0 (by simp) (.slice a7 (ps.length + 1) c7); simpa using h, Hr7.out.set (by dsimp only; omega) _⟩
          · intro f hf
            rw [List.map_append] at hf
            rcases List.mem_append.1 hf with hf | hf
            · exact Hsh.out f hf
            · simp at hf; subst hf; exact Hsf.out
          · intro p hp
            rcases List.mem_append.1 hp with hp | hp
            · exact Hb4.out p hp
            · simp at hp; subst hp; exact hl4
        case measure => simp [intOf]; omega
      · go_wp2_with fail
        go_roundw
        case rel => exact ⟨_, ps, k - 1, q4, by go_num, by omega, by omega, by omega, Hsh.out, Hb4.out, Hokt.out, Hf4.out.below HB6.out, D6.out, E6.out, Hr6.out⟩
        case measure => simp [intOf]; omega
    · have y0 : wr.cell? ⟨w.heap.size + 1, 0, none⟩ = some (.slice oa ps.length oc) := He.out.1.2 0
      have z0 : wr.cell? ⟨w.heap.size, 0, none⟩ = some (.slice none 0 0) := Hd.out.1.2 0
      have zf0 : wr.frozen? ⟨w.heap.size, 0, none⟩ = false := Hd.out.2.1 0
      have hpl : ps.length ≤ 10 := by omega
      have Hpl := Lib.hid hpl
      clear hpl
      generalize hpn : ps.length = pn at *
      have Hpn := Lib.hid hpn
      clear hpn
      go_wp2_with fail
      refine bodyPost_ret (v := .agg #[.slice oa pn oc]) (by simp [results, Tryz.results163, go_sem, *]) rfl ⟨_, ps, rfl, Hokt.out, ?_, Hsh.out, by rw [Hpn.out]; exact Hpl.out, Hb4.out, q2, by omega, hrd.set (by dsimp only; omega) _, gb_set He.out.2.2.1 (by dsimp only; omega) _⟩
      have h := (Hown.out.set_low (p := ⟨w.heap.size, 0, none⟩) (by dsimp only; omega) (.slice oa pn oc)).mono (show w.heap.size ≤ w.heap.size + 2 by omega)
      exact h
theorem spec_someTree (R q : Nat) (w : World) (hr : Rd w R q) (hq : q ≤ 300000) :
    Calls Tryz.prog 163 #[.pointer (some ⟨R, 0, none⟩)] w (DrawTree0 R q 610 w) :=
  (spec_someTreeK R q w hr hq).mono fun _ _ ⟨v, ps, h1, _, h2⟩ => ⟨v, ps, h1, h2⟩
end Go.Proofs.YtcmnldomcpjlcaaGreat
