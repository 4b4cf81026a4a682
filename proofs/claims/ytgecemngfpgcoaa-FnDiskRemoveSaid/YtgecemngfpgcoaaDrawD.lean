/- The functions that draw a disk after some changes, and one that may not be valid: whatever the code, in memory of their own. -/
import Derived.Test.YtgecemngfpgcoaaDrawW
import Derived.Test.YtgecemngfpgcoaaDskC
import Derived.Deep.RegionLaw
set_option linter.unusedVariables false
set_option linter.unusedSimpArgs false
namespace Go.Proofs.Ytgecemngfpgcoaa
open Go.RowKit Go.Proofs.Ytgecemngfpgcoaa.Nm

theorem OwnDirs.gb {w w' : World} {B R : Nat} {v : Value} {qs : List (Dr × Value)} (h : OwnDirs w B v qs) (hg : w.grownBy w' (some R)) (hR : R < B) : OwnDirs w' B v qs :=
  ⟨owns_heap h.1 (fun b hb => hg.block b (owns_block h.1 hb).2 (fun e => by have h1 := (owns_block h.1 hb).1; have := Option.some.inj e; omega)),
   h.2.heap (fun b hB hlt _ => hg.block b hlt (fun e => by have := Option.some.inj e; omega))⟩
theorem OwnDsk.gb {w w' : World} {B R : Nat} {v u : Value} {ps : List (Fil × Value)} {qs : List (Dr × Value)} (h : OwnDsk w B v ps u qs) (hg : w.grownBy w' (some R)) (hR : R < B) : OwnDsk w' B v ps u qs := ⟨h.1.gb hg hR, h.2.gb hg hR⟩
theorem OwnDsk.set_low {w : World} {B : Nat} {v u : Value} {ps : List (Fil × Value)} {qs : List (Dr × Value)} (h : OwnDsk w B v ps u qs) {p : Addr} (hp : p.block < B) (x : Value) : OwnDsk (w.setCell p x) B v ps u qs := ⟨h.1.set_low hp x, h.2.set_low hp x⟩
theorem OwnDsk.drewD {w : World} {B : Nat} {v u : Value} {ps : List (Fil × Value)} {qs : List (Dr × Value)} (h : OwnDsk w B v ps u qs) : OwnDsk w.drew B v ps u qs := h.below ⟨rfl, rfl, rfl, Nat.le_refl _, fun _ _ => rfl⟩
theorem OwnDsk.nil (w : World) (B : Nat) : OwnDsk w B (.slice none 0 0) [] (.slice none 0 0) [] := ⟨⟨World.ownsRow_nil _ _ _ _, OwnBodies.nil _ _⟩, ownDirs_nil _ _⟩
theorem OwnDsk.len {w : World} {B : Nat} {v u : Value} {ps : List (Fil × Value)} {qs : List (Dr × Value)} (h : OwnDsk w B v ps u qs) : (∃ a c, v = .slice a ps.length c) ∧ ∃ a c, u = .slice a qs.length c := ⟨h.1.len, h.2.len⟩
theorem Rd.drewD {w : World} {R q : Nat} (h : Rd w R q) : Rd w.drew R q := h.keep (fun _ _ => rfl)
theorem Dst.drewD {w w1 : World} {R X : Nat} {cs : Array Value} (h : Dst w R X cs w1) : Dst w R X cs w1.drew := h.step ⟨rfl, rfl, rfl, Nat.le_refl _, fun _ _ _ => rfl⟩
theorem Dst.more {w w1 : World} {R : Nat} (hR : R < w1.heap.size) (hg : w.grownBy w1 (some R)) (cs : Array Value) (T : TypeId) : Dst w R w1.heap.size cs (w1.alloc (.cells cs T)) := by
  obtain ⟨h1, h2, h3, h4, h5⟩ := Dst.start (w := w1) hR cs T
  exact ⟨h1, h2, gb_trans hg h3, h4, hg.size⟩
theorem Dst.put3 {w w1 : World} {R X : Nat} {cs : Array Value} (hs : cs.size = 3) (h : Dst w R X cs w1) (a b c : Value) : Dst w R X #[a, b, c] (((w1.setCell ⟨X, 0, none⟩ a).setCell ⟨X, 1, none⟩ b).setCell ⟨X, 2, none⟩ c) := by
  obtain ⟨x0, x1, x2, rfl⟩ : ∃ x0 x1 x2, cs = #[x0, x1, x2] := by
    obtain ⟨l⟩ := cs
    match l, hs with
    | [x0, x1, x2], _ => exact ⟨x0, x1, x2, rfl⟩
  exact ((h.put 0 (by simp) a).put 1 (by simp) b).put 2 (by simp) c
theorem Dst.other3 {w w1 : World} {R X Y : Nat} {cs : Array Value} (h : Dst w R X cs w1) (hY : Y ≠ X) (hw' : w.heap.size ≤ Y) (a b c : Value) : Dst w R X cs (((w1.setCell ⟨Y, 0, none⟩ a).setCell ⟨Y, 1, none⟩ b).setCell ⟨Y, 2, none⟩ c) :=
  ((h.other hY hw' 0 a).other hY hw' 1 b).other hY hw' 2 c
theorem Rd.set3 {w : World} {R q Y : Nat} (h : Rd w R q) (hY : R < Y) (a b c : Value) : Rd (((w.setCell ⟨Y, 0, none⟩ a).setCell ⟨Y, 1, none⟩ b).setCell ⟨Y, 2, none⟩ c) R q := ((h.set (p := ⟨Y, 0, none⟩) hY a).set (p := ⟨Y, 1, none⟩) hY b).set (p := ⟨Y, 2, none⟩) hY c
/-- A block that is none of a disk's is written. -/
theorem OwnDsk.set3 {w : World} {B Y : Nat} {v u : Value} {ps : List (Fil × Value)} {qs : List (Dr × Value)} (h : OwnDsk w B v ps u qs) (hY : ∀ b, BlkK v ps u qs b → b ≠ Y) (a b c : Value) : OwnDsk (((w.setCell ⟨Y, 0, none⟩ a).setCell ⟨Y, 1, none⟩ b).setCell ⟨Y, 2, none⟩ c) B v ps u qs := by
  have key : ∀ (w : World) (i : Nat) (x : Value), OwnDsk w B v ps u qs → OwnDsk (w.setCell ⟨Y, i, none⟩ x) B v ps u qs := fun w i x h =>
    ⟨⟨owns_set_otherD h.1.1 (fun b hb => hY b (.inl (.inl hb))) x, h.1.2.heap (fun b _ _ ⟨q, hq, hb⟩ => Below.heap_setCell w ⟨Y, i, none⟩ x b (hY b (.inl (.inr ⟨q, hq, hb⟩))))⟩,
     ⟨owns_set_otherD h.2.1 (fun b hb => hY b (.inr (.inl hb))) x, h.2.2.heap (fun b _ _ ⟨q, hq, hb⟩ => Below.heap_setCell w ⟨Y, i, none⟩ x b (hY b (.inr (.inr ⟨q, hq, hb⟩))))⟩⟩
  exact key _ 2 c (key _ 1 b (key _ 0 a h))
theorem BoxC.gbD {w w' : World} {X R : Nat} {cs : Array Value} (h : BoxC w X cs) (hg : w.grownBy w' (some R)) (hne : X ≠ R) : BoxC w' X cs :=
  h.keep hg.size (hg.block X h.1 (fun e => hne (Option.some.inj e)))
theorem BoxC.drewD {w : World} {X : Nat} {cs : Array Value} (h : BoxC w X cs) : BoxC w.drew X cs := h.keep (Nat.le_refl _) rfl
theorem below_drewD {c : Nat} {a b : World} (h : Below c a b) : Below c a b.drew := ⟨h.os, h.tape, h.output, h.size, h.block⟩
/-- A literal of numbers that lies in a block of its own, whenever it was laid. -/
def LitAt (w : World) (R b : Nat) (xs : List Int) : Prop := w.heap[b]? = some (.cells (xs.map ivN).toArray 3 (0, 0)) ∧ b ≠ R
theorem LitAt.new {w : World} {R : Nat} (hR : R < w.heap.size) (xs : List Int) : LitAt (w.alloc (.cells (xs.map ivN).toArray 3)) R w.heap.size xs := ⟨heap_new w _ _, by omega⟩
theorem LitAt.gb {w w' : World} {R b : Nat} {xs : List Int} (h : LitAt w R b xs) (hg : w.grownBy w' (some R)) : LitAt w' R b xs :=
  ⟨(hg.block b (Array.getElem?_eq_some_iff.1 h.1).1 (fun e => h.2 (Option.some.inj e))).trans h.1, h.2⟩
theorem LitAt.drew {w : World} {R b : Nat} {xs : List Int} (h : LitAt w R b xs) : LitAt w.drew R b xs := h
theorem LitAt.alloc {w : World} {R b : Nat} {xs : List Int} (h : LitAt w R b xs) (o : Obj) : LitAt (w.alloc o) R b xs := h.gb (World.grownBy_alloc w o _)
/-- What is known of a drawn disk. -/
def FineD (fs : List Fil) (ds : List Dr) : Prop := ShortT 8 fs ∧ fs.length ≤ 8 ∧ (∀ f ∈ fs, f.body.length ≤ 4) ∧ (∀ d ∈ ds, d.names = [] ∧ d.pack.length ≤ 11) ∧ ds.length ≤ 21
theorem FineD.short {fs : List Fil} {ds : List Dr} (h : FineD fs ds) : ShortK 2000000 fs ds :=
  ⟨fun f hf => shortF_mono (by omega) (h.1 f hf), fun d hd => ⟨by have := (h.2.2.2.1 d hd).2; omega, by rw [(h.2.2.2.1 d hd).1]; intro n hn; cases hn⟩⟩
theorem FineD.cost {fs : List Fil} {ds : List Dr} (h : FineD fs ds) : dskCost' fs ds :=
  ⟨⟨by have := h.2.1; omega, fun f hf => by have := h.2.2.1 f hf; omega⟩, ⟨by have := h.2.2.2.2; omega, fun d hd => by rw [(h.2.2.2.1 d hd).1]; simp⟩⟩
theorem okDisk_dirs {fs : List Fil} {c : Int} {ds : List Dr} (h : okDisk ⟨fs, c, ds⟩ = true) : (∀ d ∈ ds, d.names = [] ∧ d.pack.length ≤ 11) ∧ ds.length ≤ 20 :=
  ⟨okDirs_dr' (okDisk_all h).2.1, okDirs_len (okDisk_all h).2.1⟩
theorem fine_of {fs : List Fil} {c : Int} {ds : List Dr} (h : okDisk ⟨fs, c, ds⟩ = true) (h1 : ShortT 8 fs) (h2 : fs.length ≤ 8) (h3 : ∀ f ∈ fs, f.body.length ≤ 4) : FineD fs ds :=
  ⟨h1, h2, h3, (okDisk_dirs h).1, by have := (okDisk_dirs h).2; omega⟩
theorem changed_ok {d : Dsk} {t : List Fil} {r : Int} {p : Bs} {k : Int} (h : (changed d t r p k).2 = true) : okDisk (changed d t r p k).1 = true ∧ (changed d t r p k).1.files = t := by
  unfold changed at h ⊢
  split at h
  · rename_i hc
    rw [if_pos hc]
    simp only [Bool.and_eq_true] at hc
    exact ⟨hc.2, rfl⟩
  · exact absurd h (by simp)
theorem diskAdd_ok {d : Dsk} {f : Fil} {k : Int} (h : (diskAdd d f k).2 = true) : okDisk (diskAdd d f k).1 = true ∧ (diskAdd d f k).1.files = d.files ++ [f] := by
  cases hc : okDisk d && (addFil d.files f).2
  · rw [diskAdd_no hc] at h; exact absurd h (by simp)
  · simp only [Bool.and_eq_true] at hc
    rw [diskAdd_yes hc.1 hc.2] at h ⊢
    obtain ⟨h1, h2⟩ := changed_ok h
    refine ⟨h1, h2.trans ?_⟩
    have h3 := hc.2
    unfold addFil at h3 ⊢
    split at h3
    · rename_i hx; rw [if_pos hx]
    · exact absurd h3 (by simp)
theorem diskRem_ok {d : Dsk} {i k : Int} (h : (diskRem d i k).2 = true) : okDisk (diskRem d i k).1 = true ∧ (diskRem d i k).1.files = d.files.eraseIdx i.toNat := by
  cases hc : okDisk d && (remFil d.files i).2
  · rw [diskRem_no hc] at h; exact absurd h (by simp)
  · simp only [Bool.and_eq_true] at hc
    rw [diskRem_yes hc.1 hc.2] at h ⊢
    obtain ⟨h1, h2⟩ := changed_ok h
    refine ⟨h1, h2.trans ?_⟩
    have h3 := hc.2
    unfold remFil at h3 ⊢
    split at h3
    · rename_i hx; rw [if_pos hx]
    · exact absurd h3 (by simp)
theorem okDisk_zero : okDisk ⟨[], 0, []⟩ = true := by decide
/-- What a function that draws a disk comes to; it is a valid one. -/
def DrawDskK (R q c : Nat) (w : World) (e : Ending) (w' : World) : Prop :=
  ∃ (v : Value) (ps : List (Fil × Value)) (u : Value) (qs : List (Dr × Value)) (cl : Int), e = .returned (.agg #[v, .int .i64 cl, u]) ∧ okDisk ⟨ps.map (·.1), cl, qs.map (·.1)⟩ = true ∧ FineD (ps.map (·.1)) (qs.map (·.1)) ∧ OwnDsk w' w.heap.size v ps u qs ∧ ∃ q', q' ≤ q + c ∧ Rd w' R q' ∧ w.grownBy w' (some R)
/-- .. and it may not be one. -/
def DrawDsk (R q c : Nat) (w : World) (e : Ending) (w' : World) : Prop :=
  ∃ (v : Value) (ps : List (Fil × Value)) (u : Value) (qs : List (Dr × Value)) (cl : Int), e = .returned (.agg #[v, .int .i64 cl, u]) ∧ FineD (ps.map (·.1)) (qs.map (·.1)) ∧ -1 ≤ cl ∧ cl ≤ 201 ∧ OwnDsk w' w.heap.size v ps u qs ∧ ∃ q', q' ≤ q + c ∧ Rd w' R q' ∧ w.grownBy w' (some R)
/-- One more directory without names behind others. -/
theorem dirs_snocD {W w7 : World} {B : Nat} {uv v7 : Value} {qs : List (Dr × Value)} {d : Dr} (h : OwnDirs W B uv qs) (hd : d.names = []) (hg : W.grownBy w7 uv.ownBlock)
    (h7 : w7.ownsRow B 72 4 v7 (qs.length + 1) (qs.flatMap drCells ++ drCells (d, .slice none 0 0))) : OwnDirs w7 B v7 (qs ++ [(d, .slice none 0 0)]) := by
  refine ⟨by simpa using h7, ?_⟩
  have h1 : OwnNames W B (qs ++ [(d, .slice none 0 0)]) := by
    refine ⟨fun p hp => ?_, ?_⟩
    · rcases List.mem_append.1 hp with hp | hp
      · exact h.2.1 p hp
      · simp at hp; subst hp; rw [hd]; exact World.ownsRow_nil _ _ _ _
    · rw [List.pairwise_append]
      refine ⟨h.2.2, by simp, fun p hp x hx b hpb => ?_⟩
      simp at hx; subst hx
      intro hxb; cases hxb
  exact h1.heap (fun b _ hlt ⟨p, hp, hpb⟩ => hg.block b hlt (fun e => own_types (T := 72) (T' := 9) (by decide) h.1 (h1.1 p hp) e.symm hpb))
/-- Files stay while directories grow. -/
theorem fils_besideD {w w7 : World} {B B' m : Nat} {v lv : Value} {xs : List Value} {ps : List (Fil × Value)} (h : OwnFils w B v ps) (hl : w.ownsRow B' 72 4 lv m xs) (hg : w.grownBy w7 lv.ownBlock) : OwnFils w7 B v ps :=
  ⟨owns_heap h.1 (fun b hb => hg.block b (owns_block h.1 hb).2 (fun e => own_types (T := 72) (T' := 36) (by decide) hl h.1 e.symm hb)),
   h.2.heap (fun b _ hlt ⟨p, hp, hpb⟩ => hg.block b hlt (fun e => own_types (T := 72) (T' := 138) (by decide) hl (h.2.1 p hp) e.symm hpb))⟩
theorem step_append_ownD {P : Program} {ops : Array Oper} {o : Oper} {a : Act} {w : World} {K : Act → World → Prop} {Q : Exit → Act → World → Prop} {E : Prop} (hgd : o.guard = none) (s x : Operand) (t : TypeId)
    (ho : o.op = .call { callee := .builtin .append, args := #[s, x], argTypes := #[t, t] })
    (base : Nat) (e : TypeId) (i : TypeInfo) (z : Value) (size bytes : Nat) (ht : P.underlying t = some (.slice e)) (hi : P.info? e = some i) (hz : i.zero = some z)
    (hsize : i.size = size) (hby : i.bytes = bytes) (hzs : z.cells.size = size) (hsz : 0 < size)
    (v : Value) (n : Nat) (xs : List Value) (hs : a.eval s = v) (hown : w.ownsRow base e size v n xs)
    (ad : Addr) (m c : Nat) (news : List Value) (hx : a.eval x = .slice (some ad) m c) (hl : news.length = m * size) (hnews : ∀ j u, news[j]? = some u → w.cell? (ad.add j) = some u) (h1 : ∀ u ∈ news, u.oneCell' = true)
    (h63 : n + m ≤ maxLen) (hbytes : (n + m) * bytes ≤ 140737488355328) (hbase : base ≤ w.heap.size)
    (h : ∀ v' w', w'.ownsRow base e size v' (n + m) (xs ++ news) → w.grownBy w' v.ownBlock → K (a.put o.dst v') w') :
    if Region.wanted o (yielded ops a.tmps) = true then Oper.wp P o a w K Q else E := by
  have hw : Region.wanted o (yielded ops a.tmps) = true := by simp [Region.wanted, hgd]
  rw [if_pos hw]
  exact wp_append_own w s x t ho base e i z size bytes ht hi hz hsize hby hzs hsz v n xs hs hown ad m c news hx hl hnews h1 h63 hbytes hbase (fun v' w' a b _ => h v' w' a b)
theorem spec_newDisk (w : World) : Calls Try.prog 118 #[] w fun e w' => e = .returned (.agg #[.slice none 0 0, .int .i64 0, .slice none 0 0]) ∧ w' = w.alloc (.cells #[.slice none 0 0, .int .i64 0, .slice none 0 0] 28) := by
  go_enter Try.func118, Try.ntmps118
  go_wp2_with fail
  exact bodyPost_ret (v := .agg #[.slice none 0 0, .int .i64 0, .slice none 0 0]) (by simp [results, Try.results118, go_sem]) rfl ⟨rfl, rfl⟩
set_option maxRecDepth 100000 in
set_option maxHeartbeats 4000000 in
theorem spec_someDisk (R q : Nat) (w : World) (hr : Rd w R q) (hq : q ≤ 200000) :
    Calls Try.prog 81 #[.pointer (some ⟨R, 0, none⟩)] w (DrawDskK R q 601 w) := by
  have hR := hr.lt
  go_enter Try.func81, Try.ntmps81
  go_wp2_with (go_at_call 118; refine (spec_newDisk _).mono ?_; rintro _ _ ⟨rfl, rfl⟩)
  have d0 := Dst.start hR #[.slice none 0 0, .int .i64 0, .slice none 0 0] 28
  have hr0 := hr.alloc (.cells #[.slice none 0 0, .int .i64 0, .slice none 0 0] 28)
  obtain ⟨W0, hW0⟩ : ∃ W, W = (w.alloc (.cells #[.slice none 0 0, .int .i64 0, .slice none 0 0] 28)).alloc (.cells #[.slice none 0 0, .int .i64 0, .slice none 0 0] 28) := ⟨_, rfl⟩
  have hs0 : W0.heap.size = w.heap.size + 2 := by rw [hW0]; simp
  have d1 : Dst w R w.heap.size #[.slice none 0 0, .int .i64 0, .slice none 0 0] W0 := by rw [hW0]; exact d0.alloc _
  have hr1 : Rd W0 R q := by rw [hW0]; exact hr0.alloc _
  have e1 : Dst w R (w.heap.size + 2) #[.slice none 0 0, .int .i64 0, .slice none 0 0] (W0.alloc (.cells #[.slice none 0 0, .int .i64 0, .slice none 0 0] 28)) := by
    obtain ⟨h1, h2, h3, h4, h5⟩ := Dst.start (w := W0) (R := R) (by omega) #[.slice none 0 0, .int .i64 0, .slice none 0 0] 28
    rw [hs0] at h1 h2 h4 h5
    exact ⟨h1, h2, gb_trans d1.2.2.1 h3, h4, by omega⟩
  rw [← hW0]
  have D1 := Lib.hid (d1.alloc (.cells #[.slice none 0 0, .int .i64 0, .slice none 0 0] 28))
  have E1 := Lib.hid e1
  have hr2 := hr1.alloc (.cells #[.slice none 0 0, .int .i64 0, .slice none 0 0] 28)
  clear d0 d1 e1 hr0 hr1 hW0
  refine (reader_one R q (w.heap.size + 3) 3 [5, 4, 6, 3, 8, 1, 0] _ (hr2.alloc _) (by have h := heap_new (W0.alloc (.cells #[.slice none 0 0, .int .i64 0, .slice none 0 0] 28)) ([5, 4, 6, 3, 8, 1, 0].map ivN).toArray 3; rw [World.size_alloc, hs0] at h; exact h) (by omega) (by decide) (by decide) (by omega)).mono ?_
  rintro e w1 ⟨n, hn, rfl, hr3, hg3⟩
  have hn' := mem_int 0 8 (by decide) hn
  have D2 := Lib.hid ((D1.out.alloc _).step hg3)
  have E2 := Lib.hid ((E1.out.alloc _).step hg3)
  clear D1 E1 hg3 hn hr2
  go_wp2_with fail
  go_loopw [4] (fun kv wr => ∃ (v : Value) (ps : List (Fil × Value)) (u : Value) (qs : List (Dr × Value)) (c : Int) (k : Int) (q2 : Nat), kv = .int .i64 k ∧ 0 ≤ k ∧ (ps.length : Int) + k ≤ 8 ∧ (q2 : Int) + 70 * k ≤ q + 561 ∧ ShortT 8 (ps.map (·.1)) ∧ (∀ f ∈ ps.map (·.1), f.body.length ≤ 4) ∧ okDisk ⟨ps.map (·.1), c, qs.map (·.1)⟩ = true ∧ OwnDsk wr (w.heap.size + 3) v ps u qs ∧ Dst w R w.heap.size #[.slice none 0 0, .int .i64 0, .slice none 0 0] wr ∧ Dst w R (w.heap.size + 2) #[v, .int .i64 c, u] wr ∧ Rd wr R q2) (fun kv _ => (intOf kv).toNat)
  case atStart => exact ⟨.slice none 0 0, [], .slice none 0 0, [], 0, n, q + 1, rfl, hn'.1, by simp; omega, by omega, (fun f hf => by cases hf), (fun f hf => by cases hf), okDisk_zero, OwnDsk.nil _ _, D2.out, E2.out, hr3⟩
  case round =>
    obtain ⟨v, ps, u, qs, c, k, q2, rfl, hk0, hk8, hq2, hsh, hb4, hokd, hown, hd, he, hrd⟩ := hrel
    obtain ⟨⟨oa, oc, rfl⟩, ⟨ua, uc, rfl⟩⟩ := hown.len
    have Hokd := Lib.hid hokd
    have Hsh := Lib.hid hsh
    have Hb4 := Lib.hid hb4
    have Hfine := Lib.hid (fine_of hokd hsh (by rw [List.length_map]; omega) hb4)
    have Hown := Lib.hid hown
    have Hd := Lib.hid hd
    have He := Lib.hid he
    have hRr := hrd.lt
    have hzr : w.heap.size + 3 ≤ wr.heap.size := by have := he.1.1; omega
    clear hsh hb4 hown hd he D2 E2 hr3 hokd
    by_cases hk1 : 0 < k
    · go_wp2_with fail
      refine (reader_one R q2 wr.heap.size 3 [1, 1, 2, 0] _ (hrd.alloc _) (heap_new wr _ _) (by omega) (by decide) (by decide) (by omega)).mono ?_
      rintro e w2 ⟨tk, htk, rfl, hr2, hg2⟩
      have htk' := mem_int 0 2 (by decide) htk
      have O2 := Lib.hid ((Hown.out.below (ba (Below.refl _ _) (.cells ([1, 1, 2, 0].map ivN).toArray 3))).gb hg2 (by omega))
      have D2 := Lib.hid ((Hd.out.alloc (.cells ([1, 1, 2, 0].map ivN).toArray 3)).step hg2)
      have E2 := Lib.hid ((He.out.alloc (.cells ([1, 1, 2, 0].map ivN).toArray 3)).step hg2)
      have hz2 : wr.heap.size + 1 ≤ w2.heap.size := by have := hg2.size; simpa using this
      have Y2 := Lib.hid (Dst.more (w := w) (R := R) (w1 := w2) (by omega) D2.out.2.2.1 #[.slice none 0 0, .int .i64 0, .slice none 0 0] 28)
      have O2' := Lib.hid (O2.out.below (ba (Below.refl _ _) (.cells #[.slice none 0 0, .int .i64 0, .slice none 0 0] 28)))
      have D2' := Lib.hid (D2.out.alloc (.cells #[.slice none 0 0, .int .i64 0, .slice none 0 0] 28))
      have E2' := Lib.hid (E2.out.alloc (.cells #[.slice none 0 0, .int .i64 0, .slice none 0 0] 28))
      obtain ⟨Y, hY⟩ : ∃ Y, Y = w2.heap.size := ⟨_, rfl⟩
      have HY := Lib.hid hY
      rw [← hY] at Y2 hz2
      clear hg2 htk O2 D2 E2 hY
      go_wp2_with fail
      rw [← HY.out]
      refine (reader_pick R (q2 + 1) _ _ (hr2.alloc _) (by omega) (by omega)).mono ?_
      rintro e w3 ⟨j, rfl, hj0, hj, hr3, hg3⟩
      have O3 := Lib.hid (O2'.out.gb hg3 (by omega))
      have D3 := Lib.hid (D2'.out.step hg3)
      have E3 := Lib.hid (E2'.out.step hg3)
      have Y3 := Lib.hid (Y2.out.step hg3)
      have HK := Lib.hid (blkK_ge O3.out)
      have hlow : ∀ b, BlkK (.slice oa ps.length oc) ps (.slice ua qs.length uc) qs b → b ≠ Y := fun b hb e => by
        have := (blkK_ge Hown.out b hb).2
        omega
      have Hlow := Lib.hid hlow
      have hYX : Y ≠ w.heap.size + 2 := by omega
      have hYw : Y ≠ w.heap.size := by omega
      have hXY : w.heap.size + 2 ≠ Y := by omega
      have hwY : w.heap.size ≠ Y := by omega
      have hY3 := Y3.out.1.1
      have x0 : w3.cell? ⟨w.heap.size + 2, 0, none⟩ = some (.slice oa ps.length oc) := E3.out.1.2 0
      have x1 : w3.cell? ⟨w.heap.size + 2, 1, none⟩ = some (.int .i64 c) := E3.out.1.2 1
      have x2 : w3.cell? ⟨w.heap.size + 2, 2, none⟩ = some (.slice ua qs.length uc) := E3.out.1.2 2
      clear O2' D2' E2' Y2 hg3 hr2 hlow hj
      by_cases hrem : j = 0 ∧ 0 < ps.length
      · obtain ⟨rfl, hpos⟩ := hrem
        go_wp2_with fail
        go_region_law (first
          | (go_simp; go_at_call 43; refine (reader_pick R (q2 + 1 + 1) (ps.length : Int) _ hr3.drewD (by omega) (by omega)).mono ?_; rintro e w4 ⟨i4, rfl, hi0, hi4, hr4, hg4⟩; have O4 := Lib.hid (O3.out.drewD.gb hg4 (by omega)); have D4 := Lib.hid (D3.out.drewD.step hg4); have E4 := Lib.hid (E3.out.drewD.step hg4); have Y4 := Lib.hid (Y3.out.drewD.step hg4); have Hr4 := Lib.hid hr4; have z0 : w4.cell? ⟨w.heap.size + 2, 0, none⟩ = some (.slice oa ps.length oc) := E4.out.1.2 0; have z1 : w4.cell? ⟨w.heap.size + 2, 1, none⟩ = some (.int .i64 c) := E4.out.1.2 1; have z2 : w4.cell? ⟨w.heap.size + 2, 2, none⟩ = some (.slice ua qs.length uc) := E4.out.1.2 2; have hY4 := Y4.out.1.1; clear hg4 hr4)
          | (go_simp; go_at_call 12; refine (spec_DiskRemove _ (ps.map (·.1)) ps c _ (qs.map (·.1)) qs (w.heap.size + 3) i4 tk _ O4.out rfl rfl Hfine.out.short Hfine.out.cost).mono ?_; rintro e w5 ⟨v5, ps5, u5, qs5, rfl, hps5, hqs5, hf5, hd5, hb5⟩; clear x0 x1 x2 z0 z1 z2; obtain ⟨a5, c5, hv5⟩ := hf5.len; subst hv5; obtain ⟨b5, d5, hu5⟩ := hd5.len; subst hu5; have hok0 := (fun h => diskRem_ok (d := ⟨ps.map (·.1), c, qs.map (·.1)⟩) (i := i4) (k := tk) h); obtain ⟨res, hres⟩ : ∃ r, r = diskRem ⟨ps.map (·.1), c, qs.map (·.1)⟩ i4 tk := ⟨_, rfl⟩; rw [← hres] at hps5 hqs5 hok0 ⊢; have Hok := Lib.hid hok0; clear hres hok0; have O5 := Lib.hid (show OwnDsk w5 w4.heap.size (.slice a5 ps5.length c5) ps5 (.slice b5 qs5.length d5) qs5 from ⟨hf5, hd5⟩); have O5' := Lib.hid (O4.out.below hb5); have D5 := Lib.hid (D4.out.step (gb_below hb5 _)); have E5 := Lib.hid (E4.out.step (gb_below hb5 _)); have Y5 := Lib.hid (Y4.out.step (gb_below hb5 _)); have Hr5 := Lib.hid (Hr4.out.below hb5 Hr4.out.lt); have Hp5 := Lib.hid hps5; have Hq5 := Lib.hid hqs5; have y0 : w5.cell? ⟨Y, 0, none⟩ = some (.slice none 0 0) := Y5.out.1.2 0; have y1 : w5.cell? ⟨Y, 1, none⟩ = some (.int .i64 0) := Y5.out.1.2 1; have y2 : w5.cell? ⟨Y, 2, none⟩ = some (.slice none 0 0) := Y5.out.1.2 2; have yf0 := Y5.out.2.1 0; have yf1 := Y5.out.2.1 1; have yf2 := Y5.out.2.1 2; have x0 : w5.cell? ⟨w.heap.size + 2, 0, none⟩ = some (.slice oa ps.length oc) := E5.out.1.2 0; have x1 : w5.cell? ⟨w.heap.size + 2, 1, none⟩ = some (.int .i64 c) := E5.out.1.2 1; have x2 : w5.cell? ⟨w.heap.size + 2, 2, none⟩ = some (.slice ua qs.length uc) := E5.out.1.2 2; have xf0 := E5.out.2.1 0; have xf1 := E5.out.2.1 1; have xf2 := E5.out.2.1 2; have hz5 := hb5.size; clear hf5 hd5 hps5 hqs5 hb5))
        all_goals
          have hzR := Hr4.out.lt
          have N5 := Lib.hid (fun b (hb : BlkK (.slice a5 ps5.length c5) ps5 (.slice b5 qs5.length d5) qs5 b) => (blkK_ge O5.out b hb).1)
          cases hr2 : res.2
          · have hr2' := Lib.hid hr2
            clear hr2
            go_wp2_with fail
            go_roundw
            case rel => exact ⟨_, ps, _, qs, c, k - 1, q2 + 1 + 1 + 1, by go_num, by omega, by omega, by omega, Hsh.out, Hb4.out, Hokd.out, O5'.out.set3 Hlow.out _ _ _, D5.out.other3 hYw (by omega) _ _ _, E5.out.other3 hYX (by omega) _ _ _, Hr5.out.set3 (by omega) _ _ _⟩
            case measure => simp [intOf]; omega
          · have Hok2 := Lib.hid (Hok.out hr2)
            clear hr2
            obtain ⟨rd, rb⟩ := res
            obtain ⟨rf, rc, rs⟩ := rd
            dsimp only at Hp5 Hq5 Hok2 ⊢
            have Hfs := Lib.hid (show ps5.map (·.1) = (ps.map (·.1)).eraseIdx i4.toNat from by rw [Hp5.out]; exact Hok2.out.2)
            have Hl5 := Lib.hid (show ps5.length + 1 ≤ ps.length + 1 from by have h := congrArg List.length Hfs.out; rw [List.length_map, List.length_eraseIdx, List.length_map] at h; split at h <;> omega)
            go_wp2_with fail
            go_roundw
            case rel =>
              refine ⟨_, ps5, _, qs5, rc, k - 1, q2 + 1 + 1 + 1, by go_num, by omega, by have := Hl5.out; omega, by omega, ?_, ?_, by rw [Hp5.out, Hq5.out]; exact Hok2.out.1, ((O5.out.set3 (fun b hb => by have := N5.out b hb; omega) _ _ _).set3 (Y := w.heap.size + 2) (fun b hb => by have := N5.out b hb; omega) _ _ _).mono (by omega), (D5.out.other3 hYw (by omega) _ _ _).other3 (Y := w.heap.size + 2) (by omega) (by omega) _ _ _, (E5.out.other3 hYX (by omega) _ _ _).put3 rfl _ _ _, (Hr5.out.set3 (by omega) _ _ _).set3 (Y := w.heap.size + 2) (by omega) _ _ _⟩
              · rw [Hfs.out]; exact fun f hf => Hsh.out f (List.mem_of_mem_eraseIdx hf)
              · rw [Hfs.out]; exact fun f hf => Hb4.out f (List.mem_of_mem_eraseIdx hf)
            case measure => simp [intOf]; omega
      · generalize hn0 : ps.length = n0 at *
        have Hn := Lib.hid hn0
        clear hn0
        rcases (show (j = 0 ∧ n0 = 0) ∨ j ≠ 0 by omega) with ⟨rfl, rfl⟩ | hj1
        all_goals
          have hnum : True := trivial
          try have hj1b : (j == 0) = false := by simpa using hj1
          try clear hj1
          try clear hrem
          go_wp2_with fail
          go_region_law (first
            | (go_simp; go_at_call 119; refine (spec_someFileK R (q2 + 1 + 1) _ hr3.drewD (by omega)).mono ?_; rintro e w4 ⟨⟨fr, fp, fn, fi, fst, fb⟩, bv, rfl, hkf, hown4, hsf, hl4, q4, hq4, hr4, hg4⟩; unfold filV; dsimp only at hown4 hl4 ⊢; obtain ⟨ba', bc, hbv⟩ := owns_shape hown4; subst hbv; have O4 := Lib.hid (O3.out.drewD.gb hg4 (by omega)); have D4 := Lib.hid (D3.out.drewD.step hg4); have E4 := Lib.hid (E3.out.drewD.step hg4); have Y4 := Lib.hid (Y3.out.drewD.step hg4); have Hr4 := Lib.hid hr4; have Hown4 := Lib.hid hown4; have Hsf := Lib.hid hsf; have Hl4 := Lib.hid hl4; have z0 : w4.cell? ⟨w.heap.size + 2, 0, none⟩ = some (.slice oa _ oc) := E4.out.1.2 0; have z1 : w4.cell? ⟨w.heap.size + 2, 1, none⟩ = some (.int .i64 c) := E4.out.1.2 1; have z2 : w4.cell? ⟨w.heap.size + 2, 2, none⟩ = some (.slice ua qs.length uc) := E4.out.1.2 2; have hY4 := Y4.out.1.1; clear hg4 hr4 hown4 hsf hl4 hkf)
            | (go_simp; go_at_call 20; refine (spec_DiskAdd _ (ps.map (·.1)) ps c _ (qs.map (·.1)) qs (w.heap.size + 3) _ fr fst fp fn fi _ fb tk _ O4.out rfl rfl Hfine.out.short Hfine.out.cost (by have := Hl4.out; omega) Hown4.out (shortF_mono (by omega) Hsf.out)).mono ?_; rintro e w5 ⟨v5, ps5, u5, qs5, rfl, hps5, hqs5, hf5, hd5, hb5⟩; clear x0 x1 x2 z0 z1 z2; obtain ⟨a5, c5, hv5⟩ := hf5.len; subst hv5; obtain ⟨b5, d5, hu5⟩ := hd5.len; subst hu5; have hok0 := (fun h => diskAdd_ok (d := ⟨ps.map (·.1), c, qs.map (·.1)⟩) (f := ⟨fr, fp, fn, fi, fst, fb⟩) (k := tk) h); obtain ⟨res, hres⟩ : ∃ r, r = diskAdd ⟨ps.map (·.1), c, qs.map (·.1)⟩ ⟨fr, fp, fn, fi, fst, fb⟩ tk := ⟨_, rfl⟩; rw [← hres] at hps5 hqs5 hok0 ⊢; have Hok := Lib.hid hok0; clear hres hok0; have O5 := Lib.hid (show OwnDsk w5 w4.heap.size (.slice a5 ps5.length c5) ps5 (.slice b5 qs5.length d5) qs5 from ⟨hf5, hd5⟩); have O5' := Lib.hid (O4.out.below hb5); have D5 := Lib.hid (D4.out.step (gb_below hb5 _)); have E5 := Lib.hid (E4.out.step (gb_below hb5 _)); have Y5 := Lib.hid (Y4.out.step (gb_below hb5 _)); have Hr5 := Lib.hid (Hr4.out.below hb5 Hr4.out.lt); have Hp5 := Lib.hid hps5; have Hq5 := Lib.hid hqs5; have y0 : w5.cell? ⟨Y, 0, none⟩ = some (.slice none 0 0) := Y5.out.1.2 0; have y1 : w5.cell? ⟨Y, 1, none⟩ = some (.int .i64 0) := Y5.out.1.2 1; have y2 : w5.cell? ⟨Y, 2, none⟩ = some (.slice none 0 0) := Y5.out.1.2 2; have yf0 := Y5.out.2.1 0; have yf1 := Y5.out.2.1 1; have yf2 := Y5.out.2.1 2; have x0 : w5.cell? ⟨w.heap.size + 2, 0, none⟩ = some (.slice oa _ oc) := E5.out.1.2 0; have x1 : w5.cell? ⟨w.heap.size + 2, 1, none⟩ = some (.int .i64 c) := E5.out.1.2 1; have x2 : w5.cell? ⟨w.heap.size + 2, 2, none⟩ = some (.slice ua qs.length uc) := E5.out.1.2 2; have xf0 := E5.out.2.1 0; have xf1 := E5.out.2.1 1; have xf2 := E5.out.2.1 2; have hz5 := hb5.size; clear hf5 hd5 hps5 hqs5 hb5))
          all_goals
            have hzR := Hr4.out.lt
            have N5 := Lib.hid (fun b (hb : BlkK (.slice a5 ps5.length c5) ps5 (.slice b5 qs5.length d5) qs5 b) => (blkK_ge O5.out b hb).1)
            cases hr2 : res.2
            · clear hr2
              go_wp2_with fail
              go_roundw
              case rel => exact ⟨_, ps, _, qs, c, k - 1, q4, by go_num, by omega, by have := Hn.out; omega, by omega, Hsh.out, Hb4.out, Hokd.out, O5'.out.set3 Hlow.out _ _ _, D5.out.other3 hYw (by omega) _ _ _, E5.out.other3 hYX (by omega) _ _ _, Hr5.out.set3 (by omega) _ _ _⟩
              case measure => simp [intOf]; omega
            · have Hok2 := Lib.hid (Hok.out hr2)
              clear hr2
              obtain ⟨rd, rb⟩ := res
              obtain ⟨rf, rc, rs⟩ := rd
              dsimp only at Hp5 Hq5 Hok2 ⊢
              have Hfs := Lib.hid (show ps5.map (·.1) = ps.map (·.1) ++ [⟨fr, fp, fn, fi, fst, fb⟩] from by rw [Hp5.out]; exact Hok2.out.2)
              have Hl5 := Lib.hid (show ps5.length = ps.length + 1 from by have h := congrArg List.length Hfs.out; rw [List.length_map, List.length_append, List.length_map] at h; exact h)
              go_wp2_with fail
              go_roundw
              case rel =>
                refine ⟨_, ps5, _, qs5, rc, k - 1, q4, by go_num, by omega, by have := Hl5.out; have := Hn.out; omega, by omega, ?_, ?_, by rw [Hp5.out, Hq5.out]; exact Hok2.out.1, ((O5.out.set3 (fun b hb => by have := N5.out b hb; omega) _ _ _).set3 (Y := w.heap.size + 2) (fun b hb => by have := N5.out b hb; omega) _ _ _).mono (by omega), (D5.out.other3 hYw (by omega) _ _ _).other3 (Y := w.heap.size + 2) (by omega) (by omega) _ _ _, (E5.out.other3 hYX (by omega) _ _ _).put3 rfl _ _ _, (Hr5.out.set3 (by omega) _ _ _).set3 (Y := w.heap.size + 2) (by omega) _ _ _⟩
                · rw [Hfs.out]; intro f hf
                  rcases List.mem_append.1 hf with hf | hf
                  · exact Hsh.out f hf
                  · simp at hf; subst hf; exact Hsf.out
                · rw [Hfs.out]; intro f hf
                  rcases List.mem_append.1 hf with hf | hf
                  · exact Hb4.out f hf
                  · simp at hf; subst hf; exact Hl4.out
              case measure => simp [intOf]; omega
    · have y0 : wr.cell? ⟨w.heap.size + 2, 0, none⟩ = some (.slice oa ps.length oc) := He.out.1.2 0
      have y1 : wr.cell? ⟨w.heap.size + 2, 1, none⟩ = some (.int .i64 c) := He.out.1.2 1
      have y2 : wr.cell? ⟨w.heap.size + 2, 2, none⟩ = some (.slice ua qs.length uc) := He.out.1.2 2
      have z0 : wr.cell? ⟨w.heap.size, 0, none⟩ = some (.slice none 0 0) := Hd.out.1.2 0
      have z1 : wr.cell? ⟨w.heap.size, 1, none⟩ = some (.int .i64 0) := Hd.out.1.2 1
      have z2 : wr.cell? ⟨w.heap.size, 2, none⟩ = some (.slice none 0 0) := Hd.out.1.2 2
      have zf0 := Hd.out.2.1 0
      have zf1 := Hd.out.2.1 1
      have zf2 := Hd.out.2.1 2
      have hqn : q2 ≤ q + 601 := by omega
      have N5 := Lib.hid (fun b (hb : BlkK (.slice oa ps.length oc) ps (.slice ua qs.length uc) qs b) => (blkK_ge Hown.out b hb).1)
      generalize hpn : ps.length = pn at *
      generalize hqn2 : qs.length = qn at *
      have Hpn := Lib.hid hpn
      have Hqn := Lib.hid hqn2
      clear hpn hqn2
      go_wp2_with fail
      refine bodyPost_ret (v := .agg #[.slice oa pn oc, .int .i64 c, .slice ua qn uc]) (by simp [results, Try.results81, go_sem, *]) rfl ⟨_, ps, _, qs, c, rfl, Hokd.out, Hfine.out, (Hown.out.set3 (fun b hb => by have := N5.out b hb; omega) _ _ _).mono (by omega), q2, hqn, hrd.set3 (by omega) _ _ _, gb_set (gb_set (gb_set He.out.2.2.1 (by dsimp only; omega) _) (by dsimp only; omega) _) (by dsimp only; omega) _⟩
set_option maxRecDepth 100000 in
set_option maxHeartbeats 4000000 in
theorem spec_anyDisk (R q : Nat) (w : World) (hr : Rd w R q) (hq : q ≤ 190000) :
    Calls Try.prog 41 #[.pointer (some ⟨R, 0, none⟩)] w (DrawDsk R q 603 w) := by
  obtain ⟨i0, hi, hz0, hz1, hz2⟩ := info_parts infoDir
  have Hi := Lib.hid hi
  have Hz0 := Lib.hid hz0
  have Hz1 := Lib.hid hz1
  have Hz2 := Lib.hid hz2
  clear hi hz0 hz1 hz2
  have hR := hr.lt
  go_enter Try.func41, Try.ntmps41
  go_wp2_with fail
  have d0 := Dst.start hR #[.slice none 0 0, .int .i64 0, .slice none 0 0] 28
  refine (spec_someDisk R q _ (hr.alloc _) (by omega)).mono ?_
  rintro e w1 ⟨v, ps, u, qs, c, rfl, hokd, hfine, hown1, q1, hq1, hr1, hg1⟩
  obtain ⟨⟨oa, oc, rfl⟩, ⟨ua, uc, rfl⟩⟩ := hown1.len
  have hc : 0 ≤ c ∧ c ≤ 200 := by have h := (okDisk_all hokd).1; unfold inr at h; simpa using h
  have Hql := Lib.hid (show qs.length ≤ 20 by have h := (okDisk_dirs hokd).2; rwa [List.length_map] at h)
  have Hdr := Lib.hid (okDisk_dirs hokd).1
  have Hfine := Lib.hid hfine
  have O1 := Lib.hid (hown1.mono (B' := w.heap.size + 1) (by simp))
  have D1 := Lib.hid (d0.step hg1)
  have hR1 := hr1.lt
  have hz1 : w.heap.size + 1 ≤ w1.heap.size := by have := hg1.size; simpa using this
  have B1 := Lib.hid (HB.new w1 #[.slice oa ps.length oc, .int .i64 c, .slice ua qs.length uc] 28)
  have X1 := Lib.hid (Dst.more (w := w) (R := R) (w1 := w1) (by omega) (D1.out.2.2.1) #[.slice oa ps.length oc, .int .i64 c, .slice ua qs.length uc] 28)
  have O2 := Lib.hid (O1.out.below (ba (Below.refl _ _) (.cells #[.slice oa ps.length oc, .int .i64 c, .slice ua qs.length uc] 28)))
  have D2 := Lib.hid (D1.out.alloc (.cells #[.slice oa ps.length oc, .int .i64 c, .slice ua qs.length uc] 28))
  have hr2 := hr1.alloc (.cells #[.slice oa ps.length oc, .int .i64 c, .slice ua qs.length uc] 28)
  have Hlow1 := Lib.hid (fun b (hb : BlkK (.slice oa ps.length oc) ps (.slice ua qs.length uc) qs b) => blkK_ge O1.out b hb)
  clear hown1 hokd hfine hg1 d0 O1 D1 hr1
  obtain ⟨X, hX⟩ : ∃ X, X = w1.heap.size := ⟨_, rfl⟩
  have HX := Lib.hid hX
  rw [← hX] at X1 hz1 hR1 Hlow1 B1
  clear hX
  have hXw : X ≠ w.heap.size := by omega
  have hwX : w.heap.size ≠ X := by omega
  go_wp2_with fail
  rw [← HX.out]
  refine (reader_pick R q1 _ _ hr2 (by omega) (by omega)).mono ?_
  rintro e w3 ⟨j, rfl, hj0, hj, hr3, hg3⟩
  have O3 := Lib.hid (O2.out.gb hg3 (by omega))
  have D3 := Lib.hid (D2.out.step hg3)
  have X3 := Lib.hid (X1.out.step hg3)
  have B3 := Lib.hid (B1.out.grown hg3 (fun e => by have := Option.some.inj e; omega))
  have Hlow := Lib.hid (fun b (hb : BlkK (.slice oa ps.length oc) ps (.slice ua qs.length uc) qs b) => show b ≠ X ∧ w.heap.size + 1 ≤ b by have := Hlow1.out b hb; omega)
  have hX3 := X3.out.1.1
  clear O2 D2 X1 Hlow1 hg3 hr2 hj
  have Fin := Lib.hid (show ∀ (w' : World) (q' : Nat) (a2 : Option Addr) (n2 c2 : Nat) (rs : List (Dr × Value)) (cl : Int), OwnDsk w' (w.heap.size + 1) (.slice oa ps.length oc) ps (.slice a2 n2 c2) rs → FineD (ps.map (·.1)) (rs.map (·.1)) → -1 ≤ cl → cl ≤ 201 → Dst w R w.heap.size #[.slice none 0 0, .int .i64 0, .slice none 0 0] w' → Rd w' R q' → q' ≤ q + 603 →
      DrawDsk R q 603 w (.returned (.agg #[.slice oa ps.length oc, .int .i64 cl, .slice a2 n2 c2])) (((w'.setCell ⟨w.heap.size, 0, none⟩ (.slice oa ps.length oc)).setCell ⟨w.heap.size, 1, none⟩ (.int .i64 cl)).setCell ⟨w.heap.size, 2, none⟩ (.slice a2 n2 c2)) from fun w' q' a2 n2 c2 rs cl h1 h2 h3 h4 h5 h6 h7 =>
    ⟨_, ps, _, rs, cl, rfl, h2, h3, h4, (h1.set3 (fun b hb => by have := (blkK_ge h1 b hb).1; omega) _ _ _).mono (by omega), q', h7, h6.set3 hR _ _ _, gb_set (gb_set (gb_set h5.2.2.1 (by dsimp only; omega) _) (by dsimp only; omega) _) (by dsimp only; omega) _⟩)
  by_cases hj0' : j = 0
  · subst hj0'
    have hlt3 := hr3.lt
    go_wp2_with fail
    refine (reader_one R (q1 + 1) w3.heap.size 3 [-1, 201, 0] _ (hr3.alloc _) (heap_new w3 _ _) (by omega) (by decide) (by decide) (by omega)).mono ?_
    rintro e w4 ⟨m, hm, rfl, hr4, hg4⟩
    have hm' := mem_int (-1) 201 (by decide) hm
    have O4 := Lib.hid ((O3.out.below (ba (Below.refl _ _) (.cells ([-1, 201, 0].map ivN).toArray 3))).gb hg4 (by omega))
    have D4 := Lib.hid ((D3.out.alloc (.cells ([-1, 201, 0].map ivN).toArray 3)).step hg4)
    have X4 := Lib.hid ((X3.out.alloc (.cells ([-1, 201, 0].map ivN).toArray 3)).step hg4)
    clear O3 D3 X3 hg4 hm
    have x0 : w4.cell? ⟨X, 0, none⟩ = some (.slice oa ps.length oc) := X4.out.1.2 0
    have x1 : w4.cell? ⟨X, 1, none⟩ = some (.int .i64 c) := X4.out.1.2 1
    have x2 : w4.cell? ⟨X, 2, none⟩ = some (.slice ua qs.length uc) := X4.out.1.2 2
    have xf1 := X4.out.2.1 1
    have z0 : w4.cell? ⟨w.heap.size, 0, none⟩ = some (.slice none 0 0) := D4.out.1.2 0
    have z1 : w4.cell? ⟨w.heap.size, 1, none⟩ = some (.int .i64 0) := D4.out.1.2 1
    have z2 : w4.cell? ⟨w.heap.size, 2, none⟩ = some (.slice none 0 0) := D4.out.1.2 2
    have zf0 := D4.out.2.1 0
    have zf1 := D4.out.2.1 1
    have zf2 := D4.out.2.1 2
    go_wp2_with fail
    refine bodyPost_ret (v := .agg #[.slice oa ps.length oc, .int .i64 m, .slice ua qs.length uc]) (by simp [results, Try.results41, go_sem, x0, x1, x2, xf1, z0, z1, z2, zf0, zf1, zf2, hXw, hwX]) rfl (Fin.out _ (q1 + 1 + 1) _ _ _ qs m ?_ Hfine.out hm'.1 hm'.2 (D4.out.other hXw (by omega) 1 _) (hr4.set (by dsimp only; omega) _) (by omega))
    exact ⟨⟨owns_set_otherD O4.out.1.1 (fun b hb => (Hlow.out b (.inl (.inl hb))).1) _, O4.out.1.2.heap (fun b _ _ ⟨q, hq, hb⟩ => Below.heap_setCell w4 ⟨X, 1, none⟩ _ b ((Hlow.out b (.inl (.inr ⟨q, hq, hb⟩))).1))⟩, ⟨owns_set_otherD O4.out.2.1 (fun b hb => (Hlow.out b (.inr (.inl hb))).1) _, O4.out.2.2.heap (fun b _ _ ⟨q, hq, hb⟩ => Below.heap_setCell w4 ⟨X, 1, none⟩ _ b ((Hlow.out b (.inr (.inr ⟨q, hq, hb⟩))).1))⟩⟩
  · have hj0b : (j == 0) = false := by simpa using hj0'
    clear hj0'
    by_cases hj1 : j = 1
    · subst hj1
      have x0 : w3.cell? ⟨X, 0, none⟩ = some (.slice oa ps.length oc) := X3.out.1.2 0
      have x1 : w3.cell? ⟨X, 1, none⟩ = some (.int .i64 c) := X3.out.1.2 1
      have x2 : w3.cell? ⟨X, 2, none⟩ = some (.slice ua qs.length uc) := X3.out.1.2 2
      clear hj0b
      go_wp2_with fail
      go_region_law (first
        | (go_simp; go_at_call 42; refine (reader_one R (q1 + 1) w3.heap.size 3 [0, 3] _ (hr3.drewD.alloc _) (heap_new w3.drew _ _) (by have := hr3.lt; omega) (by decide) (by decide) (by omega)).mono ?_; rintro e w4 ⟨m, hm, rfl, hr4, hg4⟩; have O4 := Lib.hid ((O3.out.drewD.below (ba (Below.refl _ _) (.cells ([0, 3].map ivN).toArray 3))).gb hg4 (by omega)); have D4 := Lib.hid ((D3.out.drewD.alloc (.cells ([0, 3].map ivN).toArray 3)).step hg4); have X4 := Lib.hid ((X3.out.drewD.alloc (.cells ([0, 3].map ivN).toArray 3)).step hg4); have B4 := Lib.hid ((B3.out.drew.alloc (.cells ([0, 3].map ivN).toArray 3)).grown hg4 (fun e => by have := Option.some.inj e; omega)); have Hr4 := Lib.hid hr4; have hR4 := hr4.lt; have hX4 := X4.out.1.1; have u0 : w4.cell? ⟨X, 0, none⟩ = some (.slice oa ps.length oc) := X4.out.1.2 0; have u1 : w4.cell? ⟨X, 1, none⟩ = some (.int .i64 c) := X4.out.1.2 1; have u2 : w4.cell? ⟨X, 2, none⟩ = some (.slice ua qs.length uc) := X4.out.1.2 2; clear hg4 hr4)
        | (refine step_append_ownD rfl (.tmp 17) (.tmp 22) 26 rfl (w.heap.size + 1) 72 i0 _ 4 56 Try.underlying26 Hi.out Hz0.out Hz1.out Hz2.out rfl (by decide) (.slice ua qs.length uc) qs.length _ (by simp [Act.eval, Act.put]) (O4.out.2.1.alloc _) ⟨w4.heap.size, 0, none⟩ 1 1 (drCells ((⟨m, [], 0, []⟩ : Dr), Value.slice none 0 0)) (by simp [Act.eval, Act.put]) rfl (new_cellsD _ (drCells ((⟨m, [], 0, []⟩ : Dr), Value.slice none 0 0)).toArray _ _ (by first | rfl | simp)) (dir_one _ ⟨_, _, _, rfl⟩) (by unfold maxLen; have := Hql.out; omega) (by have := Hql.out; omega) (by simp; omega) ?_; intro v7 w7 hown7 hg7; obtain ⟨a7, c7, hv7⟩ := owns_shape hown7; subst hv7; have hge7 : ∀ b, (Value.slice ua qs.length uc).ownBlock = some b → w.heap.size + 1 ≤ b ∧ b ≠ X := (fun b hb => ⟨(owns_block O4.out.2.1 hb).1, (Hlow.out b (.inr (.inl hb))).1⟩); have Hd7 := Lib.hid (dirs_snocD (d := ⟨m, [], 0, []⟩) (O4.out.2.below (ba (Below.refl _ _) _)) rfl hg7 hown7); have Hf7 := Lib.hid (fils_besideD (O4.out.1.below (ba (Below.refl _ _) _)) (O4.out.2.1.alloc _) hg7); have D7 := Lib.hid (Dst.keepD (D4.out.alloc _) hg7 (by have := D4.out.1.1; simp; omega) (fun b hb => by have := hge7 b hb; omega) (fun b hb => by have := hge7 b hb; omega)); have X7 := Lib.hid (Dst.keepD (X4.out.alloc _) hg7 (by have := X4.out.1.1; simp; omega) (fun b hb => by have := hge7 b hb; omega) (fun b hb => by have := hge7 b hb; omega)); have B7 := Lib.hid ((B4.out.alloc (.cells (drCells ((⟨m, [], 0, []⟩ : Dr), Value.slice none 0 0)).toArray 72)).grown hg7 (fun e => (hge7 X e).2 rfl)); have Hr7 := Lib.hid ((Hr4.out.alloc (.cells (drCells ((⟨m, [], 0, []⟩ : Dr), Value.slice none 0 0)).toArray 72)).keep (fun j hj => hg7.block j (by simp; omega) (fun e => by have := hge7 j e.symm; omega))); have y0 : w7.cell? ⟨X, 0, none⟩ = some (.slice oa ps.length oc) := X7.out.1.2 0; have y1 : w7.cell? ⟨X, 1, none⟩ = some (.int .i64 c) := X7.out.1.2 1; have y2 : w7.cell? ⟨X, 2, none⟩ = some (.slice ua qs.length uc) := X7.out.1.2 2; have yf2 := X7.out.2.1 2; clear hown7 hg7))
      all_goals
        have hX7 := X7.out.1.1
        have W0 := Lib.hid (D7.out.other hXw (by omega) 2 (.slice a7 (qs.length + 1) c7))
        have OF := Lib.hid (show OwnDsk (w7.setCell ⟨X, 2, none⟩ (.slice a7 (qs.length + 1) c7)) (w.heap.size + 1) (.slice oa ps.length oc) ps (.slice a7 (qs.length + 1) c7) (qs ++ [((⟨m, [], 0, []⟩ : Dr), Value.slice none 0 0)]) from ⟨fils_hb Hf7.out B7.out (by decide) (by decide) 2 _, B7.out.dirs (by decide) (by decide) Hd7.out 2 _⟩)
        have FF := Lib.hid (show FineD (ps.map (·.1)) ((qs ++ [((⟨m, [], 0, []⟩ : Dr), Value.slice none 0 0)]).map (·.1)) from ⟨Hfine.out.1, Hfine.out.2.1, Hfine.out.2.2.1, fun d hd => by
          rw [List.map_append] at hd
          rcases List.mem_append.1 hd with hd | hd
          · exact Hdr.out d hd
          · simp at hd; subst hd; simp, by have := Hql.out; simp; omega⟩)
        have z0 : w7.cell? ⟨w.heap.size, 0, none⟩ = some (.slice none 0 0) := D7.out.1.2 0
        have z1 : w7.cell? ⟨w.heap.size, 1, none⟩ = some (.int .i64 0) := D7.out.1.2 1
        have z2 : w7.cell? ⟨w.heap.size, 2, none⟩ = some (.slice none 0 0) := D7.out.1.2 2
        have zf0 := D7.out.2.1 0
        have zf1 := D7.out.2.1 1
        have zf2 := D7.out.2.1 2
        go_wp2_with fail
        exact bodyPost_ret (v := .agg #[.slice oa ps.length oc, .int .i64 c, .slice a7 (qs.length + 1) c7]) (by simp [results, Try.results41, go_sem, y0, y1, y2, z0, z1, z2, zf0, zf1, zf2, hXw, hwX]) rfl (Fin.out _ (q1 + 1 + 1) _ _ _ _ c OF.out FF.out (by omega) (by omega) W0.out (Hr7.out.set (by dsimp only; omega) _) (by omega))
    · have hj1b : (j == 1) = false := by simpa using hj1
      have x0 : w3.cell? ⟨X, 0, none⟩ = some (.slice oa ps.length oc) := X3.out.1.2 0
      have x1 : w3.cell? ⟨X, 1, none⟩ = some (.int .i64 c) := X3.out.1.2 1
      have x2 : w3.cell? ⟨X, 2, none⟩ = some (.slice ua qs.length uc) := X3.out.1.2 2
      have z0 : w3.cell? ⟨w.heap.size, 0, none⟩ = some (.slice none 0 0) := D3.out.1.2 0
      have z1 : w3.cell? ⟨w.heap.size, 1, none⟩ = some (.int .i64 0) := D3.out.1.2 1
      have z2 : w3.cell? ⟨w.heap.size, 2, none⟩ = some (.slice none 0 0) := D3.out.1.2 2
      have zf0 := D3.out.2.1 0
      have zf1 := D3.out.2.1 1
      have zf2 := D3.out.2.1 2
      clear hj1
      go_wp2_with fail
      exact bodyPost_ret (v := .agg #[.slice oa ps.length oc, .int .i64 c, .slice ua qs.length uc]) (by simp [results, Try.results41, go_sem, x0, x1, x2, z0, z1, z2, zf0, zf1, zf2]) rfl (Fin.out _ (q1 + 1) _ _ _ qs c O3.out Hfine.out (by omega) (by omega) D3.out hr3 (by omega))
end Go.Proofs.Ytgecemngfpgcoaa
