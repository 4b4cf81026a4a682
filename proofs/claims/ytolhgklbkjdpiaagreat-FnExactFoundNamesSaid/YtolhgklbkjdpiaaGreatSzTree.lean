/- Contracts of the exact laws' measures of statements, files and trees. -/
import Derived.Test.YtolhgklbkjdpiaaGreatTreeMem2
set_option linter.unusedVariables false
set_option linter.unusedSimpArgs false
namespace Go.Proofs.YtolhgklbkjdpiaaGreat
open Go.RowKit Go.Proofs.YtolhgklbkjdpiaaGreat.Nm

/-- What a measure comes to: something is left, or nothing. -/
def SzB (cost left : Nat) (w : World) (e : Ending) (w' : World) : Prop :=
  ∃ r : Int, e = .returned (.int .i64 r) ∧ ((0 ≤ r ∧ r + cost ≤ left) ∨ r = -1) ∧ Below w.heap.size w w'
def stmCost (s : Stm) : Nat := s.module.length + s.name.length
def stmsCost (ss : List Stm) : Nat := ss.length + (ss.map stmCost).sum
def filCost (f : Fil) : Nat := f.pack.length + f.name.length + stmsCost f.body
def filsCost (fs : List Fil) : Nat := fs.length + (fs.map filCost).sum
theorem sum_snoc {α : Type} (f : α → Nat) (xs : List α) (i : Nat) (h : i < xs.length) : ((xs.take (i + 1)).map f).sum = ((xs.take i).map f).sum + f xs[i] := by
  rw [List.take_succ_eq_append_getElem h, List.map_append, List.sum_append, List.map_singleton, List.sum_singleton]
theorem mem_sum {α : Type} (f : α → Nat) {xs : List α} {x : α} (h : x ∈ xs) : f x ≤ (xs.map f).sum := by
  induction xs with
  | nil => cases h
  | cons y r ih =>
    rcases List.mem_cons.1 h with rfl | h
    · simp
    · have := ih h; simp; omega
theorem short_of {ss : List Stm} {B : Nat} (h : stmsCost ss ≤ B) : Short B ss := fun s hs => by
  have := mem_sum stmCost hs
  have e : stmCost s = s.module.length + s.name.length := rfl
  unfold stmsCost at h
  exact ⟨by omega, by omega⟩
theorem shortF_of {f : Fil} {B : Nat} (h : filCost f ≤ B) : ShortF B f := by
  unfold filCost at h
  exact ⟨by omega, by omega, short_of (by omega)⟩
theorem shortT_of {fs : List Fil} {B : Nat} (h : filsCost fs ≤ B) : ShortT B fs := fun f hf => by
  have := mem_sum filCost hf
  unfold filsCost at h
  exact shortF_of (by omega)
theorem short_mono {A B : Nat} (h : A ≤ B) {ss : List Stm} (hs : Short A ss) : Short B ss := fun s h' => ⟨Nat.le_trans (hs s h').1 h, Nat.le_trans (hs s h').2 h⟩
theorem shortF_mono {A B : Nat} (h : A ≤ B) {f : Fil} (hs : ShortF A f) : ShortF B f := ⟨Nat.le_trans hs.1 h, Nat.le_trans hs.2.1 h, short_mono h hs.2.2⟩
theorem shortT_mono {A B : Nat} (h : A ≤ B) {fs : List Fil} (hs : ShortT A fs) : ShortT B fs := fun f hf => shortF_mono h (hs f hf)

def filsCost' (fs : List Fil) : Prop := fs.length ≤ 1048576 ∧ ∀ f ∈ fs, f.body.length ≤ 1048576
theorem costs_of {fs : List Fil} (h : filsCost fs ≤ 1048576) : filsCost' fs := by
  unfold filsCost at h
  refine ⟨by omega, fun f hf => ?_⟩
  have := mem_sum filCost hf
  have e : filCost f = f.pack.length + f.name.length + stmsCost f.body := rfl
  have e2 : stmsCost f.body = f.body.length + (f.body.map stmCost).sum := rfl
  omega
set_option maxRecDepth 100000 in
set_option maxHeartbeats 1000000 in
theorem laws_szStmt (k lv x : Int) (m n : Bs) (left : Nat) (w : World) (hm : m.length ≤ maxLen) (hn : n.length ≤ maxLen) (hl : left ≤ 1048576) :
    Calls Tryz.prog 96 #[.agg #[.int .i64 k, .string (mk m), .int .i64 lv, .string (mk n), .int .i64 x], .int .i64 left] w (SzB (m.length + n.length) left w) := by
  unfold maxLen at hm hn
  by_cases h1 : (left : Int) - (m.length : Int) < 0
  · go_enter Tryz.func96, Tryz.ntmps96
    go_wp2_with fail
    go_ret
    exact ⟨-1, rfl, .inr rfl, by (repeat (with_reducible first | exact Below.refl _ _ | assumption | refine ba ?_ _ | refine bd ?_ | refine bdN ?_ _ | refine bs ?_ (by first | exact Nat.le_refl _ | (dsimp only; omega) | (simp; done)) _ | refine bt ?_ (by assumption)))⟩
  · by_cases h2 : (left : Int) - (m.length : Int) - (n.length : Int) < 0
    · go_enter Tryz.func96, Tryz.ntmps96
      go_wp2_with fail
      go_ret
      exact ⟨-1, rfl, .inr rfl, by (repeat (with_reducible first | exact Below.refl _ _ | assumption | refine ba ?_ _ | refine bd ?_ | refine bdN ?_ _ | refine bs ?_ (by first | exact Nat.le_refl _ | (dsimp only; omega) | (simp; done)) _ | refine bt ?_ (by assumption)))⟩
    · go_enter Tryz.func96, Tryz.ntmps96
      go_wp2_with fail
      go_ret
      exact ⟨_, rfl, .inl ⟨by omega, by omega⟩, by (repeat (with_reducible first | exact Below.refl _ _ | assumption | refine ba ?_ _ | refine bd ?_ | refine bdN ?_ _ | refine bs ?_ (by first | exact Nat.le_refl _ | (dsimp only; omega) | (simp; done)) _ | refine bt ?_ (by assumption)))⟩

set_option maxRecDepth 100000 in
set_option maxHeartbeats 1000000 in
theorem laws_szStmtS (v : Value) (ss : List Stm) (D : Nat → Prop) (left : Nat) (w : World) (hr : StmsIn w D v ss) (hz : Short maxLen ss) (hl : left ≤ 1048576) :
    Calls Tryz.prog 77 #[v, .int .i64 left] w (SzB (stmsCost ss) left w) := by
  have Hr := Lib.hid hr
  have Hz := Lib.hid hz
  obtain ⟨aa, ca, rfl, hlc, hm⟩ := hr.len
  unfold maxLen at hm
  clear hr hz
  by_cases h0 : (left : Int) - (ss.length : Int) < 0
  · go_enter Tryz.func77, Tryz.ntmps77
    go_wp2_with fail
    go_ret
    exact ⟨-1, rfl, .inr rfl, by (repeat (with_reducible first | exact Below.refl _ _ | assumption | refine ba ?_ _ | refine bd ?_ | refine bdN ?_ _ | refine bs ?_ (by first | exact Nat.le_refl _ | (dsimp only; omega) | (simp; done)) _ | refine bt ?_ (by assumption)))⟩
  · have hw : (left : Int) - (ss.length : Int) = ((left - ss.length : Nat) : Int) := by omega
    go_enter Tryz.func77, Tryz.ntmps77
    go_wp2_with fail
    go_loopw [1, 5] (fun lv iv wr => ∃ (i L : Nat), i ≤ ss.length ∧ iv = .int .i64 i ∧ lv = .int .i64 L ∧ L + (ss.length + ((ss.take i).map stmCost).sum) ≤ left ∧ Below w.heap.size w wr) (fun _ iv _ => ss.length - (intOf iv).toNat)
    case atStart => exact ⟨0, left - ss.length, by omega, rfl, by first | rfl | go_num | simp [hw], by simp; omega, Below.refl _ _⟩
    case round =>
      obtain ⟨i, L, hi, rfl, rfl, hL, hbel⟩ := hrel
      have HL := Lib.hid hL
      have hLl : L ≤ 1048576 := by omega
      clear hL h0 hw
      by_cases hlt : i < ss.length
      · obtain ⟨b, off, cap, e, hD, hb, c0, c1, c2, c3, c4⟩ := (Hr.out.below hbel).at_ hlt
        simp only [Value.slice.injEq] at e
        obtain ⟨rfl, _, rfl⟩ := e
        obtain ⟨z1, z2⟩ := Hz.out _ (List.getElem_mem hlt)
        have Hs := Lib.hid (sum_snoc stmCost ss i hlt)
        have Hs2 := Lib.hid (show stmCost ss[i] = ss[i].module.length + ss[i].name.length from rfl)
        generalize ss[i] = s at *
        obtain ⟨sk, sm, sl, sn, sv⟩ := s
        dsimp only at c0 c1 c2 c3 c4 z1 z2 Hs2
        go_wp2_with (go_at_call 96; refine (laws_szStmt _ _ _ _ _ L _ z1 z2 hLl).mono ?_; rintro _ _ ⟨r, rfl, hr, hb2⟩; obtain ⟨hc, hf, hs⟩ := bcell hb2)
        · have h : r < 0 := by assumption
          go_ret
          exact ⟨-1, rfl, .inr rfl, by (repeat (with_reducible first | exact Below.refl _ _ | assumption | refine ba ?_ _ | refine bd ?_ | refine bdN ?_ _ | refine bs ?_ (by first | exact Nat.le_refl _ | (dsimp only; omega) | (simp; done)) _ | refine bt ?_ (by assumption)))⟩
        · rcases hr with ⟨hr0, hr1⟩ | hr1
          · obtain ⟨R, rfl⟩ := Int.eq_ofNat_of_zero_le hr0
            go_roundw
            case rel => exact ⟨i + 1, R, by omega, by go_num, rfl, by have h1 := HL.out; have h2 := Hs.out; have h3 := Hs2.out; omega, by (repeat (with_reducible first | exact Below.refl _ _ | assumption | refine ba ?_ _ | refine bd ?_ | refine bdN ?_ _ | refine bs ?_ (by first | exact Nat.le_refl _ | (dsimp only; omega) | (simp; done)) _ | refine bt ?_ (by assumption)))⟩
            case measure => simp [intOf]; omega
          · exact absurd hr1 (by omega)
      · obtain rfl : i = ss.length := by omega
        have Hf := Lib.hid (show L + stmsCost ss ≤ left by have := HL.out; rw [List.take_length] at this; exact this)
        go_wp2_with fail
        go_ret
        exact ⟨L, rfl, .inl ⟨by omega, by have := Hf.out; omega⟩, hbel⟩

set_option maxRecDepth 100000 in
set_option maxHeartbeats 1000000 in
theorem laws_szFile (r st : Int) (p n : Bs) (i : Bool) (bv : Value) (body : List Stm) (D : Nat → Prop) (left : Nat) (w : World) (hp : p.length ≤ maxLen) (hn : n.length ≤ maxLen) (hr : StmsIn w D bv body) (hz : Short maxLen body) (hl : left ≤ 1048576) :
    Calls Tryz.prog 47 #[.agg #[.int .i64 r, .string (mk p), .string (mk n), .bool i, .int .i64 st, bv], .int .i64 left] w (SzB (filCost ⟨r, p, n, i, st, body⟩) left w) := by
  unfold maxLen at hp hn
  have Hr := Lib.hid hr
  have Hz := Lib.hid hz
  obtain ⟨aa, ca, rfl, hlc, hm⟩ := hr.len
  have Hc := Lib.hid (show filCost ⟨r, p, n, i, st, body⟩ = p.length + n.length + stmsCost body from rfl)
  clear hr hz hm
  by_cases h1 : (left : Int) - (p.length : Int) < 0
  · go_enter Tryz.func47, Tryz.ntmps47
    go_wp2_with fail
    go_ret
    exact ⟨-1, rfl, .inr rfl, by (repeat (with_reducible first | exact Below.refl _ _ | assumption | refine ba ?_ _ | refine bd ?_ | refine bdN ?_ _ | refine bs ?_ (by first | exact Nat.le_refl _ | (dsimp only; omega) | (simp; done)) _ | refine bt ?_ (by assumption)))⟩
  · by_cases h2 : (left : Int) - (p.length : Int) - (n.length : Int) < 0
    · go_enter Tryz.func47, Tryz.ntmps47
      go_wp2_with fail
      go_ret
      exact ⟨-1, rfl, .inr rfl, by (repeat (with_reducible first | exact Below.refl _ _ | assumption | refine ba ?_ _ | refine bd ?_ | refine bdN ?_ _ | refine bs ?_ (by first | exact Nat.le_refl _ | (dsimp only; omega) | (simp; done)) _ | refine bt ?_ (by assumption)))⟩
    · obtain ⟨L, hL⟩ : ∃ L : Nat, (left : Int) - (p.length : Int) - (n.length : Int) = (L : Int) := ⟨left - p.length - n.length, by omega⟩
      have hLl : L ≤ 1048576 := by omega
      have HL := Lib.hid hL
      go_enter Tryz.func47, Tryz.ntmps47
      go_wp2_with (go_at_call 77; refine (laws_szStmtS _ body D L _ (Hr.out.below (by (repeat (with_reducible first | exact Below.refl _ _ | assumption | refine ba ?_ _ | refine bd ?_ | refine bdN ?_ _ | refine bs ?_ (by first | exact Nat.le_refl _ | (dsimp only; omega) | (simp; done)) _ | refine bt ?_ (by assumption))))) Hz.out hLl).mono ?_; rintro _ _ ⟨r, rfl, hr, hb2⟩; obtain ⟨hc, hf, hs⟩ := bcell hb2)
      · go_ret
        exact ⟨-1, rfl, .inr rfl, by (repeat (with_reducible first | exact Below.refl _ _ | assumption | refine ba ?_ _ | refine bd ?_ | refine bdN ?_ _ | refine bs ?_ (by first | exact Nat.le_refl _ | (dsimp only; omega) | (simp; done)) _ | refine bt ?_ (by assumption)))⟩
      · go_ret
        refine ⟨_, rfl, ?_, by (repeat (with_reducible first | exact Below.refl _ _ | assumption | refine ba ?_ _ | refine bd ?_ | refine bdN ?_ _ | refine bs ?_ (by first | exact Nat.le_refl _ | (dsimp only; omega) | (simp; done)) _ | refine bt ?_ (by assumption)))⟩
        rw [Hc.out]
        rcases hr with ⟨hr0, hr1⟩ | hr1
        · exact .inl ⟨by omega, by omega⟩
        · exact .inr hr1

set_option maxRecDepth 100000 in
set_option maxHeartbeats 1000000 in
theorem laws_szFileS (v : Value) (fs : List Fil) (D : Nat → Prop) (left : Nat) (w : World) (hr : FilsIn w D v fs) (hz : ShortT maxLen fs) (hl : left ≤ 1048576) :
    Calls Tryz.prog 22 #[v, .int .i64 left] w (SzB (filsCost fs) left w) := by
  have Hr := Lib.hid hr
  have Hz := Lib.hid hz
  obtain ⟨aa, ca, rfl, hlc, hm⟩ := hr.len
  unfold maxLen at hm
  clear hr hz
  by_cases h0 : (left : Int) - (fs.length : Int) < 0
  · go_enter Tryz.func22, Tryz.ntmps22
    go_wp2_with fail
    go_ret
    exact ⟨-1, rfl, .inr rfl, by (repeat (with_reducible first | exact Below.refl _ _ | assumption | refine ba ?_ _ | refine bd ?_ | refine bdN ?_ _ | refine bs ?_ (by first | exact Nat.le_refl _ | (dsimp only; omega) | (simp; done)) _ | refine bt ?_ (by assumption)))⟩
  · have hw : (left : Int) - (fs.length : Int) = ((left - fs.length : Nat) : Int) := by omega
    go_enter Tryz.func22, Tryz.ntmps22
    go_wp2_with fail
    go_loopw [1, 5] (fun lv iv wr => ∃ (i L : Nat), i ≤ fs.length ∧ iv = .int .i64 i ∧ lv = .int .i64 L ∧ L + (fs.length + ((fs.take i).map filCost).sum) ≤ left ∧ Below w.heap.size w wr) (fun _ iv _ => fs.length - (intOf iv).toNat)
    case atStart => exact ⟨0, left - fs.length, by omega, rfl, by first | rfl | go_num | simp [hw], by simp; omega, Below.refl _ _⟩
    case round =>
      obtain ⟨i, L, hi, rfl, rfl, hL, hbel⟩ := hrel
      have HL := Lib.hid hL
      have hLl : L ≤ 1048576 := by omega
      clear hL h0 hw
      by_cases hlt : i < fs.length
      · obtain ⟨b, off, cap, bv, e, hD, hb, hbody, c0, c1, c2, c3, c4, c5⟩ := (Hr.out.below hbel).at_ hlt
        simp only [Value.slice.injEq] at e
        obtain ⟨rfl, _, rfl⟩ := e
        obtain ⟨ba', bc', rfl, hbl, hbm⟩ := hbody.len
        obtain ⟨z1, z2, z3⟩ := Hz.out _ (List.getElem_mem hlt)
        have Hz3 := Lib.hid z3
        have Hbody := Lib.hid hbody
        have Hs := Lib.hid (sum_snoc filCost fs i hlt)
        obtain ⟨f, hf⟩ : ∃ f, f = fs[i] := ⟨_, rfl⟩
        rw [← hf] at c0 c1 c2 c3 c4 c5 z1 z2 Hz3 Hs Hbody
        clear hf hbody hbm hbl z3
        obtain ⟨fr, fp, fn, fi, fst, fb⟩ := f
        dsimp only at c0 c1 c2 c3 c4 c5 z1 z2
        go_wp2_with (go_at_call 47; refine (laws_szFile _ _ _ _ _ _ fb D L _ z1 z2 (Hbody.out.below (by (repeat (with_reducible first | exact Below.refl _ _ | assumption | refine ba ?_ _ | refine bd ?_ | refine bdN ?_ _ | refine bs ?_ (by first | exact Nat.le_refl _ | (dsimp only; omega) | (simp; done)) _ | refine bt ?_ (by assumption))))) Hz3.out hLl).mono ?_; rintro _ _ ⟨r, rfl, hr, hb2⟩; obtain ⟨hc, hf, hs⟩ := bcell hb2)
        · have h : r < 0 := by assumption
          go_ret
          exact ⟨-1, rfl, .inr rfl, by (repeat (with_reducible first | exact Below.refl _ _ | assumption | refine ba ?_ _ | refine bd ?_ | refine bdN ?_ _ | refine bs ?_ (by first | exact Nat.le_refl _ | (dsimp only; omega) | (simp; done)) _ | refine bt ?_ (by assumption)))⟩
        · rcases hr with ⟨hr0, hr1⟩ | hr1
          · obtain ⟨R, rfl⟩ := Int.eq_ofNat_of_zero_le hr0
            go_roundw
            case rel => exact ⟨i + 1, R, by omega, by go_num, rfl, by have h1 := HL.out; have h2 := Hs.out; omega, by (repeat (with_reducible first | exact Below.refl _ _ | assumption | refine ba ?_ _ | refine bd ?_ | refine bdN ?_ _ | refine bs ?_ (by first | exact Nat.le_refl _ | (dsimp only; omega) | (simp; done)) _ | refine bt ?_ (by assumption)))⟩
            case measure => simp [intOf]; omega
          · exact absurd hr1 (by omega)
      · obtain rfl : i = fs.length := by omega
        have Hf := Lib.hid (show L + filsCost fs ≤ left by have := HL.out; rw [List.take_length] at this; exact this)
        go_wp2_with fail
        go_ret
        exact ⟨L, rfl, .inl ⟨by omega, by have := Hf.out; omega⟩, hbel⟩

set_option maxRecDepth 100000 in
set_option maxHeartbeats 1000000 in
theorem laws_szTree (v : Value) (fs : List Fil) (D : Nat → Prop) (left : Nat) (w : World) (hr : FilsIn w D v fs) (hz : ShortT maxLen fs) (hl : left ≤ 1048576) :
    Calls Tryz.prog 6 #[.agg #[v], .int .i64 left] w (SzB (filsCost fs) left w) := by
  have Hr := Lib.hid hr
  have Hz := Lib.hid hz
  obtain ⟨aa, ca, rfl, hlc, hm⟩ := hr.len
  clear hr hz hm
  go_enter Tryz.func6, Tryz.ntmps6
  go_wp2_with (go_at_call 22; refine (laws_szFileS _ fs D left _ (Hr.out.below (by (repeat (with_reducible first | exact Below.refl _ _ | assumption | refine ba ?_ _ | refine bd ?_ | refine bdN ?_ _ | refine bs ?_ (by first | exact Nat.le_refl _ | (dsimp only; omega) | (simp; done)) _ | refine bt ?_ (by assumption))))) Hz.out hl).mono ?_; rintro _ _ ⟨r, rfl, hr, hb2⟩; obtain ⟨hc, hf, hs⟩ := bcell hb2)
  · go_ret
    exact ⟨-1, rfl, .inr rfl, by (repeat (with_reducible first | exact Below.refl _ _ | assumption | refine ba ?_ _ | refine bd ?_ | refine bdN ?_ _ | refine bs ?_ (by first | exact Nat.le_refl _ | (dsimp only; omega) | (simp; done)) _ | refine bt ?_ (by assumption)))⟩
  · go_ret
    exact ⟨_, rfl, hr, by (repeat (with_reducible first | exact Below.refl _ _ | assumption | refine ba ?_ _ | refine bd ?_ | refine bdN ?_ _ | refine bs ?_ (by first | exact Nat.le_refl _ | (dsimp only; omega) | (simp; done)) _ | refine bt ?_ (by assumption)))⟩
end Go.Proofs.YtolhgklbkjdpiaaGreat
