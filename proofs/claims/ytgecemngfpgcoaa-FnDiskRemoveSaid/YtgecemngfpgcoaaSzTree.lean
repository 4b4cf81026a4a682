/- Contracts of the exact laws' measures of statements, files and trees. -/
import Derived.Test.YtgecemngfpgcoaaStmT
import Derived.Test.YtgecemngfpgcoaaTreeMem
import Derived.StillTailTactics
import Derived.Laws.StructEq
set_option linter.unusedVariables false
set_option linter.unusedSimpArgs false
namespace Go.Proofs.Ytgecemngfpgcoaa
open Go.RowKit Go.Proofs.Ytgecemngfpgcoaa.Nm

/-- What a measure comes to: something is left, or nothing. -/
def SzB (cost left : Nat) (w : World) (e : Ending) (w' : World) : Prop :=
  ∃ r : Int, e = .returned (.int .i64 r) ∧ ((0 ≤ r ∧ r + cost ≤ left) ∨ r = -1) ∧ Below w.heap.size w w'
def stmCost (s : Stm) : Nat := s.module.length + s.name.length
def stmsCost (ss : List Stm) : Nat := ss.length + (ss.map stmCost).sum
def filCost (f : Fil) : Nat := f.pack.length + f.name.length + stmsCost f.body
def filsCost (fs : List Fil) : Nat := fs.length + (fs.map filCost).sum
theorem sum_snoc {α : Type} (f : α → Nat) (xs : List α) (i : Nat) (h : i < xs.length) : ((xs.take (i + 1)).map f).sum = ((xs.take i).map f).sum + f xs[i] := by
  rw [List.take_succ_eq_append_getElem h, List.map_append, List.sum_append, List.map_singleton, List.sum_singleton]
theorem mem_sum {α : Type} (f : α → Nat) {xs : List α} {x : α} (h : x ∈ xs) : f x ≤ (xs.map f).sum := by
  induction xs with
  | nil => cases h
  | cons y r ih =>
    rcases List.mem_cons.1 h with rfl | h
    · simp
    · have := ih h; simp; omega
theorem short_of {ss : List Stm} {B : Nat} (h : stmsCost ss ≤ B) : Short B ss := fun s hs => by
  have := mem_sum stmCost hs
  have e : stmCost s = s.module.length + s.name.length := rfl
  unfold stmsCost at h
  exact ⟨by omega, by omega⟩
theorem shortF_of {f : Fil} {B : Nat} (h : filCost f ≤ B) : ShortF B f := by
  unfold filCost at h
  exact ⟨by omega, by omega, short_of (by omega)⟩
theorem shortT_of {fs : List Fil} {B : Nat} (h : filsCost fs ≤ B) : ShortT B fs := fun f hf => by
  have := mem_sum filCost hf
  unfold filsCost at h
  exact shortF_of (by omega)
theorem shortF_mono {A B : Nat} (h : A ≤ B) {f : Fil} (hs : ShortF A f) : ShortF B f := ⟨Nat.le_trans hs.1 h, Nat.le_trans hs.2.1 h, short_mono h hs.2.2⟩
theorem shortT_mono {A B : Nat} (h : A ≤ B) {fs : List Fil} (hs : ShortT A fs) : ShortT B fs := fun f hf => shortF_mono h (hs f hf)

def filsCost' (fs : List Fil) : Prop := fs.length ≤ 1048576 ∧ ∀ f ∈ fs, f.body.length ≤ 1048576
theorem costs_of {fs : List Fil} (h : filsCost fs ≤ 1048576) : filsCost' fs := by
  unfold filsCost at h
  refine ⟨by omega, fun f hf => ?_⟩
  have := mem_sum filCost hf
  have e : filCost f = f.pack.length + f.name.length + stmsCost f.body := rfl
  have e2 : stmsCost f.body = f.body.length + (f.body.map stmCost).sum := rfl
  omega
set_option maxRecDepth 100000 in
set_option maxHeartbeats 1000000 in
theorem laws_szStmt (k lv x : Int) (m n : Bs) (left : Nat) (w : World) (hm : m.length ≤ maxLen) (hn : n.length ≤ maxLen) (hl : left ≤ 1048576) :
    Calls Try.prog 99 #[.agg #[.int .i64 k, .string (mk m), .int .i64 lv, .string (mk n), .int .i64 x], .int .i64 left] w (SzB (m.length + n.length) left w) := by
  unfold maxLen at hm hn
  by_cases h1 : (left : Int) - (m.length : Int) < 0
  · go_enter Try.func99, Try.ntmps99
    go_wp2_with fail
    go_ret
    exact ⟨-1, rfl, .inr rfl, by (repeat (with_reducible first | exact Below.refl _ _ | assumption | refine ba ?_ _ | refine bd ?_ | refine bdN ?_ _ | refine bs ?_ (by first | exact Nat.le_refl _ | (dsimp only; omega) | (simp; done)) _ | refine bt ?_ (by assumption)))⟩
  · by_cases h2 : (left : Int) - (m.length : Int) - (n.length : Int) < 0
    · go_enter Try.func99, Try.ntmps99
      go_wp2_with fail
      go_ret
      exact ⟨-1, rfl, .inr rfl, by (repeat (with_reducible first | exact Below.refl _ _ | assumption | refine ba ?_ _ | refine bd ?_ | refine bdN ?_ _ | refine bs ?_ (by first | exact Nat.le_refl _ | (dsimp only; omega) | (simp; done)) _ | refine bt ?_ (by assumption)))⟩
    · go_enter Try.func99, Try.ntmps99
      go_wp2_with fail
      go_ret
      exact ⟨_, rfl, .inl ⟨by omega, by omega⟩, by (repeat (with_reducible first | exact Below.refl _ _ | assumption | refine ba ?_ _ | refine bd ?_ | refine bdN ?_ _ | refine bs ?_ (by first | exact Nat.le_refl _ | (dsimp only; omega) | (simp; done)) _ | refine bt ?_ (by assumption)))⟩

set_option maxRecDepth 100000 in
set_option maxHeartbeats 1000000 in
theorem laws_szStmtS (v : Value) (ss : List Stm) (D : Nat → Prop) (left : Nat) (w : World) (hr : StmsIn w D v ss) (hz : Short maxLen ss) (hl : left ≤ 1048576) :
    Calls Try.prog 62 #[v, .int .i64 left] w (SzB (stmsCost ss) left w) := by
  have Hr := Lib.hid hr
  have Hz := Lib.hid hz
  obtain ⟨aa, ca, rfl, hlc, hm⟩ := hr.len
  unfold maxLen at hm
  clear hr hz
  by_cases h0 : (left : Int) - (ss.length : Int) < 0
  · go_enter Try.func62, Try.ntmps62
    go_wp2_with fail
    go_ret
    exact ⟨-1, rfl, .inr rfl, by (repeat (with_reducible first | exact Below.refl _ _ | assumption | refine ba ?_ _ | refine bd ?_ | refine bdN ?_ _ | refine bs ?_ (by first | exact Nat.le_refl _ | (dsimp only; omega) | (simp; done)) _ | refine bt ?_ (by assumption)))⟩
  · have hw : (left : Int) - (ss.length : Int) = ((left - ss.length : Nat) : Int) := by omega
    go_enter Try.func62, Try.ntmps62
    go_wp2_with fail
    go_loopw [1, 5] (fun lv iv wr => ∃ (i L : Nat), i ≤ ss.length ∧ iv = .int .i64 i ∧ lv = .int .i64 L ∧ L + (ss.length + ((ss.take i).map stmCost).sum) ≤ left ∧ Below w.heap.size w wr) (fun _ iv _ => ss.length - (intOf iv).toNat)
    case atStart => exact ⟨0, left - ss.length, by omega, rfl, by first | rfl | go_num | simp [hw], by simp; omega, Below.refl _ _⟩
    case round =>
      obtain ⟨i, L, hi, rfl, rfl, hL, hbel⟩ := hrel
      have HL := Lib.hid hL
      have hLl : L ≤ 1048576 := by omega
      clear hL h0 hw
      by_cases hlt : i < ss.length
      · obtain ⟨b, off, cap, e, hD, hb, c0, c1, c2, c3, c4⟩ := (Hr.out.below hbel).at_ hlt
        simp only [Value.slice.injEq] at e
        obtain ⟨rfl, _, rfl⟩ := e
        obtain ⟨z1, z2⟩ := Hz.out _ (List.getElem_mem hlt)
        have Hs := Lib.hid (sum_snoc stmCost ss i hlt)
        have Hs2 := Lib.hid (show stmCost ss[i] = ss[i].module.length + ss[i].name.length from rfl)
        generalize ss[i] = s at *
        obtain ⟨sk, sm, sl, sn, sv⟩ := s
        dsimp only at c0 c1 c2 c3 c4 z1 z2 Hs2
        go_wp2_with (go_at_call 99; refine (laws_szStmt _ _ _ _ _ L _ z1 z2 hLl).mono ?_; rintro _ _ ⟨r, rfl, hr, hb2⟩; obtain ⟨hc, hf, hs⟩ := bcell hb2)
        · have h : r < 0 := by assumption
          go_ret
          exact ⟨-1, rfl, .inr rfl, by (repeat (with_reducible first | exact Below.refl _ _ | assumption | refine ba ?_ _ | refine bd ?_ | refine bdN ?_ _ | refine bs ?_ (by first | exact Nat.le_refl _ | (dsimp only; omega) | (simp; done)) _ | refine bt ?_ (by assumption)))⟩
        · rcases hr with ⟨hr0, hr1⟩ | hr1
          · obtain ⟨R, rfl⟩ := Int.eq_ofNat_of_zero_le hr0
            go_roundw
            case rel => exact ⟨i + 1, R, by omega, by go_num, rfl, by have h1 := HL.out; have h2 := Hs.out; have h3 := Hs2.out; omega, by (repeat (with_reducible first | exact Below.refl _ _ | assumption | refine ba ?_ _ | refine bd ?_ | refine bdN ?_ _ | refine bs ?_ (by first | exact Nat.le_refl _ | (dsimp only; omega) | (simp; done)) _ | refine bt ?_ (by assumption)))⟩
            case measure => simp [intOf]; omega
          · exact absurd hr1 (by omega)
      · obtain rfl : i = ss.length := by omega
        have Hf := Lib.hid (show L + stmsCost ss ≤ left by have := HL.out; rw [List.take_length] at this; exact this)
        go_wp2_with fail
        go_ret
        exact ⟨L, rfl, .inl ⟨by omega, by have := Hf.out; omega⟩, hbel⟩

set_option maxRecDepth 100000 in
set_option maxHeartbeats 1000000 in
theorem laws_szFile (r st : Int) (p n : Bs) (i : Bool) (bv : Value) (body : List Stm) (D : Nat → Prop) (left : Nat) (w : World) (hp : p.length ≤ maxLen) (hn : n.length ≤ maxLen) (hr : StmsIn w D bv body) (hz : Short maxLen body) (hl : left ≤ 1048576) :
    Calls Try.prog 19 #[.agg #[.int .i64 r, .string (mk p), .string (mk n), .bool i, .int .i64 st, bv], .int .i64 left] w (SzB (filCost ⟨r, p, n, i, st, body⟩) left w) := by
  unfold maxLen at hp hn
  have Hr := Lib.hid hr
  have Hz := Lib.hid hz
  obtain ⟨aa, ca, rfl, hlc, hm⟩ := hr.len
  have Hc := Lib.hid (show filCost ⟨r, p, n, i, st, body⟩ = p.length + n.length + stmsCost body from rfl)
  clear hr hz hm
  by_cases h1 : (left : Int) - (p.length : Int) < 0
  · go_enter Try.func19, Try.ntmps19
    go_wp2_with fail
    go_ret
    exact ⟨-1, rfl, .inr rfl, by (repeat (with_reducible first | exact Below.refl _ _ | assumption | refine ba ?_ _ | refine bd ?_ | refine bdN ?_ _ | refine bs ?_ (by first | exact Nat.le_refl _ | (dsimp only; omega) | (simp; done)) _ | refine bt ?_ (by assumption)))⟩
  · by_cases h2 : (left : Int) - (p.length : Int) - (n.length : Int) < 0
    · go_enter Try.func19, Try.ntmps19
      go_wp2_with fail
      go_ret
      exact ⟨-1, rfl, .inr rfl, by (repeat (with_reducible first | exact Below.refl _ _ | assumption | refine ba ?_ _ | refine bd ?_ | refine bdN ?_ _ | refine bs ?_ (by first | exact Nat.le_refl _ | (dsimp only; omega) | (simp; done)) _ | refine bt ?_ (by assumption)))⟩
    · obtain ⟨L, hL⟩ : ∃ L : Nat, (left : Int) - (p.length : Int) - (n.length : Int) = (L : Int) := ⟨left - p.length - n.length, by omega⟩
      have hLl : L ≤ 1048576 := by omega
      have HL := Lib.hid hL
      go_enter Try.func19, Try.ntmps19
      go_wp2_with (go_at_call 62; refine (laws_szStmtS _ body D L _ (Hr.out.below (by (repeat (with_reducible first | exact Below.refl _ _ | assumption | refine ba ?_ _ | refine bd ?_ | refine bdN ?_ _ | refine bs ?_ (by first | exact Nat.le_refl _ | (dsimp only; omega) | (simp; done)) _ | refine bt ?_ (by assumption))))) Hz.out hLl).mono ?_; rintro _ _ ⟨r, rfl, hr, hb2⟩; obtain ⟨hc, hf, hs⟩ := bcell hb2)
      · go_ret
        exact ⟨-1, rfl, .inr rfl, by (repeat (with_reducible first | exact Below.refl _ _ | assumption | refine ba ?_ _ | refine bd ?_ | refine bdN ?_ _ | refine bs ?_ (by first | exact Nat.le_refl _ | (dsimp only; omega) | (simp; done)) _ | refine bt ?_ (by assumption)))⟩
      · go_ret
        refine ⟨_, rfl, ?_, by (repeat (with_reducible first | exact Below.refl _ _ | assumption | refine ba ?_ _ | refine bd ?_ | refine bdN ?_ _ | refine bs ?_ (by first | exact Nat.le_refl _ | (dsimp only; omega) | (simp; done)) _ | refine bt ?_ (by assumption)))⟩
        rw [Hc.out]
        rcases hr with ⟨hr0, hr1⟩ | hr1
        · exact .inl ⟨by omega, by omega⟩
        · exact .inr hr1

set_option maxRecDepth 100000 in
set_option maxHeartbeats 1000000 in
theorem laws_szFileS (v : Value) (fs : List Fil) (D : Nat → Prop) (left : Nat) (w : World) (hr : FilsIn w D v fs) (hz : ShortT maxLen fs) (hl : left ≤ 1048576) :
    Calls Try.prog 97 #[v, .int .i64 left] w (SzB (filsCost fs) left w) := by
  have Hr := Lib.hid hr
  have Hz := Lib.hid hz
  obtain ⟨aa, ca, rfl, hlc, hm⟩ := hr.len
  unfold maxLen at hm
  clear hr hz
  by_cases h0 : (left : Int) - (fs.length : Int) < 0
  · go_enter Try.func97, Try.ntmps97
    go_wp2_with fail
    go_ret
    exact ⟨-1, rfl, .inr rfl, by (repeat (with_reducible first | exact Below.refl _ _ | assumption | refine ba ?_ _ | refine bd ?_ | refine bdN ?_ _ | refine bs ?_ (by first | exact Nat.le_refl _ | (dsimp only; omega) | (simp; done)) _ | refine bt ?_ (by assumption)))⟩
  · have hw : (left : Int) - (fs.length : Int) = ((left - fs.length : Nat) : Int) := by omega
    go_enter Try.func97, Try.ntmps97
    go_wp2_with fail
    go_loopw [1, 5] (fun lv iv wr => ∃ (i L : Nat), i ≤ fs.length ∧ iv = .int .i64 i ∧ lv = .int .i64 L ∧ L + (fs.length + ((fs.take i).map filCost).sum) ≤ left ∧ Below w.heap.size w wr) (fun _ iv _ => fs.length - (intOf iv).toNat)
    case atStart => exact ⟨0, left - fs.length, by omega, rfl, by first | rfl | go_num | simp [hw], by simp; omega, Below.refl _ _⟩
    case round =>
      obtain ⟨i, L, hi, rfl, rfl, hL, hbel⟩ := hrel
      have HL := Lib.hid hL
      have hLl : L ≤ 1048576 := by omega
      clear hL h0 hw
      by_cases hlt : i < fs.length
      · obtain ⟨b, off, cap, bv, e, hD, hb, hbody, c0, c1, c2, c3, c4, c5⟩ := (Hr.out.below hbel).at_ hlt
        simp only [Value.slice.injEq] at e
        obtain ⟨rfl, _, rfl⟩ := e
        obtain ⟨ba', bc', rfl, hbl, hbm⟩ := hbody.len
        obtain ⟨z1, z2, z3⟩ := Hz.out _ (List.getElem_mem hlt)
        have Hz3 := Lib.hid z3
        have Hbody := Lib.hid hbody
        have Hs := Lib.hid (sum_snoc filCost fs i hlt)
        obtain ⟨f, hf⟩ : ∃ f, f = fs[i] := ⟨_, rfl⟩
        rw [← hf] at c0 c1 c2 c3 c4 c5 z1 z2 Hz3 Hs Hbody
        clear hf hbody hbm hbl z3
        obtain ⟨fr, fp, fn, fi, fst, fb⟩ := f
        dsimp only at c0 c1 c2 c3 c4 c5 z1 z2
        go_wp2_with (go_at_call 19; refine (laws_szFile _ _ _ _ _ _ fb D L _ z1 z2 (Hbody.out.below (by (repeat (with_reducible first | exact Below.refl _ _ | assumption | refine ba ?_ _ | refine bd ?_ | refine bdN ?_ _ | refine bs ?_ (by first | exact Nat.le_refl _ | (dsimp only; omega) | (simp; done)) _ | refine bt ?_ (by assumption))))) Hz3.out hLl).mono ?_; rintro _ _ ⟨r, rfl, hr, hb2⟩; obtain ⟨hc, hf, hs⟩ := bcell hb2)
        · have h : r < 0 := by assumption
          go_ret
          exact ⟨-1, rfl, .inr rfl, by (repeat (with_reducible first | exact Below.refl _ _ | assumption | refine ba ?_ _ | refine bd ?_ | refine bdN ?_ _ | refine bs ?_ (by first | exact Nat.le_refl _ | (dsimp only; omega) | (simp; done)) _ | refine bt ?_ (by assumption)))⟩
        · rcases hr with ⟨hr0, hr1⟩ | hr1
          · obtain ⟨R, rfl⟩ := Int.eq_ofNat_of_zero_le hr0
            go_roundw
            case rel => exact ⟨i + 1, R, by omega, by go_num, rfl, by have h1 := HL.out; have h2 := Hs.out; omega, by (repeat (with_reducible first | exact Below.refl _ _ | assumption | refine ba ?_ _ | refine bd ?_ | refine bdN ?_ _ | refine bs ?_ (by first | exact Nat.le_refl _ | (dsimp only; omega) | (simp; done)) _ | refine bt ?_ (by assumption)))⟩
            case measure => simp [intOf]; omega
          · exact absurd hr1 (by omega)
      · obtain rfl : i = fs.length := by omega
        have Hf := Lib.hid (show L + filsCost fs ≤ left by have := HL.out; rw [List.take_length] at this; exact this)
        go_wp2_with fail
        go_ret
        exact ⟨L, rfl, .inl ⟨by omega, by have := Hf.out; omega⟩, hbel⟩

set_option maxRecDepth 100000 in
set_option maxHeartbeats 1000000 in
theorem laws_szTree (v : Value) (fs : List Fil) (D : Nat → Prop) (left : Nat) (w : World) (hr : FilsIn w D v fs) (hz : ShortT maxLen fs) (hl : left ≤ 1048576) :
    Calls Try.prog 60 #[.agg #[v], .int .i64 left] w (SzB (filsCost fs) left w) := by
  have Hr := Lib.hid hr
  have Hz := Lib.hid hz
  obtain ⟨aa, ca, rfl, hlc, hm⟩ := hr.len
  clear hr hz hm
  go_enter Try.func60, Try.ntmps60
  go_wp2_with (go_at_call 97; refine (laws_szFileS _ fs D left _ (Hr.out.below (by (repeat (with_reducible first | exact Below.refl _ _ | assumption | refine ba ?_ _ | refine bd ?_ | refine bdN ?_ _ | refine bs ?_ (by first | exact Nat.le_refl _ | (dsimp only; omega) | (simp; done)) _ | refine bt ?_ (by assumption))))) Hz.out hl).mono ?_; rintro _ _ ⟨r, rfl, hr, hb2⟩; obtain ⟨hc, hf, hs⟩ := bcell hb2)
  · go_ret
    exact ⟨-1, rfl, .inr rfl, by (repeat (with_reducible first | exact Below.refl _ _ | assumption | refine ba ?_ _ | refine bd ?_ | refine bdN ?_ _ | refine bs ?_ (by first | exact Nat.le_refl _ | (dsimp only; omega) | (simp; done)) _ | refine bt ?_ (by assumption)))⟩
  · go_ret
    exact ⟨_, rfl, hr, by (repeat (with_reducible first | exact Below.refl _ _ | assumption | refine ba ?_ _ | refine bd ?_ | refine bdN ?_ _ | refine bs ?_ (by first | exact Nat.le_refl _ | (dsimp only; omega) | (simp; done)) _ | refine bt ?_ (by assumption)))⟩

/-! ### Contracts of the exact laws' copies of arguments: statements, files and trees. -/
def filV (p : Fil × Value) : Value := .agg #[.int .i64 p.1.root, .string (mk p.1.pack), .string (mk p.1.name), .bool p.1.init, .int .i64 p.1.stamp, p.2]

set_option maxRecDepth 100000 in
set_option maxHeartbeats 1000000 in
theorem laws_toStmt (k lv x : Int) (m n : Bs) (w : World) :
    Calls Try.prog 103 #[.agg #[.int .i64 k, .string (mk m), .int .i64 lv, .string (mk n), .int .i64 x]] w
      fun e w' => e = .returned (.agg #[.int .i64 k, .string (mk m), .int .i64 lv, .string (mk n), .int .i64 x]) ∧ Below w.heap.size w w' := by
  go_enter Try.func103, Try.ntmps103
  go_wp2_with fail
  exact bodyPost_ret (v := .agg #[.int .i64 k, .string (mk m), .int .i64 lv, .string (mk n), .int .i64 x]) (by simp [results, Try.results103, go_sem]) rfl ⟨rfl, by (repeat (with_reducible first | exact Below.refl _ _ | assumption | refine ba ?_ _ | refine bd ?_ | refine bdN ?_ _ | refine bs ?_ (by first | exact Nat.le_refl _ | (dsimp only; omega) | (simp; done)) _ | refine bt ?_ (by assumption)))⟩

/-- What a function that returns a new row of statements comes to. -/
def NewStms (ss : List Stm) (w : World) (e : Ending) (w' : World) : Prop :=
  ∃ v, e = .returned v ∧ w'.ownsRow w.heap.size 138 5 v ss.length (ss.flatMap stmCells) ∧ Below w.heap.size w w'
set_option maxRecDepth 100000 in
set_option maxHeartbeats 1000000 in
theorem laws_toStmtS (v : Value) (ss : List Stm) (D : Nat → Prop) (w : World) (hr : StmsIn w D v ss) (hl : ss.length ≤ 1048576) :
    Calls Try.prog 66 #[v] w (NewStms ss w) := by
  obtain ⟨i0, hi, hz0, hz1, hz2⟩ := info_parts infoStm
  have Hr := Lib.hid hr
  obtain ⟨aa, ca, rfl, hlc, hm⟩ := hr.len
  unfold maxLen at hm
  have Hi := Lib.hid hi
  have Hz0 := Lib.hid hz0
  have Hz1 := Lib.hid hz1
  have Hz2 := Lib.hid hz2
  clear hr hi hz0 hz1 hz2
  go_enter Try.func66, Try.ntmps66
  go_wp2_with (at_make; refine wpList_make_full _ rfl _ _ 34 rfl w.heap.size 138 i0 _ 5 Try.underlying34 Hi.out Hz0.out Hz1.out .i64 .i64 _ _ ss.length rfl rfl rfl rfl (by rw [Hz2.out]; omega) (by unfold maxLen; omega) (Nat.le_refl _) ?_; intro w1 hown1 hg1)
  have hown2 : w1.ownsRow w.heap.size 138 5 (.slice (some ⟨w.heap.size, 0, none⟩) ss.length ss.length) ss.length ((ss.take 0 ++ List.replicate (ss.length - 0) zeroStm).flatMap stmCells) := by
    have e := made5 ss.length
    simp only [List.take_zero, List.nil_append, Nat.sub_zero]
    rw [← e]; exact hown1
  have hb1 : Below w.heap.size w w1 := (Below.refl _ _).grown hg1 (Nat.le_refl _) (fun k hk => by cases hk)
  have Hown2 := Lib.hid hown2
  have Hb1 := Lib.hid hb1
  clear hown1 hown2 hg1 hb1
  go_wp2_with fail
  go_loopw [4] (fun iv wr => ∃ i : Nat, i ≤ ss.length ∧ iv = .int .i64 i ∧ wr.ownsRow w.heap.size 138 5 (.slice (some ⟨w.heap.size, 0, none⟩) ss.length ss.length) ss.length ((ss.take i ++ List.replicate (ss.length - i) zeroStm).flatMap stmCells) ∧ Below w.heap.size w wr) (fun iv _ => ss.length - (intOf iv).toNat)
  case atStart => exact ⟨0, by omega, rfl, Hown2.out, Hb1.out⟩
  case round =>
    obtain ⟨i, hi, rfl, ho, hbel⟩ := hrel
    have Ho := Lib.hid ho
    clear ho Hown2 Hb1
    by_cases hlt : i < ss.length
    · obtain ⟨b, off, cap, e, hD, hb, c0, c1, c2, c3, c4⟩ := (Hr.out.below hbel).at_ hlt
      simp only [Value.slice.injEq] at e
      obtain ⟨rfl, _, rfl⟩ := e
      have Hp := Lib.hid (fill_put ss zeroStm i hlt)
      have Hfl := Lib.hid (fill_len ss zeroStm i hi)
      generalize ss[i] = s at *
      obtain ⟨sk, sm, sl, sn, sv⟩ := s
      dsimp only at c0 c1 c2 c3 c4
      generalize ss.take i ++ List.replicate (ss.length - i) zeroStm = L at *
      go_wp2_with (go_at_call 103; refine (laws_toStmt _ _ _ _ _ _).mono ?_; rintro _ w5 ⟨rfl, hb5⟩; have ho5 := Lib.hid (owns_below Ho.out hb5); obtain ⟨⟨d0, d1, d2, d3, d4⟩, g0, g1, g2, g3, g4⟩ := own5 ho5.out i (by rw [Hfl.out]; exact hlt))
      have Hb6 := Lib.hid (show Below w.heap.size w w5 by (repeat (with_reducible first | exact Below.refl _ _ | assumption | refine ba ?_ _ | refine bd ?_ | refine bdN ?_ _ | refine bs ?_ (by first | exact Nat.le_refl _ | (dsimp only; omega) | (simp; done)) _ | refine bt ?_ (by assumption))))
      have Hput := Lib.hid (own5_put ho5.out i (by rw [Hfl.out]; exact hlt) ⟨sk, sm, sl, sn, sv⟩)
      rw [Hp.out] at Hput
      go_roundw
      case rel => exact ⟨i + 1, by omega, by go_num, Hput.out, bs (bs (bs (bs (bs Hb6.out (Nat.le_refl _) _) (Nat.le_refl _) _) (Nat.le_refl _) _) (Nat.le_refl _) _) (Nat.le_refl _) _⟩
      case measure => simp [intOf]; omega
    · obtain rfl : i = ss.length := by omega
      have Ho2 := Lib.hid (show wr.ownsRow w.heap.size 138 5 (.slice (some ⟨w.heap.size, 0, none⟩) ss.length ss.length) ss.length (ss.flatMap stmCells) by simpa using Ho.out)
      go_wp2_with fail
      go_ret
      exact ⟨_, rfl, Ho2.out, hbel⟩

/-- What a function that returns a file with a new body comes to. -/
def NewFil (f : Fil) (w : World) (e : Ending) (w' : World) : Prop :=
  ∃ bv, e = .returned (filV (f, bv)) ∧ w'.ownsRow w.heap.size 138 5 bv f.body.length (f.body.flatMap stmCells) ∧ Below w.heap.size w w'
set_option maxRecDepth 100000 in
set_option maxHeartbeats 1000000 in
theorem laws_toFile (r st : Int) (p n : Bs) (i : Bool) (bv : Value) (body : List Stm) (D : Nat → Prop) (w : World) (hr : StmsIn w D bv body) (hl : body.length ≤ 1048576) :
    Calls Try.prog 22 #[.agg #[.int .i64 r, .string (mk p), .string (mk n), .bool i, .int .i64 st, bv]] w (NewFil ⟨r, p, n, i, st, body⟩ w) := by
  have Hr := Lib.hid hr
  obtain ⟨aa, ca, rfl, hlc, hm⟩ := hr.len
  unfold maxLen at hm
  clear hr
  go_enter Try.func22, Try.ntmps22
  go_wp2_with (go_at_call 66; refine (laws_toStmtS _ body D _ (Hr.out.below (by (repeat (with_reducible first | exact Below.refl _ _ | assumption | refine ba ?_ _ | refine bd ?_ | refine bdN ?_ _ | refine bs ?_ (by first | exact Nat.le_refl _ | (dsimp only; omega) | (simp; done)) _ | refine bt ?_ (by assumption))))) hl).mono ?_; rintro _ w5 ⟨v5, rfl, hown5, hb5⟩; obtain ⟨hc, hf, hs⟩ := bcell hb5; have Hown5 := Lib.hid hown5; obtain ⟨a5, c5, hv5⟩ := owns_shape hown5; clear hown5; subst hv5)
  refine bodyPost_ret (v := filV (⟨r, p, n, i, st, body⟩, .slice a5 body.length c5)) (by simp [results, Try.results22, go_sem, filV, hc, hs]) rfl ⟨_, rfl, ?_, by (repeat (with_reducible first | exact Below.refl _ _ | assumption | refine ba ?_ _ | refine bd ?_ | refine bdN ?_ _ | refine bs ?_ (by first | exact Nat.le_refl _ | (dsimp only; omega) | (simp; done)) _ | refine bt ?_ (by assumption)))⟩
  have h5 := owns_set_low (owns_mono Hown5.out (show w.heap.size + 3 ≤ _ by simp)) (p := ⟨w.heap.size + 1 + 1, 5, none⟩) (by simp) (.slice a5 body.length c5)
  have hfin := owns_set_low (owns_set_low (owns_set_low (owns_set_low (owns_set_low (owns_set_low h5 (p := ⟨w.heap.size + 1, 0, none⟩) (by dsimp only; omega) (.int .i64 r)) (p := ⟨w.heap.size + 1, 1, none⟩) (by dsimp only; omega) (.string (mk p))) (p := ⟨w.heap.size + 1, 2, none⟩) (by dsimp only; omega) (.string (mk n))) (p := ⟨w.heap.size + 1, 3, none⟩) (by dsimp only; omega) (.bool i)) (p := ⟨w.heap.size + 1, 4, none⟩) (by dsimp only; omega) (.int .i64 st)) (p := ⟨w.heap.size + 1, 5, none⟩) (by dsimp only; omega) (.slice a5 body.length c5)
  exact owns_mono hfin (by omega)

theorem infoFil : (Try.prog.info? 36).map (fun i => (i.zero, i.size, i.bytes)) = some (some (.agg #[.int .i64 0, .string ByteArray.empty, .string ByteArray.empty, .bool false, .int .i64 0, .slice none 0 0]), 6, 80) := by kernel_rfl
/-- The bodies of files lie in rows of their own, no two in one. -/
def OwnBodies (w : World) (B : Nat) (ps : List (Fil × Value)) : Prop :=
  (∀ p ∈ ps, w.ownsRow B 138 5 p.2 p.1.body.length (p.1.body.flatMap stmCells)) ∧ ps.Pairwise (fun p q => ∀ b, p.2.ownBlock = some b → q.2.ownBlock ≠ some b)
/-- The slice v and the bodies of its files are rows of the call's own. -/
def OwnFils (w : World) (B : Nat) (v : Value) (ps : List (Fil × Value)) : Prop :=
  w.ownsRow B 36 6 v ps.length (ps.flatMap filCells) ∧ OwnBodies w B ps
theorem OwnBodies.nil (w : World) (B : Nat) : OwnBodies w B [] := ⟨by simp, List.Pairwise.nil⟩
theorem OwnBodies.heap {w w' : World} {B : Nat} {ps : List (Fil × Value)} (h : OwnBodies w B ps) (hk : ∀ b, B ≤ b → b < w.heap.size → (∃ p ∈ ps, p.2.ownBlock = some b) → w'.heap[b]? = w.heap[b]?) : OwnBodies w' B ps :=
  ⟨fun p hp => owns_heap (h.1 p hp) (fun b hb => hk b (owns_block (h.1 p hp) hb).1 (owns_block (h.1 p hp) hb).2 ⟨p, hp, hb⟩), h.2⟩
theorem OwnBodies.below {w w' : World} {B : Nat} {ps : List (Fil × Value)} (h : OwnBodies w B ps) (hb : Below w.heap.size w w') : OwnBodies w' B ps := h.heap (fun b _ hlt _ => hb.block b hlt)
theorem OwnBodies.mono {w : World} {B B' : Nat} {ps : List (Fil × Value)} (h : OwnBodies w B ps) (hB : B' ≤ B) : OwnBodies w B' ps := ⟨fun p hp => owns_mono (h.1 p hp) hB, h.2⟩
theorem OwnBodies.set_low {w : World} {B : Nat} {ps : List (Fil × Value)} (h : OwnBodies w B ps) {p : Addr} (hp : p.block < B) (u : Value) : OwnBodies (w.setCell p u) B ps :=
  h.heap (fun b hb _ _ => Below.heap_setCell w p u b (by omega))
theorem OwnBodies.snoc {w w' : World} {B : Nat} {ps : List (Fil × Value)} {q : Fil × Value} (h : OwnBodies w B ps) (hb : Below w.heap.size w w') (hB : B ≤ w.heap.size)
    (hq : w'.ownsRow w.heap.size 138 5 q.2 q.1.body.length (q.1.body.flatMap stmCells)) : OwnBodies w' B (ps ++ [q]) := by
  refine ⟨fun p hp => ?_, ?_⟩
  · rcases List.mem_append.1 hp with hp | hp
    · exact (h.below hb).1 p hp
    · simp at hp; subst hp; exact owns_mono hq hB
  · rw [List.pairwise_append]
    refine ⟨h.2, by simp, fun p hp x hx b hpb => ?_⟩
    simp at hx; subst hx
    intro hxb
    have h1 := owns_block (h.1 p hp) hpb
    have h2 := owns_block hq hxb
    omega
theorem OwnBodies.stms {w : World} {B : Nat} {ps : List (Fil × Value)} (h : OwnBodies w B ps) {D : Nat → Prop} (hD : ∀ g, B ≤ g → D g) : ∀ p ∈ ps, StmsIn w D p.2 p.1.body := fun p hp => StmsIn.of_owns (h.1 p hp) hD
theorem OwnFils.fils {w : World} {B : Nat} {v : Value} {ps : List (Fil × Value)} (h : OwnFils w B v ps) {D : Nat → Prop} (hD : ∀ g, B ≤ g → D g) : FilsIn w D v (ps.map (·.1)) := FilsIn.of_owns h.1 hD (h.2.stms hD)
theorem OwnFils.below {w w' : World} {B : Nat} {v : Value} {ps : List (Fil × Value)} (h : OwnFils w B v ps) (hb : Below w.heap.size w w') : OwnFils w' B v ps := ⟨owns_below h.1 hb, h.2.below hb⟩
theorem OwnFils.mono {w : World} {B B' : Nat} {v : Value} {ps : List (Fil × Value)} (h : OwnFils w B v ps) (hB : B' ≤ B) : OwnFils w B' v ps := ⟨owns_mono h.1 hB, h.2.mono hB⟩
/-- The slice v and the bodies of what it has are rows of the call's own; two of them may share a body. -/
def RowsFB (w : World) (B : Nat) (v : Value) (ps : List (Fil × Value)) : Prop :=
  w.ownsRow B 36 6 v ps.length (ps.flatMap filCells) ∧ ((∀ p ∈ ps, w.ownsRow B 138 5 p.2 p.1.body.length (p.1.body.flatMap stmCells)) ∧ True)
theorem OwnFils.rows {w : World} {B : Nat} {v : Value} {ps : List (Fil × Value)} (h : OwnFils w B v ps) : RowsFB w B v ps := ⟨h.1, h.2.1, trivial⟩
theorem RowsFB.below {w w' : World} {B : Nat} {v : Value} {ps : List (Fil × Value)} (h : RowsFB w B v ps) (hb : Below w.heap.size w w') : RowsFB w' B v ps := ⟨owns_below h.1 hb, fun p hp => owns_below (h.2.1 p hp) hb, trivial⟩
theorem RowsFB.mono {w : World} {B B' : Nat} {v : Value} {ps : List (Fil × Value)} (h : RowsFB w B v ps) (hB : B' ≤ B) : RowsFB w B' v ps := ⟨owns_mono h.1 hB, fun p hp => owns_mono (h.2.1 p hp) hB, trivial⟩
theorem RowsFB.fils {w : World} {B : Nat} {v : Value} {ps : List (Fil × Value)} (h : RowsFB w B v ps) {D : Nat → Prop} (hD : ∀ g, B ≤ g → D g) : FilsIn w D v (ps.map (·.1)) := FilsIn.of_owns h.1 hD (fun p hp => StmsIn.of_owns (h.2.1 p hp) hD)
theorem RowsFB.len {w : World} {B : Nat} {v : Value} {ps : List (Fil × Value)} (h : RowsFB w B v ps) : ∃ a cap, v = .slice a ps.length cap := owns_shape h.1
/-- What a function that returns new files comes to. -/
def NewFils (fs : List Fil) (w : World) (e : Ending) (w' : World) : Prop :=
  ∃ v ps, e = .returned v ∧ ps.map (·.1) = fs ∧ OwnFils w' w.heap.size v ps ∧ Below w.heap.size w w'
def NewTree (fs : List Fil) (w : World) (e : Ending) (w' : World) : Prop :=
  ∃ v ps, e = .returned (.agg #[v]) ∧ ps.map (·.1) = fs ∧ OwnFils w' w.heap.size v ps ∧ Below w.heap.size w w'
theorem zipFill {fs : List Fil} {ps : List (Fil × Value)} {i : Nat} (h : ps.map (·.1) = fs.take i) (hi : i ≤ fs.length) : ps.length = i := by
  have := congrArg List.length h
  simp at this; omega
theorem fill_put2 (ps : List (Fil × Value)) (z q : Fil × Value) (n : Nat) (h : 0 < n) : (ps ++ List.replicate n z).set ps.length q = ps ++ [q] ++ List.replicate (n - 1) z := by
  rw [List.set_append_right _ _ (Nat.le_refl _), Nat.sub_self, show n = (n - 1) + 1 by omega, List.replicate_succ, List.set_cons_zero, List.append_assoc]
  rfl
set_option maxRecDepth 100000 in
set_option maxHeartbeats 1000000 in
theorem laws_toFileS (v : Value) (fs : List Fil) (D : Nat → Prop) (w : World) (hr : FilsIn w D v fs) (hl : filsCost' fs) :
    Calls Try.prog 101 #[v] w (NewFils fs w) := by
  obtain ⟨i0, hi, hz0, hz1, hz2⟩ := info_parts infoFil
  have Hr := Lib.hid hr
  obtain ⟨aa, ca, rfl, hlc, hm⟩ := hr.len
  unfold maxLen at hm
  have hlen := hl.1
  have Hl := Lib.hid hl.2
  have Hi := Lib.hid hi
  have Hz0 := Lib.hid hz0
  have Hz1 := Lib.hid hz1
  have Hz2 := Lib.hid hz2
  clear hr hi hz0 hz1 hz2 hl
  go_enter Try.func101, Try.ntmps101
  go_wp2_with (at_make; refine wpList_make_full _ rfl _ _ 23 rfl w.heap.size 36 i0 _ 6 Try.underlying23 Hi.out Hz0.out Hz1.out .i64 .i64 _ _ fs.length rfl rfl rfl rfl (by rw [Hz2.out]; omega) (by unfold maxLen; omega) (Nat.le_refl _) ?_; intro w1 hown1 hg1)
  have hown2 : w1.ownsRow w.heap.size 36 6 (.slice (some ⟨w.heap.size, 0, none⟩) fs.length fs.length) fs.length ((([] : List (Fil × Value)) ++ List.replicate (fs.length - 0) zeroFil).flatMap filCells) := by
    have e := made6 fs.length
    simp only [List.nil_append, Nat.sub_zero]
    rw [← e]; exact hown1
  have hb1 : Below w.heap.size w w1 := (Below.refl _ _).grown hg1 (Nat.le_refl _) (fun k hk => by cases hk)
  have hz1 : w.heap.size < w1.heap.size := by
    rcases hown2.2 with ⟨h, _⟩ | ⟨g, cap, cur, h1, _, h3, _⟩
    · cases h
    · simp only [Value.slice.injEq, Option.some.injEq, Addr.mk.injEq] at h1
      obtain ⟨⟨rfl, _⟩, _⟩ := h1
      exact (Array.getElem?_eq_some_iff.1 h3).1
  have Hown2 := Lib.hid hown2
  have Hb1 := Lib.hid hb1
  clear hown1 hown2 hg1 hb1
  go_wp2_with fail
  go_loopw [4] (fun iv wr => ∃ (i : Nat) (ps : List (Fil × Value)), i ≤ fs.length ∧ iv = .int .i64 i ∧ ps.map (·.1) = fs.take i ∧ wr.ownsRow w.heap.size 36 6 (.slice (some ⟨w.heap.size, 0, none⟩) fs.length fs.length) fs.length ((ps ++ List.replicate (fs.length - i) zeroFil).flatMap filCells) ∧ OwnBodies wr (w.heap.size + 1) ps ∧ Below w.heap.size w wr ∧ w.heap.size < wr.heap.size) (fun iv _ => fs.length - (intOf iv).toNat)
  case atStart => exact ⟨0, [], by omega, rfl, rfl, Hown2.out, OwnBodies.nil _ _, Hb1.out, hz1⟩
  case round =>
    obtain ⟨i, ps, hi, rfl, hps, ho, hbo, hbel, hsz⟩ := hrel
    have Ho := Lib.hid ho
    have Hps := Lib.hid hps
    have Hbo := Lib.hid hbo
    have Hpl := Lib.hid (zipFill hps hi)
    clear ho hps hbo Hown2 Hb1 hz1
    by_cases hlt : i < fs.length
    · obtain ⟨b, off, cap, bv, e, hD, hb, hbody, c0, c1, c2, c3, c4, c5⟩ := (Hr.out.below hbel).at_ hlt
      simp only [Value.slice.injEq] at e
      obtain ⟨rfl, _, rfl⟩ := e
      obtain ⟨ba', bc', rfl, hbl, hbm⟩ := hbody.len
      have Hbody := Lib.hid hbody
      have Hbl := Lib.hid (Hl.out _ (List.getElem_mem hlt))
      have Hsn := Lib.hid (List.take_succ_eq_append_getElem hlt)
      obtain ⟨f, hf⟩ : ∃ f, f = fs[i] := ⟨_, rfl⟩
      rw [← hf] at c0 c1 c2 c3 c4 c5 Hbody Hbl Hsn
      clear hf hbody hbm hbl
      obtain ⟨fr, fp, fn, fi, fst, fb⟩ := f
      dsimp only at c0 c1 c2 c3 c4 c5
      have hrow : i < (ps ++ List.replicate (fs.length - i) zeroFil).length := by simp [Hpl.out]; omega
      have Hrow := Lib.hid hrow
      clear hrow
      go_wp2_with (go_at_call 22; refine (laws_toFile _ _ _ _ _ _ fb D _ (Hbody.out.below (by (repeat (with_reducible first | exact Below.refl _ _ | assumption | refine ba ?_ _ | refine bd ?_ | refine bdN ?_ _ | refine bs ?_ (by first | exact Nat.le_refl _ | (dsimp only; omega) | (simp; done)) _ | refine bt ?_ (by assumption))))) Hbl.out).mono ?_; rintro _ w5 ⟨v5, rfl, hown5, hb5⟩; have Hown5 := Lib.hid hown5; obtain ⟨a5, e5, hv5⟩ := owns_shape hown5; clear hown5; subst hv5; have ho5 := Lib.hid (owns_below Ho.out hb5); obtain ⟨⟨d0, d1, d2, d3, d4, d5⟩, g0, g1, g2, g3, g4, g5⟩ := own6 ho5.out i Hrow.out; unfold filV; dsimp only)
      have Hb6 := Lib.hid (show Below w.heap.size w w5 by (repeat (with_reducible first | exact Below.refl _ _ | assumption | refine ba ?_ _ | refine bd ?_ | refine bdN ?_ _ | refine bs ?_ (by first | exact Nat.le_refl _ | (dsimp only; omega) | (simp; done)) _ | refine bt ?_ (by assumption))))
      have Hput := Lib.hid (own6_put ho5.out i Hrow.out (⟨fr, fp, fn, fi, fst, fb⟩, .slice a5 fb.length e5))
      have Hps2 := Lib.hid (show (ps ++ [((⟨fr, fp, fn, fi, fst, fb⟩ : Fil), Value.slice a5 fb.length e5)]).map (·.1) = fs.take (i + 1) by rw [List.map_append, Hps.out, Hsn.out]; rfl)
      have Hbo2 := Lib.hid (OwnBodies.snoc (q := ((⟨fr, fp, fn, fi, fst, fb⟩ : Fil), Value.slice a5 fb.length e5)) Hbo.out hb5 (show w.heap.size + 1 ≤ wr.heap.size by omega) Hown5.out)
      have hfp := fill_put2 ps zeroFil (⟨fr, fp, fn, fi, fst, fb⟩, .slice a5 fb.length e5) (fs.length - i) (by omega)
      rw [Hpl.out] at hfp
      rw [hfp, show fs.length - i - 1 = fs.length - (i + 1) by omega] at Hput
      have hs5 := hb5.size
      have Hs5 := Lib.hid (show w.heap.size < w5.heap.size by omega)
      clear hfp hs5
      go_roundw
      case rel =>
        refine ⟨i + 1, ps ++ [((⟨fr, fp, fn, fi, fst, fb⟩ : Fil), Value.slice a5 fb.length e5)], by omega, by go_num, Hps2.out, Hput.out, ?_, ?_, ?_⟩
        · exact (((((Hbo2.out.set_low (by dsimp only; omega) _).set_low (by dsimp only; omega) _).set_low (by dsimp only; omega) _).set_low (by dsimp only; omega) _).set_low (by dsimp only; omega) _).set_low (by dsimp only; omega) _
        · have h6 := Hb6.out
          (repeat (with_reducible first | exact Below.refl _ _ | assumption | refine ba ?_ _ | refine bd ?_ | refine bdN ?_ _ | refine bs ?_ (by first | exact Nat.le_refl _ | (dsimp only; omega) | (simp; done)) _ | refine bt ?_ (by assumption)))
        · have := Hs5.out
          simpa using this
      case measure => simp [intOf]; omega
    · obtain rfl : i = fs.length := by omega
      have Hmap := Lib.hid (show ps.map (·.1) = fs by rw [Hps.out, List.take_length])
      have Ho2 := Lib.hid (show OwnFils wr w.heap.size (.slice (some ⟨w.heap.size, 0, none⟩) fs.length fs.length) ps from ⟨by have := Ho.out; rw [Hpl.out]; simpa using this, Hbo.out.mono (by omega)⟩)
      go_wp2_with fail
      go_ret
      exact ⟨_, ps, rfl, Hmap.out, Ho2.out, hbel⟩
theorem OwnFils.set_low {w : World} {B : Nat} {v : Value} {ps : List (Fil × Value)} (h : OwnFils w B v ps) {p : Addr} (hp : p.block < B) (u : Value) : OwnFils (w.setCell p u) B v ps := ⟨owns_set_low h.1 hp u, h.2.set_low hp u⟩
theorem OwnFils.len {w : World} {B : Nat} {v : Value} {ps : List (Fil × Value)} (h : OwnFils w B v ps) : ∃ a cap, v = .slice a ps.length cap := owns_shape h.1
set_option maxRecDepth 100000 in
set_option maxHeartbeats 1000000 in
theorem laws_toTree (v : Value) (fs : List Fil) (D : Nat → Prop) (w : World) (hr : FilsIn w D v fs) (hl : filsCost' fs) :
    Calls Try.prog 64 #[.agg #[v]] w (NewTree fs w) := by
  have Hr := Lib.hid hr
  obtain ⟨aa, ca, rfl, hlc, hm⟩ := hr.len
  have Hl := Lib.hid hl
  clear hr hm hl
  go_enter Try.func64, Try.ntmps64
  go_wp2_with (go_at_call 101; refine (laws_toFileS _ fs D _ (Hr.out.below (by (repeat (with_reducible first | exact Below.refl _ _ | assumption | refine ba ?_ _ | refine bd ?_ | refine bdN ?_ _ | refine bs ?_ (by first | exact Nat.le_refl _ | (dsimp only; omega) | (simp; done)) _ | refine bt ?_ (by assumption))))) Hl.out).mono ?_; rintro _ w5 ⟨v5, ps, rfl, hps, hown5, hb5⟩; obtain ⟨hc, hf, hs⟩ := bcell hb5; have Hps := Lib.hid hps; have Hown5 := Lib.hid hown5; obtain ⟨a5, c5, hv5⟩ := hown5.len; clear hown5 hps; subst hv5; generalize ps.length = pn at *)
  refine bodyPost_ret (v := .agg #[.slice a5 pn c5]) (by simp [results, Try.results64, go_sem, hc, hs]) rfl ⟨_, ps, rfl, Hps.out, ?_, by (repeat (with_reducible first | exact Below.refl _ _ | assumption | refine ba ?_ _ | refine bd ?_ | refine bdN ?_ _ | refine bs ?_ (by first | exact Nat.le_refl _ | (dsimp only; omega) | (simp; done)) _ | refine bt ?_ (by assumption)))⟩
  exact ((((Hown5.out.mono (show w.heap.size + 3 ≤ _ by simp)).set_low (by dsimp only; omega) _).set_low (by dsimp only; omega) _).mono (by omega))

/-! ### Contracts of the exact laws' looks: statements, files and trees are equal. -/
theorem beq_bs' (a b : Bs) : (a == b) = decide (a = b) := by rw [Bool.eq_iff_iff]; simp
theorem bne_bs (a b : Bs) : (a != b) = decide (a ≠ b) := by rw [bne, beq_bs']; simp
theorem bne_int (a b : Int) : (a != b) = decide (a ≠ b) := by rw [bne, beq_dec]; simp
def sameStm (a b : Stm) : Bool := decide (a = b)
def sameStms (a b : List Stm) : Bool := decide (a = b)
def sameFil (a b : Fil) : Bool := decide (a = b)
def sameFils (a b : List Fil) : Bool := decide (a = b)

set_option maxRecDepth 100000 in
set_option maxHeartbeats 1000000 in
theorem laws_eqStmt (k lv x : Int) (m n : Bs) (k' lv' x' : Int) (m' n' : Bs) (w : World) :
    Calls Try.prog 108 #[.agg #[.int .i64 k, .string (mk m), .int .i64 lv, .string (mk n), .int .i64 x], .agg #[.int .i64 k', .string (mk m'), .int .i64 lv', .string (mk n'), .int .i64 x']] w
      fun e w' => e = .returned (.bool (sameStm ⟨k, m, lv, n, x⟩ ⟨k', m', lv', n', x'⟩)) ∧ Below w.heap.size w w' := by
  go_enter Try.func108, Try.ntmps108
  go_wp2_with fail
  all_goals (go_ret; refine ⟨ret_bool ?_, by (repeat (with_reducible first | exact Below.refl _ _ | assumption | refine ba ?_ _ | refine bd ?_ | refine bdN ?_ _ | refine bs ?_ (by first | exact Nat.le_refl _ | (dsimp only; omega) | (simp; done)) _ | refine bt ?_ (by assumption)))⟩; simp_all [sameStm, beq_bs', beq_dec, bne_bs, bne_int])

theorem sameStms_no {a b : List Stm} {k : Nat} (h1 : k < a.length) (h2 : k < b.length) (h : sameStm a[k] b[k] = false) : sameStms a b = false :=
  decide_eq_false (fun e => by subst e; exact of_decide_eq_false h rfl)
set_option maxRecDepth 100000 in
set_option maxHeartbeats 1000000 in
theorem laws_eqStmtS (v v' : Value) (ss ss' : List Stm) (D D' : Nat → Prop) (w : World) (hr : StmsIn w D v ss) (hr' : StmsIn w D' v' ss') :
    Calls Try.prog 70 #[v, v'] w fun e w' => e = .returned (.bool (sameStms ss ss')) ∧ Below w.heap.size w w' := by
  have Hr := Lib.hid hr
  have Hr' := Lib.hid hr'
  obtain ⟨aa, ca, rfl, hl, hm⟩ := hr.len
  obtain ⟨aa', ca', rfl, hl', hm'⟩ := hr'.len
  unfold maxLen at hm hm'
  clear hr hr'
  by_cases he : ss.length = ss'.length
  · have He := Lib.hid he
    rw [← he]
    rw [← he] at Hr'
    clear he
    go_enter Try.func70, Try.ntmps70
    go_wp2_with fail
    go_loopw [5] (fun iv wr => ∃ k : Nat, k ≤ ss.length ∧ iv = .int .i64 k ∧ Below w.heap.size w wr ∧ ∀ i (h1 : i < ss.length) (h2 : i < ss'.length), i < k → ss[i] = ss'[i]) (fun iv _ => ss.length - (intOf iv).toNat)
    case atStart => exact ⟨0, by omega, rfl, Below.refl _ _, fun i _ _ h => absurd h (by omega)⟩
    case round =>
      obtain ⟨k, hk, rfl, hbel, ha⟩ := hrel
      have Ha := Lib.hid ha
      clear ha
      by_cases hlt : k < ss.length
      · have hlt' : k < ss'.length := by rw [← He.out]; exact hlt
        obtain ⟨b, off, cap, e, hD, hb, c0, c1, c2, c3, c4⟩ := (Hr.out.below hbel).at_ hlt
        obtain ⟨b', off', cap', e', hD', hb', c0', c1', c2', c3', c4'⟩ := (StmsIn.below (v := .slice aa' ss'.length ca') (by have := Hr'.out; rwa [He.out] at this) hbel).at_ hlt'
        simp only [Value.slice.injEq] at e e'
        obtain ⟨rfl, _, rfl⟩ := e
        obtain ⟨rfl, _, rfl⟩ := e'
        have Hn := Lib.hid (sameStms_no hlt hlt')
        obtain ⟨s, hs⟩ : ∃ s, s = ss[k] := ⟨_, rfl⟩
        obtain ⟨s', hs'⟩ : ∃ s', s' = ss'[k] := ⟨_, rfl⟩
        rw [← hs] at c0 c1 c2 c3 c4 Hn
        rw [← hs'] at c0' c1' c2' c3' c4' Hn
        have Hy := Lib.hid (fun (h : sameStm s s' = true) => (show ss[k] = ss'[k] by rw [← hs, ← hs']; exact of_decide_eq_true h))
        clear hs hs'
        obtain ⟨sk, sm, sl, sn, sv⟩ := s
        obtain ⟨sk', sm', sl', sn', sv'⟩ := s'
        dsimp only at c0 c1 c2 c3 c4 c0' c1' c2' c3' c4'
        have hk1 : (k : Int) < (ss.length : Int) := by omega
        have hk0 : (0 : Int) ≤ (k : Int) := by omega
        go_wp2_with fail
        go_still_tail 8, (by kernel_rfl)
        go_wp2_with (go_at_call 108; refine (laws_eqStmt _ _ _ _ _ _ _ _ _ _ _).mono ?_; (rintro _ _ ⟨rfl, hb⟩; obtain ⟨hc, hf, hs⟩ := bcell hb))
        · have h : (!sameStm ⟨sk, sm, sl, sn, sv⟩ ⟨sk', sm', sl', sn', sv'⟩) = true := by assumption
          go_ret
          rw [Hn.out (by simpa using h)]
          exact ⟨rfl, by (repeat (with_reducible first | exact Below.refl _ _ | assumption | refine ba ?_ _ | refine bd ?_ | refine bdN ?_ _ | refine bs ?_ (by first | exact Nat.le_refl _ | (dsimp only; omega) | (simp; done)) _ | refine bt ?_ (by assumption)))⟩
        · have h : (!sameStm ⟨sk, sm, sl, sn, sv⟩ ⟨sk', sm', sl', sn', sv'⟩) = false := by assumption
          go_roundw
          case rel =>
            refine ⟨k + 1, by omega, by go_num, by (repeat (with_reducible first | exact Below.refl _ _ | assumption | refine ba ?_ _ | refine bd ?_ | refine bdN ?_ _ | refine bs ?_ (by first | exact Nat.le_refl _ | (dsimp only; omega) | (simp; done)) _ | refine bt ?_ (by assumption))), fun i h1 h2 hi => ?_⟩
            by_cases e : i = k
            · subst e; exact Hy.out (by simpa using h)
            · exact Ha.out i h1 h2 (by omega)
          case measure => simp [intOf]; omega
      · have hv := Lib.hid (show sameStms ss ss' = true from decide_eq_true (List.ext_getElem He.out (fun i h1 h2 => Ha.out i h1 h2 (by omega))))
        go_wp2_with fail
        go_ret
        rw [hv.out]
        exact ⟨rfl, hbel⟩
  · have Hv := Lib.hid (show sameStms ss ss' = false from decide_eq_false (fun e => he (by rw [e])))
    have hlb : ((ss.length : Int) == (ss'.length : Int)) = false := by rw [beq_eq_false_iff_ne]; omega
    clear he
    generalize ss.length = p at *
    generalize ss'.length = q at *
    go_enter Try.func70, Try.ntmps70
    go_wp2_with fail
    go_ret
    rw [Hv.out]
    exact ⟨rfl, by (repeat (with_reducible first | exact Below.refl _ _ | assumption | refine ba ?_ _ | refine bd ?_ | refine bdN ?_ _ | refine bs ?_ (by first | exact Nat.le_refl _ | (dsimp only; omega) | (simp; done)) _ | refine bt ?_ (by assumption)))⟩

set_option maxRecDepth 100000 in
set_option maxHeartbeats 1000000 in
theorem laws_eqFile (r st : Int) (p n : Bs) (i : Bool) (bv : Value) (body : List Stm) (r' st' : Int) (p' n' : Bs) (i' : Bool) (bv' : Value) (body' : List Stm) (D D' : Nat → Prop) (w : World) (hr : StmsIn w D bv body) (hr' : StmsIn w D' bv' body') :
    Calls Try.prog 25 #[.agg #[.int .i64 r, .string (mk p), .string (mk n), .bool i, .int .i64 st, bv], .agg #[.int .i64 r', .string (mk p'), .string (mk n'), .bool i', .int .i64 st', bv']] w
      fun e w' => e = .returned (.bool (sameFil ⟨r, p, n, i, st, body⟩ ⟨r', p', n', i', st', body'⟩)) ∧ Below w.heap.size w w' := by
  have Hr := Lib.hid hr
  have Hr' := Lib.hid hr'
  obtain ⟨aa, ca, rfl, hl, hm⟩ := hr.len
  obtain ⟨aa', ca', rfl, hl', hm'⟩ := hr'.len
  unfold maxLen at hm hm'
  clear hr hr'
  go_enter Try.func25, Try.ntmps25
  go_wp2_with (go_at_call 70; refine (laws_eqStmtS _ _ body body' D D' _ (Hr.out.below (by (repeat (with_reducible first | exact Below.refl _ _ | assumption | refine ba ?_ _ | refine bd ?_ | refine bdN ?_ _ | refine bs ?_ (by first | exact Nat.le_refl _ | (dsimp only; omega) | (simp; done)) _ | refine bt ?_ (by assumption))))) (Hr'.out.below (by (repeat (with_reducible first | exact Below.refl _ _ | assumption | refine ba ?_ _ | refine bd ?_ | refine bdN ?_ _ | refine bs ?_ (by first | exact Nat.le_refl _ | (dsimp only; omega) | (simp; done)) _ | refine bt ?_ (by assumption)))))).mono ?_; (rintro _ _ ⟨rfl, hb⟩; obtain ⟨hc, hf, hs⟩ := bcell hb))
  all_goals (go_ret; refine ⟨ret_bool ?_, by (repeat (with_reducible first | exact Below.refl _ _ | assumption | refine ba ?_ _ | refine bd ?_ | refine bdN ?_ _ | refine bs ?_ (by first | exact Nat.le_refl _ | (dsimp only; omega) | (simp; done)) _ | refine bt ?_ (by assumption)))⟩; simp_all [sameFil, sameStms, beq_bs', beq_dec, bne_bs, bne_int])

theorem sameFils_no {a b : List Fil} {k : Nat} (h1 : k < a.length) (h2 : k < b.length) (h : sameFil a[k] b[k] = false) : sameFils a b = false :=
  decide_eq_false (fun e => by subst e; exact of_decide_eq_false h rfl)
set_option maxRecDepth 100000 in
set_option maxHeartbeats 1000000 in
theorem laws_eqFileS (v v' : Value) (fs fs' : List Fil) (D D' : Nat → Prop) (w : World) (hr : FilsIn w D v fs) (hr' : FilsIn w D' v' fs') :
    Calls Try.prog 106 #[v, v'] w fun e w' => e = .returned (.bool (sameFils fs fs')) ∧ Below w.heap.size w w' := by
  have Hr := Lib.hid hr
  have Hr' := Lib.hid hr'
  obtain ⟨aa, ca, rfl, hl, hm⟩ := hr.len
  obtain ⟨aa', ca', rfl, hl', hm'⟩ := hr'.len
  unfold maxLen at hm hm'
  clear hr hr'
  by_cases he : fs.length = fs'.length
  · have He := Lib.hid he
    rw [← he]
    rw [← he] at Hr'
    clear he
    go_enter Try.func106, Try.ntmps106
    go_wp2_with fail
    go_loopw [5] (fun iv wr => ∃ k : Nat, k ≤ fs.length ∧ iv = .int .i64 k ∧ Below w.heap.size w wr ∧ ∀ i (h1 : i < fs.length) (h2 : i < fs'.length), i < k → fs[i] = fs'[i]) (fun iv _ => fs.length - (intOf iv).toNat)
    case atStart => exact ⟨0, by omega, rfl, Below.refl _ _, fun i _ _ h => absurd h (by omega)⟩
    case round =>
      obtain ⟨k, hk, rfl, hbel, ha⟩ := hrel
      have Ha := Lib.hid ha
      clear ha
      by_cases hlt : k < fs.length
      · have hlt' : k < fs'.length := by rw [← He.out]; exact hlt
        obtain ⟨b, off, cap, bv, e, hD, hb, hbody, c0, c1, c2, c3, c4, c5⟩ := (Hr.out.below hbel).at_ hlt
        obtain ⟨b', off', cap', bv', e', hD', hb', hbody', c0', c1', c2', c3', c4', c5'⟩ := (FilsIn.below (v := .slice aa' fs'.length ca') (by have := Hr'.out; rwa [He.out] at this) hbel).at_ hlt'
        simp only [Value.slice.injEq] at e e'
        obtain ⟨rfl, _, rfl⟩ := e
        obtain ⟨rfl, _, rfl⟩ := e'
        obtain ⟨ba1, bc1, rfl, _, _⟩ := hbody.len
        obtain ⟨ba2, bc2, rfl, _, _⟩ := hbody'.len
        have Hbody := Lib.hid hbody
        have Hbody' := Lib.hid hbody'
        have Hn := Lib.hid (sameFils_no hlt hlt')
        obtain ⟨s, hs⟩ : ∃ s, s = fs[k] := ⟨_, rfl⟩
        obtain ⟨s', hs'⟩ : ∃ s', s' = fs'[k] := ⟨_, rfl⟩
        rw [← hs] at c0 c1 c2 c3 c4 c5 Hn Hbody
        rw [← hs'] at c0' c1' c2' c3' c4' c5' Hn Hbody'
        have Hy := Lib.hid (fun (h : sameFil s s' = true) => (show fs[k] = fs'[k] by rw [← hs, ← hs']; exact of_decide_eq_true h))
        clear hs hs' hbody hbody'
        obtain ⟨fr, fp, fn, fi, fst, fb⟩ := s
        obtain ⟨fr', fp', fn', fi', fst', fb'⟩ := s'
        dsimp only at c0 c1 c2 c3 c4 c5 c0' c1' c2' c3' c4' c5'
        have hk1 : (k : Int) < (fs.length : Int) := by omega
        have hk0 : (0 : Int) ≤ (k : Int) := by omega
        go_wp2_with fail
        go_still_tail 8, (by kernel_rfl)
        go_wp2_with (go_at_call 25; refine (laws_eqFile _ _ _ _ _ _ fb _ _ _ _ _ _ fb' D D' _ (Hbody.out.below (by (repeat (with_reducible first | exact Below.refl _ _ | assumption | refine ba ?_ _ | refine bd ?_ | refine bdN ?_ _ | refine bs ?_ (by first | exact Nat.le_refl _ | (dsimp only; omega) | (simp; done)) _ | refine bt ?_ (by assumption))))) (Hbody'.out.below (by (repeat (with_reducible first | exact Below.refl _ _ | assumption | refine ba ?_ _ | refine bd ?_ | refine bdN ?_ _ | refine bs ?_ (by first | exact Nat.le_refl _ | (dsimp only; omega) | (simp; done)) _ | refine bt ?_ (by assumption)))))).mono ?_; (rintro _ _ ⟨rfl, hb⟩; obtain ⟨hc, hf, hs⟩ := bcell hb))
        · have h : (!sameFil ⟨fr, fp, fn, fi, fst, fb⟩ ⟨fr', fp', fn', fi', fst', fb'⟩) = true := by assumption
          go_ret
          rw [Hn.out (by simpa using h)]
          exact ⟨rfl, by (repeat (with_reducible first | exact Below.refl _ _ | assumption | refine ba ?_ _ | refine bd ?_ | refine bdN ?_ _ | refine bs ?_ (by first | exact Nat.le_refl _ | (dsimp only; omega) | (simp; done)) _ | refine bt ?_ (by assumption)))⟩
        · have h : (!sameFil ⟨fr, fp, fn, fi, fst, fb⟩ ⟨fr', fp', fn', fi', fst', fb'⟩) = false := by assumption
          go_roundw
          case rel =>
            refine ⟨k + 1, by omega, by go_num, by (repeat (with_reducible first | exact Below.refl _ _ | assumption | refine ba ?_ _ | refine bd ?_ | refine bdN ?_ _ | refine bs ?_ (by first | exact Nat.le_refl _ | (dsimp only; omega) | (simp; done)) _ | refine bt ?_ (by assumption))), fun i h1 h2 hi => ?_⟩
            by_cases e : i = k
            · subst e; exact Hy.out (by simpa using h)
            · exact Ha.out i h1 h2 (by omega)
          case measure => simp [intOf]; omega
      · have hv := Lib.hid (show sameFils fs fs' = true from decide_eq_true (List.ext_getElem He.out (fun i h1 h2 => Ha.out i h1 h2 (by omega))))
        go_wp2_with fail
        go_ret
        rw [hv.out]
        exact ⟨rfl, hbel⟩
  · have Hv := Lib.hid (show sameFils fs fs' = false from decide_eq_false (fun e => he (by rw [e])))
    have hlb : ((fs.length : Int) == (fs'.length : Int)) = false := by rw [beq_eq_false_iff_ne]; omega
    clear he
    generalize fs.length = p at *
    generalize fs'.length = q at *
    go_enter Try.func106, Try.ntmps106
    go_wp2_with fail
    go_ret
    rw [Hv.out]
    exact ⟨rfl, by (repeat (with_reducible first | exact Below.refl _ _ | assumption | refine ba ?_ _ | refine bd ?_ | refine bdN ?_ _ | refine bs ?_ (by first | exact Nat.le_refl _ | (dsimp only; omega) | (simp; done)) _ | refine bt ?_ (by assumption)))⟩

set_option maxRecDepth 100000 in
set_option maxHeartbeats 1000000 in
theorem laws_eqTree (v v' : Value) (fs fs' : List Fil) (D D' : Nat → Prop) (w : World) (hr : FilsIn w D v fs) (hr' : FilsIn w D' v' fs') :
    Calls Try.prog 68 #[.agg #[v], .agg #[v']] w fun e w' => e = .returned (.bool (sameFils fs fs')) ∧ Below w.heap.size w w' := by
  have Hr := Lib.hid hr
  have Hr' := Lib.hid hr'
  obtain ⟨aa, ca, rfl, hl, hm⟩ := hr.len
  obtain ⟨aa', ca', rfl, hl', hm'⟩ := hr'.len
  unfold maxLen at hm hm'
  clear hr hr'
  go_enter Try.func68, Try.ntmps68
  go_wp2_with (go_at_call 106; refine (laws_eqFileS _ _ fs fs' D D' _ (Hr.out.below (by (repeat (with_reducible first | exact Below.refl _ _ | assumption | refine ba ?_ _ | refine bd ?_ | refine bdN ?_ _ | refine bs ?_ (by first | exact Nat.le_refl _ | (dsimp only; omega) | (simp; done)) _ | refine bt ?_ (by assumption))))) (Hr'.out.below (by (repeat (with_reducible first | exact Below.refl _ _ | assumption | refine ba ?_ _ | refine bd ?_ | refine bdN ?_ _ | refine bs ?_ (by first | exact Nat.le_refl _ | (dsimp only; omega) | (simp; done)) _ | refine bt ?_ (by assumption)))))).mono ?_; (rintro _ _ ⟨rfl, hb⟩; obtain ⟨hc, hf, hs⟩ := bcell hb))
  all_goals (go_ret; refine ⟨ret_bool ?_, by (repeat (with_reducible first | exact Below.refl _ _ | assumption | refine ba ?_ _ | refine bd ?_ | refine bdN ?_ _ | refine bs ?_ (by first | exact Nat.le_refl _ | (dsimp only; omega) | (simp; done)) _ | refine bt ?_ (by assumption)))⟩; simp_all)
end Go.Proofs.Ytgecemngfpgcoaa
