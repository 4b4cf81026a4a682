/- Contracts of the program's finders, behind the hooks: what one root has; what some roots have. -/
import Derived.Test.YtcmnldomcpjlcaaGreatFinder
import Derived.LoopN
import Derived.Deep.RegionWith
import Derived.Laws.EntriesVeiled
import Derived.Test.YtcmnldomcpjlcaaGreatBoth
set_option linter.unusedVariables false
set_option linter.unusedSimpArgs false
namespace Go.Proofs.YtcmnldomcpjlcaaGreat
open Go.RowKit Go.Proofs.YtcmnldomcpjlcaaGreat.Nm

theorem Nm.Boxed.free {w wr : World} {cs : Array Value} {T : TypeId} (h : Boxed w cs T wr) (i : Nat) : wr.frozen? ⟨w.heap.size, i, none⟩ = false := by
  have := h.frozen (p := ⟨w.heap.size, i, none⟩) (by simp)
  rw [this]; simp [go_sem]
theorem Nm.Boxed.free2 {w wr : World} {cs ds : Array Value} {T U : TypeId} (h : Boxed (w.alloc (.cells cs T)) ds U wr) (i : Nat) : wr.frozen? ⟨w.heap.size + 1, i, none⟩ = false := by
  have := h.free i
  simpa using this
theorem Nm.Boxed.free2' {w wr : World} {cs ds : Array Value} {T U : TypeId} (h : Boxed (w.alloc (.cells cs T)) ds U wr) (i : Nat) : wr.frozen? ⟨w.heap.size + 1, i, none⟩ = false := h.free2 i
/-! ### The hooks. -/
/-- The kinds of hooks, what each finds, and their cells. -/
inductive Hk where
  | init | mod | dir
def hkMark : Hk → Bs
  | .init => [47] | .mod => [] | .dir => [47]
def hkSpc (t : List Fil) (r : Int) (n : Bs) : Hk → Spc
  | .init => initSpc t r n | .mod => modSpc t r n | .dir => dirSpc t r n
def firstSpc (t : List Fil) (r : Int) (n : Bs) : List Hk → Spc
  | [] => noSpc
  | h :: hs => if (hkSpc t r n h).kind = 0 then firstSpc t r n hs else hkSpc t r n h
theorem firstSpc_all (t : List Fil) (r : Int) (n : Bs) : firstSpc t r n [.init, .mod, .dir] = rootSpc t r n := by
  unfold firstSpc firstSpc firstSpc firstSpc hkSpc initSpc modSpc dirSpc rootSpc
  by_cases h1 : 0 ≤ firstAt t (r, n, [], true) <;> by_cases h2 : 0 ≤ firstAt t (r, parent n, last n, false) <;> cases h3 : dirIn t r n <;> simp [h1, h2, noSpc]
theorem hkSpc_no {t : List Fil} {r : Int} {n : Bs} {h : Hk} (hk : (hkSpc t r n h).kind = 0) : hkSpc t r n h = noSpc := by
  cases h
  · by_cases h1 : 0 ≤ firstAt t (r, n, [], true)
    · simp [hkSpc, initSpc, h1] at hk
    · simp [hkSpc, initSpc, h1]
  · by_cases h1 : 0 ≤ firstAt t (r, parent n, last n, false)
    · simp [hkSpc, modSpc, h1] at hk
    · simp [hkSpc, modSpc, h1]
  · cases h1 : dirIn t r n
    · simp [hkSpc, dirSpc, h1]
    · simp [hkSpc, dirSpc, h1] at hk
def hkFn : Hk → Value
  | .init => .func (.func 223) #[] #[] | .mod => .func (.func 224) #[] #[] | .dir => .func (.func 225) #[] #[]
def hkCells (h : Hk) : List Value := [.string (mk (hkMark h)), hkFn h]
theorem hkCells_len (h : Hk) : (hkCells h).length = 2 := rfl
theorem own2 {w : World} {B e g cap n : Nat} {L : List Hk} (h : w.ownsRow B e 2 (.slice (some ⟨g, 0, none⟩) n cap) n (L.flatMap hkCells)) (i : Nat) (hi : i < L.length) :
    w.cell? ⟨g, i * 2, none⟩ = some (.string (mk (hkMark L[i]))) ∧ w.cell? ⟨g, i * 2 + 1, none⟩ = some (hkFn L[i]) := by
  have hl := fm_len hkCells 2 L hkCells_len
  have hn : (L.flatMap hkCells).length = n * 2 := h.1
  have hc : ∀ j, j < 2 → w.cell? ⟨g, i * 2 + j, none⟩ = (hkCells L[i])[j]? := fun j hj => by
    rw [h.cellAt (i * 2 + j) (by omega), fm_get hkCells 2 L i j hi hj hkCells_len]
  exact ⟨hc 0 (by omega), hc 1 (by omega)⟩
set_option maxRecDepth 100000 in
set_option maxHeartbeats 1000000 in
theorem impl_allHooks (w : World) :
    Calls Tryz.prog 222 #[] w fun e w' => ∃ v, e = .returned v ∧ w'.ownsRow w.heap.size 204 2 v 3 ([Hk.init, .mod, .dir].flatMap hkCells) ∧ Below w.heap.size w w' := by
  go_enter Tryz.func222, Tryz.ntmps222
  go_wp2_with fail
  go_ret
  exact ⟨_, rfl, World.ownsRow_lit (size := 2) w #[.string (mk [47]), .func (.func 223) #[] #[], .string (mk []), .func (.func 224) #[] #[], .string (mk [47]), .func (.func 225) #[] #[]] 3 (Nat.le_refl _) (by unfold maxLen; omega) rfl, by (repeat (with_reducible first | exact Below.refl _ _ | assumption | refine ba ?_ _ | refine bd ?_ | refine bdN ?_ _ | refine bs ?_ (by first | exact Nat.le_refl _ | (dsimp only; omega) | (simp; done)) _ | refine bt ?_ (by assumption)))⟩
theorem hook_next {t : List Fil} {r : Int} {n : Bs} {hs : List Hk} {k : Nat} (h : k < hs.length) (hf : (hkSpc t r n hs[k]).kind = 0) : firstSpc t r n (hs.drop k) = firstSpc t r n (hs.drop (k + 1)) := by
  rw [List.drop_eq_getElem_cons h]
  show (if (hkSpc t r n hs[k]).kind = 0 then _ else _) = _
  rw [if_pos hf]
theorem hook_hit {t : List Fil} {r : Int} {n : Bs} {hs : List Hk} {k : Nat} (h : k < hs.length) (hf : (hkSpc t r n hs[k]).kind ≠ 0) : firstSpc t r n (hs.drop k) = hkSpc t r n hs[k] := by
  rw [List.drop_eq_getElem_cons h]
  show (if (hkSpc t r n hs[k]).kind = 0 then _ else _) = _
  rw [if_neg hf]
set_option maxRecDepth 100000 in
set_option maxHeartbeats 4000000 in
theorem impl_firstFound (hv : Value) (hs : List Hk) (B : Nat) (v : Value) (fs : List Fil) (D : Nat → Prop) (r : Int) (n : Bs) (w : World) (ho : w.ownsRow B 204 2 hv hs.length (hs.flatMap hkCells)) (hh : hs.length ≤ 3) (hr : FilsIn w D v fs) (hz : ShortT 2000000 fs) (ht : okTree fs = true) (hn : vn n = true) :
    Calls Tryz.prog 221 #[hv, .agg #[v], .int .i64 r, .string (mk n)] w (NewSpc 3 (firstSpc fs r n hs) w) := by
  have Ho := Lib.hid ho
  have Hr := Lib.hid hr
  have Hz := Lib.hid hz
  have Ht := Lib.hid ht
  have Hn := Lib.hid hn
  obtain ⟨aa, ca, rfl, hl, hm⟩ := hr.len
  obtain ⟨ha, hc, rfl⟩ := owns_shape ho
  have Hv := Lib.hid (show firstSpc fs r n hs = firstSpc fs r n (hs.drop 0) from rfl)
  clear ho hr hl hm hz ht hn
  go_enter Tryz.func221, Tryz.ntmps221
  go_wp2_with fail
  go_loopw [14] (fun kv wr => ∃ (k : Nat), k ≤ hs.length ∧ kv = .int .i64 k ∧ firstSpc fs r n (hs.drop 0) = firstSpc fs r n (hs.drop k) ∧ Boxed2 w #[.slice aa fs.length ca] 31 #[.int .i64 0, .int .i64 0, .slice none 0 0] 63 wr) (fun kv _ => hs.length - (intOf kv).toNat)
  case atStart => exact ⟨0, by omega, rfl, rfl, Boxed2.start _ _ _ _ _⟩
  case round =>
    obtain ⟨k, hk, rfl, hgo, hbx⟩ := hrel
    have hbel := hbx.below
    have hsz := hbx.lt
    have Hbx := Lib.hid hbx
    have Hgo := Lib.hid hgo
    clear hbx hgo
    have hA : wr.cell? ⟨w.heap.size, 0, none⟩ = some (.slice aa fs.length ca) := Hbx.out.one.cell 0
    have hs0 : w.heap.size < wr.heap.size := by omega
    by_cases hlt : k < hs.length
    · have ho2 := owns_below Ho.out hbel
      obtain ⟨g, cap, e1, hg, hg2⟩ := ho2.form (by omega)
      simp only [Value.slice.injEq] at e1
      obtain ⟨rfl, _, rfl⟩ := e1
      obtain ⟨m0, m1⟩ := own2 ho2 k hlt
      have Hnx := Lib.hid (fun h => hook_next (t := fs) (r := r) (n := n) hlt h)
      have Hht := Lib.hid (fun h => hook_hit (t := fs) (r := r) (n := n) hlt h)
      have Hno := Lib.hid (fun (h : (hkSpc fs r n (hs[k]'hlt)).kind = 0) => hkSpc_no h)
      obtain ⟨h0, hh0⟩ : ∃ h0, h0 = hs[k] := ⟨_, rfl⟩
      rw [← hh0] at m0 m1 Hnx Hht Hno
      clear hh0 ho2
      obtain ⟨sp, hsp⟩ : ∃ sp, sp = hkSpc fs r n h0 := ⟨_, rfl⟩
      rw [← hsp] at Hnx Hht Hno
      have Hsp := Lib.hid hsp
      clear hsp
      obtain ⟨sk, sf, sr⟩ := sp
      dsimp only at Hnx Hht Hno
      obtain ⟨mk0, hmk0⟩ : ∃ q, q = hkMark h0 := ⟨_, rfl⟩
      rw [← hmk0] at m0
      clear hmk0
      by_cases hsk : sk = 0
      · subst hsk
        have Hn2 := Lib.hid (Hnx.out rfl)
        clear Hht Hno
        cases h0 <;> dsimp only [hkFn] at m1
        · go_wp2_with fail
          refine (impl_findInit _ fs D r n _ (Hr.out.below (by have := hbel; (repeat (with_reducible first | exact Below.refl _ _ | assumption | refine ba ?_ _ | refine bd ?_ | refine bdN ?_ _ | refine bs ?_ (by first | exact Nat.le_refl _ | (dsimp only; omega) | (simp; done)) _ | refine bt ?_ (by assumption)))))).mono ?_
          rintro _ w5 ⟨v5, rfl, hown5, hb5⟩
          have hsp := Hsp.out
          dsimp only [hkSpc] at hsp
          rw [← hsp]
          rw [← hsp] at hown5
          dsimp only at hown5 ⊢
          clear hsp
          obtain ⟨a5, c5, hv5⟩ := owns_shape hown5
          subst hv5
          have Hx5 := Lib.hid (Hbx.out.step (show Below wr.heap.size wr w5 by (repeat (with_reducible first | exact Below.refl _ _ | assumption | refine ba ?_ _ | refine bd ?_ | refine bdN ?_ _ | refine bs ?_ (by first | exact Nat.le_refl _ | (dsimp only; omega) | (simp; done)) _ | refine bt ?_ (by assumption)))))
          clear hown5
          go_wp2_with fail
          go_roundw
          case rel => exact ⟨k + 1, by omega, by go_num, by rw [Hgo.out, Hn2.out], by have h := Hx5.out; first | exact h | exact h.step (by (repeat (with_reducible first | exact Below.refl _ _ | assumption | refine ba ?_ _ | refine bd ?_ | refine bdN ?_ _ | refine bs ?_ (by first | exact Nat.le_refl _ | (dsimp only; omega) | (simp; done)) _ | refine bt ?_ (by assumption))))⟩
          case measure => simp [intOf]; omega
        · go_wp2_with fail
          refine (impl_findModule _ fs D r n _ (Hr.out.below (by have := hbel; (repeat (with_reducible first | exact Below.refl _ _ | assumption | refine ba ?_ _ | refine bd ?_ | refine bdN ?_ _ | refine bs ?_ (by first | exact Nat.le_refl _ | (dsimp only; omega) | (simp; done)) _ | refine bt ?_ (by assumption))))) Hn.out).mono ?_
          rintro _ w5 ⟨v5, rfl, hown5, hb5⟩
          have hsp := Hsp.out
          dsimp only [hkSpc] at hsp
          rw [← hsp]
          rw [← hsp] at hown5
          dsimp only at hown5 ⊢
          clear hsp
          obtain ⟨a5, c5, hv5⟩ := owns_shape hown5
          subst hv5
          have Hx5 := Lib.hid (Hbx.out.step (show Below wr.heap.size wr w5 by (repeat (with_reducible first | exact Below.refl _ _ | assumption | refine ba ?_ _ | refine bd ?_ | refine bdN ?_ _ | refine bs ?_ (by first | exact Nat.le_refl _ | (dsimp only; omega) | (simp; done)) _ | refine bt ?_ (by assumption)))))
          clear hown5
          go_wp2_with fail
          go_roundw
          case rel => exact ⟨k + 1, by omega, by go_num, by rw [Hgo.out, Hn2.out], by have h := Hx5.out; first | exact h | exact h.step (by (repeat (with_reducible first | exact Below.refl _ _ | assumption | refine ba ?_ _ | refine bd ?_ | refine bdN ?_ _ | refine bs ?_ (by first | exact Nat.le_refl _ | (dsimp only; omega) | (simp; done)) _ | refine bt ?_ (by assumption))))⟩
          case measure => simp [intOf]; omega
        · go_wp2_with fail
          refine (impl_findDir _ fs D r n _ (Hr.out.below (by have := hbel; (repeat (with_reducible first | exact Below.refl _ _ | assumption | refine ba ?_ _ | refine bd ?_ | refine bdN ?_ _ | refine bs ?_ (by first | exact Nat.le_refl _ | (dsimp only; omega) | (simp; done)) _ | refine bt ?_ (by assumption))))) Hz.out Ht.out Hn.out).mono ?_
          rintro _ w5 ⟨v5, rfl, hown5, hb5⟩
          have hsp := Hsp.out
          dsimp only [hkSpc] at hsp
          rw [← hsp]
          rw [← hsp] at hown5
          dsimp only at hown5 ⊢
          clear hsp
          obtain ⟨a5, c5, hv5⟩ := owns_shape hown5
          subst hv5
          have Hx5 := Lib.hid (Hbx.out.step (show Below wr.heap.size wr w5 by (repeat (with_reducible first | exact Below.refl _ _ | assumption | refine ba ?_ _ | refine bd ?_ | refine bdN ?_ _ | refine bs ?_ (by first | exact Nat.le_refl _ | (dsimp only; omega) | (simp; done)) _ | refine bt ?_ (by assumption)))))
          clear hown5
          go_wp2_with fail
          go_roundw
          case rel => exact ⟨k + 1, by omega, by go_num, by rw [Hgo.out, Hn2.out], by have h := Hx5.out; first | exact h | exact h.step (by (repeat (with_reducible first | exact Below.refl _ _ | assumption | refine ba ?_ _ | refine bd ?_ | refine bdN ?_ _ | refine bs ?_ (by first | exact Nat.le_refl _ | (dsimp only; omega) | (simp; done)) _ | refine bt ?_ (by assumption))))⟩
          case measure => simp [intOf]; omega
      · have Hn2 := Lib.hid (Hht.out hsk)
        have hneq : (sk == 0) = false := by rw [beq_eq_false_iff_ne]; exact hsk
        clear hsk Hht Hno Hnx
        cases h0 <;> dsimp only [hkFn] at m1
        · go_wp2_with fail
          refine (impl_findInit _ fs D r n _ (Hr.out.below (by have := hbel; (repeat (with_reducible first | exact Below.refl _ _ | assumption | refine ba ?_ _ | refine bd ?_ | refine bdN ?_ _ | refine bs ?_ (by first | exact Nat.le_refl _ | (dsimp only; omega) | (simp; done)) _ | refine bt ?_ (by assumption)))))).mono ?_
          rintro _ w5 ⟨v5, rfl, hown5, hb5⟩
          have hsp := Hsp.out
          dsimp only [hkSpc] at hsp
          rw [← hsp]
          rw [← hsp] at hown5
          dsimp only at hown5 ⊢
          obtain ⟨a5, c5, hv5⟩ := owns_shape hown5
          subst hv5
          have Hown5 := Lib.hid hown5
          have Hx5 := Lib.hid (Hbx.out.step (show Below wr.heap.size wr w5 by (repeat (with_reducible first | exact Below.refl _ _ | assumption | refine ba ?_ _ | refine bd ?_ | refine bdN ?_ _ | refine bs ?_ (by first | exact Nat.le_refl _ | (dsimp only; omega) | (simp; done)) _ | refine bt ?_ (by assumption)))))
          have hlow : w.heap.size ≤ wr.heap.size := by omega
          have Hz5 := Lib.hid (show w.heap.size + 2 ≤ w5.heap.size by have := Hx5.out.lt; omega)
          have hq := Hx5.out.lt
          have q0 : w5.cell? ⟨w.heap.size + 1, 0, none⟩ = some (.int .i64 0) := Hx5.out.cell 0
          have q1 : w5.cell? ⟨w.heap.size + 1, 1, none⟩ = some (.int .i64 0) := Hx5.out.cell 1
          have q2 : w5.cell? ⟨w.heap.size + 1, 2, none⟩ = some (.slice none 0 0) := Hx5.out.cell 2
          have f0 := Hx5.out.two.free2' 0
          have f1 := Hx5.out.two.free2' 1
          have f2 := Hx5.out.two.free2' 2
          clear hown5 hsp
          go_wp2_with fail
          refine bodyPost_ret (v := .agg #[.int .i64 sk, .int .i64 sf, .slice a5 sr.length c5]) (by simp [results, Tryz.results221, go_sem, *]) rfl ?_
          rw [Hv.out, Hgo.out, Hn2.out]
          have hbw := Hx5.out.below
          refine ⟨_, rfl, ?_, by (repeat (with_reducible first | exact Below.refl _ _ | assumption | refine ba ?_ _ | refine bd ?_ | refine bdN ?_ _ | refine bs ?_ (by first | exact Nat.le_refl _ | (dsimp only; omega) | (simp; done)) _ | refine bt ?_ (by assumption)))⟩
          refine owns_mono (B := w.heap.size + 2) ?_ (by omega)
          (repeat (with_reducible first | refine World.ownsRow.alloc ?_ _ | refine owns_set_low ?_ (by first | (dsimp only; omega) | (simp; done) | (simp; omega)) _))
          exact owns_mono Hown5.out (by first | omega | (simp; omega))
        · go_wp2_with fail
          refine (impl_findModule _ fs D r n _ (Hr.out.below (by have := hbel; (repeat (with_reducible first | exact Below.refl _ _ | assumption | refine ba ?_ _ | refine bd ?_ | refine bdN ?_ _ | refine bs ?_ (by first | exact Nat.le_refl _ | (dsimp only; omega) | (simp; done)) _ | refine bt ?_ (by assumption))))) Hn.out).mono ?_
          rintro _ w5 ⟨v5, rfl, hown5, hb5⟩
          have hsp := Hsp.out
          dsimp only [hkSpc] at hsp
          rw [← hsp]
          rw [← hsp] at hown5
          dsimp only at hown5 ⊢
          obtain ⟨a5, c5, hv5⟩ := owns_shape hown5
          subst hv5
          have Hown5 := Lib.hid hown5
          have Hx5 := Lib.hid (Hbx.out.step (show Below wr.heap.size wr w5 by (repeat (with_reducible first | exact Below.refl _ _ | assumption | refine ba ?_ _ | refine bd ?_ | refine bdN ?_ _ | refine bs ?_ (by first | exact Nat.le_refl _ | (dsimp only; omega) | (simp; done)) _ | refine bt ?_ (by assumption)))))
          have hlow : w.heap.size ≤ wr.heap.size := by omega
          have Hz5 := Lib.hid (show w.heap.size + 2 ≤ w5.heap.size by have := Hx5.out.lt; omega)
          have hq := Hx5.out.lt
          have q0 : w5.cell? ⟨w.heap.size + 1, 0, none⟩ = some (.int .i64 0) := Hx5.out.cell 0
          have q1 : w5.cell? ⟨w.heap.size + 1, 1, none⟩ = some (.int .i64 0) := Hx5.out.cell 1
          have q2 : w5.cell? ⟨w.heap.size + 1, 2, none⟩ = some (.slice none 0 0) := Hx5.out.cell 2
          have f0 := Hx5.out.two.free2' 0
          have f1 := Hx5.out.two.free2' 1
          have f2 := Hx5.out.two.free2' 2
          clear hown5 hsp
          go_wp2_with fail
          refine bodyPost_ret (v := .agg #[.int .i64 sk, .int .i64 sf, .slice a5 sr.length c5]) (by simp [results, Tryz.results221, go_sem, *]) rfl ?_
          rw [Hv.out, Hgo.out, Hn2.out]
          have hbw := Hx5.out.below
          refine ⟨_, rfl, ?_, by (repeat (with_reducible first | exact Below.refl _ _ | assumption | refine ba ?_ _ | refine bd ?_ | refine bdN ?_ _ | refine bs ?_ (by first | exact Nat.le_refl _ | (dsimp only; omega) | (simp; done)) _ | refine bt ?_ (by assumption)))⟩
          refine owns_mono (B := w.heap.size + 2) ?_ (by omega)
          (repeat (with_reducible first | refine World.ownsRow.alloc ?_ _ | refine owns_set_low ?_ (by first | (dsimp only; omega) | (simp; done) | (simp; omega)) _))
          exact owns_mono Hown5.out (by first | omega | (simp; omega))
        · go_wp2_with fail
          refine (impl_findDir _ fs D r n _ (Hr.out.below (by have := hbel; (repeat (with_reducible first | exact Below.refl _ _ | assumption | refine ba ?_ _ | refine bd ?_ | refine bdN ?_ _ | refine bs ?_ (by first | exact Nat.le_refl _ | (dsimp only; omega) | (simp; done)) _ | refine bt ?_ (by assumption))))) Hz.out Ht.out Hn.out).mono ?_
          rintro _ w5 ⟨v5, rfl, hown5, hb5⟩
          have hsp := Hsp.out
          dsimp only [hkSpc] at hsp
          rw [← hsp]
          rw [← hsp] at hown5
          dsimp only at hown5 ⊢
          obtain ⟨a5, c5, hv5⟩ := owns_shape hown5
          subst hv5
          have Hown5 := Lib.hid hown5
          have Hx5 := Lib.hid (Hbx.out.step (show Below wr.heap.size wr w5 by (repeat (with_reducible first | exact Below.refl _ _ | assumption | refine ba ?_ _ | refine bd ?_ | refine bdN ?_ _ | refine bs ?_ (by first | exact Nat.le_refl _ | (dsimp only; omega) | (simp; done)) _ | refine bt ?_ (by assumption)))))
          have hlow : w.heap.size ≤ wr.heap.size := by omega
          have Hz5 := Lib.hid (show w.heap.size + 2 ≤ w5.heap.size by have := Hx5.out.lt; omega)
          have hq := Hx5.out.lt
          have q0 : w5.cell? ⟨w.heap.size + 1, 0, none⟩ = some (.int .i64 0) := Hx5.out.cell 0
          have q1 : w5.cell? ⟨w.heap.size + 1, 1, none⟩ = some (.int .i64 0) := Hx5.out.cell 1
          have q2 : w5.cell? ⟨w.heap.size + 1, 2, none⟩ = some (.slice none 0 0) := Hx5.out.cell 2
          have f0 := Hx5.out.two.free2' 0
          have f1 := Hx5.out.two.free2' 1
          have f2 := Hx5.out.two.free2' 2
          clear hown5 hsp
          go_wp2_with fail
          refine bodyPost_ret (v := .agg #[.int .i64 sk, .int .i64 sf, .slice a5 sr.length c5]) (by simp [results, Tryz.results221, go_sem, *]) rfl ?_
          rw [Hv.out, Hgo.out, Hn2.out]
          have hbw := Hx5.out.below
          refine ⟨_, rfl, ?_, by (repeat (with_reducible first | exact Below.refl _ _ | assumption | refine ba ?_ _ | refine bd ?_ | refine bdN ?_ _ | refine bs ?_ (by first | exact Nat.le_refl _ | (dsimp only; omega) | (simp; done)) _ | refine bt ?_ (by assumption)))⟩
          refine owns_mono (B := w.heap.size + 2) ?_ (by omega)
          (repeat (with_reducible first | refine World.ownsRow.alloc ?_ _ | refine owns_set_low ?_ (by first | (dsimp only; omega) | (simp; done) | (simp; omega)) _))
          exact owns_mono Hown5.out (by first | omega | (simp; omega))
    · obtain rfl : k = hs.length := by omega
      have Hg2 := Lib.hid (show firstSpc fs r n hs = noSpc by rw [Hv.out, Hgo.out, List.drop_length]; rfl)
      have q0 : wr.cell? ⟨w.heap.size + 1, 0, none⟩ = some (.int .i64 0) := Hbx.out.cell 0
      have q1 : wr.cell? ⟨w.heap.size + 1, 1, none⟩ = some (.int .i64 0) := Hbx.out.cell 1
      have q2 : wr.cell? ⟨w.heap.size + 1, 2, none⟩ = some (.slice none 0 0) := Hbx.out.cell 2
      have f0 := Hbx.out.two.free2' 0
      have f1 := Hbx.out.two.free2' 1
      have f2 := Hbx.out.two.free2' 2
      go_wp2_with (go_at_call 133; refine (impl_nothing _).mono ?_; rintro _ w5 ⟨rfl, hb5⟩; have Hx5 := Lib.hid (Hbx.out.step hb5); clear q0 q1 q2 f0 f1 f2 hb5; have q0 : w5.cell? ⟨w.heap.size + 1, 0, none⟩ = some (.int .i64 0) := Hx5.out.cell 0; have q1 : w5.cell? ⟨w.heap.size + 1, 1, none⟩ = some (.int .i64 0) := Hx5.out.cell 1; have q2 : w5.cell? ⟨w.heap.size + 1, 2, none⟩ = some (.slice none 0 0) := Hx5.out.cell 2; have f0 := Hx5.out.two.free2' 0; have f1 := Hx5.out.two.free2' 1; have f2 := Hx5.out.two.free2' 2; have s5 := Hx5.out.lt)
      have hbw := Hx5.out.below
      exact bodyPost_ret (v := .agg #[.int .i64 0, .int .i64 (-1), .slice none 0 0]) (by simp [results, Tryz.results221, go_sem, *]) rfl (noSpc_new Hg2.out (by (repeat (with_reducible first | exact Below.refl _ _ | assumption | refine ba ?_ _ | refine bd ?_ | refine bdN ?_ _ | refine bs ?_ (by first | exact Nat.le_refl _ | (dsimp only; omega) | (simp; done)) _ | refine bt ?_ (by assumption)))))
set_option maxRecDepth 100000 in
set_option maxHeartbeats 2000000 in
theorem impl_findInRoot (v : Value) (fs : List Fil) (D : Nat → Prop) (r : Int) (n : Bs) (w : World) (hr : FilsIn w D v fs) (hz : ShortT 2000000 fs) (ht : okTree fs = true) (hn : vn n = true) :
    Calls Tryz.prog 220 #[.agg #[v], .int .i64 r, .string (mk n)] w (NewSpc 3 (rootSpc fs r n) w) := by
  have Hr := Lib.hid hr
  have Hz := Lib.hid hz
  have Ht := Lib.hid ht
  have Hn := Lib.hid hn
  have He := Lib.hid (firstSpc_all fs r n)
  obtain ⟨aa, ca, rfl, hl, hm⟩ := hr.len
  clear hr hl hm hz ht hn
  go_enter Tryz.func220, Tryz.ntmps220
  go_wp2_with fail
  go_region_with (first
    | (go_at_call 222; refine (impl_allHooks _).mono ?_; rintro _ w5 ⟨v5, rfl, hown5, hb5⟩; have Hx5 := Lib.hid (show Boxed2 w #[.slice aa fs.length ca] 98 #[.int .i64 0, .int .i64 0, .slice none 0 0] 63 w5 by unfold Boxed2; (repeat (with_reducible first | exact Below.refl _ _ | assumption | refine ba ?_ _ | refine bd ?_ | refine bdN ?_ _ | refine bs ?_ (by first | exact Nat.le_refl _ | (dsimp only; omega) | (simp; done)) _ | refine bt ?_ (by assumption)))); have a0 : w5.cell? ⟨w.heap.size, 0, none⟩ = some (.slice aa fs.length ca) := Hx5.out.one.cell 0; have Hown5 := Lib.hid hown5; have s5 := Hx5.out.lt; clear hown5)
    | (go_at_call 221; refine (impl_firstFound _ [Hk.init, .mod, .dir] _ _ fs D r n _ (owns_below Hown5.out (by (repeat (with_reducible first | exact Below.refl _ _ | assumption | refine ba ?_ _ | refine bd ?_ | refine bdN ?_ _ | refine bs ?_ (by first | exact Nat.le_refl _ | (dsimp only; omega) | (simp; done)) _ | refine bt ?_ (by assumption))))) (Nat.le_refl _) (Hr.out.below (bt Hx5.out.below (by (repeat (with_reducible first | exact Below.refl _ _ | assumption | refine ba ?_ _ | refine bd ?_ | refine bdN ?_ _ | refine bs ?_ (by first | exact Nat.le_refl _ | (dsimp only; omega) | (simp; done)) _ | refine bt ?_ (by assumption)))))) Hz.out Ht.out Hn.out).mono ?_; rintro _ w6 ⟨v6, rfl, hown6, hb6⟩; rw [He.out]; rw [He.out] at hown6; obtain ⟨a6, c6, hv6⟩ := owns_shape hown6; subst hv6; have Hown6 := Lib.hid hown6; have Hx6 := Lib.hid (Hx5.out.step (show Below w5.heap.size w5 w6 by (repeat (with_reducible first | exact Below.refl _ _ | assumption | refine ba ?_ _ | refine bd ?_ | refine bdN ?_ _ | refine bs ?_ (by first | exact Nat.le_refl _ | (dsimp only; omega) | (simp; done)) _ | refine bt ?_ (by assumption))))); clear hown6 a0 s5; have q0 : w6.cell? ⟨w.heap.size + 1, 0, none⟩ = some (.int .i64 0) := Hx6.out.cell 0; have q1 : w6.cell? ⟨w.heap.size + 1, 1, none⟩ = some (.int .i64 0) := Hx6.out.cell 1; have q2 : w6.cell? ⟨w.heap.size + 1, 2, none⟩ = some (.slice none 0 0) := Hx6.out.cell 2; have f0 := Hx6.out.two.free2' 0; have f1 := Hx6.out.two.free2' 1; have f2 := Hx6.out.two.free2' 2; have s6 := Hx6.out.lt))
  all_goals
    go_wp2_with fail
    have hz5 := Hx5.out.lt
    refine bodyPost_ret (v := .agg #[.int .i64 (rootSpc fs r n).kind, .int .i64 (rootSpc fs r n).file, .slice a6 (rootSpc fs r n).roots.length c6]) (by simp [results, Tryz.results220, go_sem, *]) rfl ?_
    have hbw := Hx6.out.below
    refine ⟨_, rfl, ?_, by (repeat (with_reducible first | exact Below.refl _ _ | assumption | refine ba ?_ _ | refine bd ?_ | refine bdN ?_ _ | refine bs ?_ (by first | exact Nat.le_refl _ | (dsimp only; omega) | (simp; done)) _ | refine bt ?_ (by assumption)))⟩
    refine owns_mono (B := w.heap.size + 2) ?_ (by omega)
    (repeat (with_reducible first | refine World.ownsRow.alloc ?_ _ | refine owns_set_low ?_ (by first | (dsimp only; omega) | (simp; done) | (simp; omega)) _))
    exact owns_mono Hown6.out (by first | omega | (simp; omega))

/-! ### Contracts of the program's finders: what some roots have. -/
theorem int_one (xs : List Int) : ∀ u ∈ xs.map iv, u.oneCell' = true := fun x hx => by obtain ⟨y, _, rfl⟩ := List.mem_map.1 hx; rfl
theorem over_next {t : List Fil} {n : Bs} {rs : List Int} {ds : List Int} {k : Nat} (h : k < rs.length) (hf : (rootSpc t rs[k] n).file = -1) : overGo t n (rs.drop k) ds = overGo t n (rs.drop (k + 1)) (ds ++ (rootSpc t rs[k] n).roots) := by
  rw [List.drop_eq_getElem_cons h]
  show (if (rootSpc t rs[k] n).file = -1 then _ else _) = _
  rw [if_pos hf]
theorem over_hit {t : List Fil} {n : Bs} {rs : List Int} {ds : List Int} {k : Nat} (h : k < rs.length) (hf : (rootSpc t rs[k] n).file ≠ -1) : overGo t n (rs.drop k) ds = rootSpc t rs[k] n := by
  rw [List.drop_eq_getElem_cons h]
  show (if (rootSpc t rs[k] n).file = -1 then _ else _) = _
  rw [if_neg hf]
set_option maxRecDepth 100000 in
set_option maxHeartbeats 2000000 in
theorem impl_findOver (v : Value) (fs : List Fil) (D : Nat → Prop) (pv : Value) (path : List Int) (n : Bs) (w : World) (hr : FilsIn w D v fs) (hz : ShortT 2000000 fs) (ht : okTree fs = true) (hn : vn n = true) (hp : IntsIn w pv path) (hpl : path.length ≤ 100) :
    Calls Tryz.prog 149 #[.iface 98 (.agg #[v]), pv, .string (mk n)] w (NewSpc 3 (overSpc fs path n) w) := by
  obtain ⟨i0, hi, hz0, hz1, hz2⟩ := info_parts infoI
  have Hi := Lib.hid hi
  have Hz0 := Lib.hid hz0
  have Hz1 := Lib.hid hz1
  have Hz2 := Lib.hid hz2
  have Hr := Lib.hid hr
  have Hz := Lib.hid hz
  have Ht := Lib.hid ht
  have Hn := Lib.hid hn
  have Hp := Lib.hid hp
  obtain ⟨aa, ca, rfl, hl, hm⟩ := hr.len
  obtain ⟨pa, pc, rfl, hpl1, hpm⟩ := hp.len
  have Hv := Lib.hid (show overSpc fs path n = overGo fs n path [] from rfl)
  clear hr hl hm hz ht hn hp hi hz0 hz1 hz2
  unfold maxLen at hpm
  have hme : ∀ w : World, (method 310 98 (.agg #[.slice aa fs.length ca]) "loop.example/importhouse/impl.findInRoot").run Tryz.prog w = .ok (220, .agg #[.slice aa fs.length ca]) w := fun _ => by kernel_rfl
  go_enter Tryz.func149, Tryz.ntmps149
  go_wp2_with fail
  go_loopw [7, 13] (fun dv kv wr => ∃ (k : Nat) (ds : List Int), k ≤ path.length ∧ kv = .int .i64 k ∧ ds.length ≤ k ∧ overGo fs n path [] = overGo fs n (path.drop k) ds ∧ wr.ownsRow (w.heap.size + 1) 3 1 dv ds.length (ds.map iv) ∧ Boxed w #[.int .i64 0, .int .i64 0, .slice none 0 0] 63 wr) (fun _ kv _ => path.length - (intOf kv).toNat)
  case atStart => exact ⟨0, [], by omega, rfl, by simp, rfl, World.ownsRow_nil _ _ _ _, Boxed.start _ _ _⟩
  case round =>
    obtain ⟨k, ds, hk, rfl, hdl, hgo, hown, hbx⟩ := hrel
    have hbel := hbx.below
    have hsz := hbx.lt
    have Hown := Lib.hid hown
    have Hbx := Lib.hid hbx
    have Hgo := Lib.hid hgo
    clear hown hbx hgo
    by_cases hlt : k < path.length
    · obtain ⟨b, off, cap, e, hb, hc⟩ := (Hp.out.below hbel).at_ hlt
      simp only [Value.slice.injEq] at e
      obtain ⟨rfl, _, rfl⟩ := e
      have Hnx := Lib.hid (fun h => over_next (t := fs) (n := n) (rs := path) (ds := ds) hlt h)
      have Hht := Lib.hid (fun h => over_hit (t := fs) (n := n) (rs := path) (ds := ds) hlt h)
      have hrl := (rootSpc_file (t := fs) (r := path[k]) (n := n)).2
      have hrf := (rootSpc_file (t := fs) (r := path[k]) (n := n)).1
      obtain ⟨r, hr⟩ : ∃ r, r = path[k] := ⟨_, rfl⟩
      rw [← hr] at hc Hnx Hht hrl hrf
      clear hr
      obtain ⟨sp, hsp⟩ : ∃ sp, sp = rootSpc fs r n := ⟨_, rfl⟩
      rw [← hsp] at Hnx Hht hrl hrf
      have Hsp := Lib.hid hsp
      clear hsp
      obtain ⟨sk, sf, sr⟩ := sp
      dsimp only at hrl hrf
      have q0 := Hbx.out.cell 0
      have q1 := Hbx.out.cell 1
      have q2 := Hbx.out.cell 2
      have f0 := Hbx.out.free 0
      have f1 := Hbx.out.free 1
      have f2 := Hbx.out.free 2
      by_cases hsf : sf = -1
      · subst hsf
        have Hn2 := Lib.hid (Hnx.out rfl)
        clear hrf q0 q1 q2 f0 f1 f2
        go_wp2_with (first
          | (go_at_call 220; refine (impl_findInRoot _ fs D r n _ (Hr.out.below (by (repeat (with_reducible first | exact Below.refl _ _ | assumption | refine ba ?_ _ | refine bd ?_ | refine bdN ?_ _ | refine bs ?_ (by first | exact Nat.le_refl _ | (dsimp only; omega) | (simp; done)) _ | refine bt ?_ (by assumption))))) Hz.out Ht.out Hn.out).mono ?_; rintro _ w5 ⟨v5, rfl, hown5, hb5⟩; rw [← Hsp.out]; rw [← Hsp.out] at hown5; dsimp only at hown5 ⊢; obtain ⟨a5, c5, hv5⟩ := owns_shape hown5; subst hv5; have Hown5 := Lib.hid hown5; have Hb5 := Lib.hid (show Below wr.heap.size wr w5 by (repeat (with_reducible first | exact Below.refl _ _ | assumption | refine ba ?_ _ | refine bd ?_ | refine bdN ?_ _ | refine bs ?_ (by first | exact Nat.le_refl _ | (dsimp only; omega) | (simp; done)) _ | refine bt ?_ (by assumption)))); obtain ⟨hcc, hff, hss⟩ := bcell hb5; clear hown5)
          | (at_builtin; refine wpList_append_both rfl _ _ 25 rfl (w.heap.size + 1) 3 i0 (.int .i64 0) 1 8 Tryz.underlying25 Hi.out Hz0.out Hz1.out Hz2.out rfl (by decide) _ ds.length _ rfl ((owns_below Hown.out Hb5.out).alloc _) _ _ sr.length _ rfl (Hown5.out.alloc _) (int_one _) (by unfold maxLen; omega) (by omega) (by have := Hb5.out.size; simp; omega) ?_; intro v7 w7 hown7 hgrow7))
        have Hb6 := Lib.hid (show Below wr.heap.size wr (w5.alloc (.cells #[.int .i64 sk, .int .i64 (-1), .slice a5 sr.length c5] 63)) from ba Hb5.out _)
        have Hx7 := Lib.hid (below_first Hbx.out Hb6.out hgrow7 (fun g hg => (Hown.out.lt g hg).1))
        have Hown7 := Lib.hid (show w7.ownsRow (w.heap.size + 1) 3 1 v7 (ds ++ sr).length ((ds ++ sr).map iv) by rw [List.length_append, List.map_append]; exact hown7)
        clear hown7 hgrow7
        go_roundw
        case rel => exact ⟨k + 1, ds ++ sr, by omega, by go_num, by rw [List.length_append]; omega, by rw [Hgo.out, Hn2.out], Hown7.out, Hx7.out⟩
        case measure => simp [intOf]; omega
      · have Hh := Lib.hid (Hht.out hsf)
        have hneq : (sf == -1) = false := by rw [beq_eq_false_iff_ne]; exact hsf
        clear hsf
        go_wp2_with (go_at_call 220; refine (impl_findInRoot _ fs D r n _ (Hr.out.below (by (repeat (with_reducible first | exact Below.refl _ _ | assumption | refine ba ?_ _ | refine bd ?_ | refine bdN ?_ _ | refine bs ?_ (by first | exact Nat.le_refl _ | (dsimp only; omega) | (simp; done)) _ | refine bt ?_ (by assumption))))) Hz.out Ht.out Hn.out).mono ?_; rintro _ w5 ⟨v5, rfl, hown5, hb5⟩; rw [← Hsp.out]; rw [← Hsp.out] at hown5; dsimp only at hown5 ⊢; obtain ⟨a5, c5, hv5⟩ := owns_shape hown5; subst hv5; have Hown5 := Lib.hid hown5; have Hb5 := Lib.hid (show Below wr.heap.size wr w5 by (repeat (with_reducible first | exact Below.refl _ _ | assumption | refine ba ?_ _ | refine bd ?_ | refine bdN ?_ _ | refine bs ?_ (by first | exact Nat.le_refl _ | (dsimp only; omega) | (simp; done)) _ | refine bt ?_ (by assumption)))); have Hx5 := Lib.hid (Hbx.out.step Hb5.out); clear q0 q1 q2 f0 f1 f2 hown5 hb5; have q0 : w5.cell? ⟨w.heap.size, 0, none⟩ = some (.int .i64 0) := Hx5.out.cell 0; have q1 : w5.cell? ⟨w.heap.size, 1, none⟩ = some (.int .i64 0) := Hx5.out.cell 1; have q2 : w5.cell? ⟨w.heap.size, 2, none⟩ = some (.slice none 0 0) := Hx5.out.cell 2; have f0 := Hx5.out.free 0; have f1 := Hx5.out.free 1; have f2 := Hx5.out.free 2; have s5 := Hx5.out.lt)
        refine bodyPost_ret (v := .agg #[.int .i64 sk, .int .i64 sf, .slice a5 sr.length c5]) (by simp [results, Tryz.results149, go_sem, *]) rfl ?_
        rw [Hv.out, Hgo.out, Hh.out]
        have hbw := Hx5.out.below
        refine ⟨_, rfl, ?_, by (repeat (with_reducible first | exact Below.refl _ _ | assumption | refine ba ?_ _ | refine bd ?_ | refine bdN ?_ _ | refine bs ?_ (by first | exact Nat.le_refl _ | (dsimp only; omega) | (simp; done)) _ | refine bt ?_ (by assumption)))⟩
        refine owns_mono (B := w.heap.size + 1) ?_ (by omega)
        (repeat (with_reducible first | refine World.ownsRow.alloc ?_ _ | refine owns_set_low ?_ (by first | (dsimp only; omega) | (simp; done) | (simp; omega)) _))
        exact owns_mono Hown5.out (by first | omega | (simp; omega))
    · obtain rfl : k = path.length := by omega
      have Hg2 := Lib.hid (show overGo fs n path [] = if ds = [] then noSpc else ⟨3, -1, ds⟩ by rw [Hgo.out, List.drop_length]; rfl)
      have q0 : wr.cell? ⟨w.heap.size, 0, none⟩ = some (.int .i64 0) := Hbx.out.cell 0
      have q1 : wr.cell? ⟨w.heap.size, 1, none⟩ = some (.int .i64 0) := Hbx.out.cell 1
      have q2 : wr.cell? ⟨w.heap.size, 2, none⟩ = some (.slice none 0 0) := Hbx.out.cell 2
      have f0 := Hbx.out.free 0
      have f1 := Hbx.out.free 1
      have f2 := Hbx.out.free 2
      obtain ⟨a6, c6, hv6⟩ := owns_shape Hown.out
      subst hv6
      by_cases hd : ds = []
      · subst hd
        have Hg3 := Lib.hid (show overGo fs n path [] = noSpc by rw [Hg2.out]; rfl)
        go_wp2_with (go_at_call 133; refine (impl_nothing _).mono ?_; rintro _ w5 ⟨rfl, hb5⟩; have Hx5 := Lib.hid (Hbx.out.step hb5); clear q0 q1 q2 f0 f1 f2 hb5; have q0 : w5.cell? ⟨w.heap.size, 0, none⟩ = some (.int .i64 0) := Hx5.out.cell 0; have q1 : w5.cell? ⟨w.heap.size, 1, none⟩ = some (.int .i64 0) := Hx5.out.cell 1; have q2 : w5.cell? ⟨w.heap.size, 2, none⟩ = some (.slice none 0 0) := Hx5.out.cell 2; have f0 := Hx5.out.free 0; have f1 := Hx5.out.free 1; have f2 := Hx5.out.free 2; have s5 := Hx5.out.lt)
        have hbw := Hx5.out.below
        exact bodyPost_ret (v := .agg #[.int .i64 0, .int .i64 (-1), .slice none 0 0]) (by simp [results, Tryz.results149, go_sem, *]) rfl (noSpc_new (by rw [Hv.out, Hg3.out]) (by (repeat (with_reducible first | exact Below.refl _ _ | assumption | refine ba ?_ _ | refine bd ?_ | refine bdN ?_ _ | refine bs ?_ (by first | exact Nat.le_refl _ | (dsimp only; omega) | (simp; done)) _ | refine bt ?_ (by assumption)))))
      · have Hg3 := Lib.hid (show overGo fs n path [] = ⟨3, -1, ds⟩ by rw [Hg2.out, if_neg hd])
        have hdn : ((ds.length : Int) == 0) = false := by rw [beq_eq_false_iff_ne]; have := List.length_pos_iff.2 hd; omega
        clear hd
        go_wp2_with fail
        refine bodyPost_ret (v := .agg #[.int .i64 3, .int .i64 (-1), .slice a6 ds.length c6]) (by simp [results, Tryz.results149, go_sem, *]) rfl ?_
        rw [Hv.out, Hg3.out]
        refine ⟨_, rfl, ?_, by (repeat (with_reducible first | exact Below.refl _ _ | assumption | refine ba ?_ _ | refine bd ?_ | refine bdN ?_ _ | refine bs ?_ (by first | exact Nat.le_refl _ | (dsimp only; omega) | (simp; done)) _ | refine bt ?_ (by assumption)))⟩
        refine owns_mono (B := w.heap.size + 1) ?_ (by omega)
        (repeat (with_reducible first | refine World.ownsRow.alloc ?_ _ | refine owns_set_low ?_ (by first | (dsimp only; omega) | (simp; done) | (simp; omega)) _))
        exact Hown.out
end Go.Proofs.YtcmnldomcpjlcaaGreat
