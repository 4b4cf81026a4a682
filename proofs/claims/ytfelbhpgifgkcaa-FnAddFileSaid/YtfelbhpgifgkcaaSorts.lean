/- Contracts of what makes lists of texts ascending. -/
import Derived.Test.YtfelbhpgifgkcaaVp
import Derived.Test.YtfelbhpgifgkcaaTreeMem
import Derived.Test.YtfelbhpgifgkcaaPlainT
import Derived.Test.YtfelbhpgifgkcaaShelf
import Derived.Sort.OwnSorted
import Derived.Lib.OwnBridge
set_option linter.unusedVariables false
set_option linter.unusedSimpArgs false
namespace Go.Proofs.Ytfelbhpgifgkcaa
open Go.RowKit Go.Sort Go.Proofs.Ytfelbhpgifgkcaa.Nm

theorem sv_enc (l : List Bs) : l.map sv = l.map encStr := rfl

/-- An ascending list of the call's own. -/
def UpStrs (N : Nat) (T : TypeId) (xs : List Bs) (w : World) (e : Ending) (w' : World) : Prop :=
  ∃ v, e = .returned v ∧ w'.ownsRow N T 1 v xs.length (xs.map sv) ∧ Below N w w'

theorem one_new {w : World} {x : Value} {t : TypeId} {b : Nat} (hb : b = w.heap.size) : ∀ j u, [x][j]? = some u → (w.alloc (.cells #[x] t)).cell? ((⟨b, 0, none⟩ : Addr).add j) = some u := by subst hb; exact cell_one_new w x t
theorem asc_left {N : Nat} {w w1 : World} {g cap nn q : Nat} {os : Array Obj} {ss : List Bs} (hown : w1.ownsRow N 9 1 (.slice (some ⟨g, 0, none⟩) ss.length cap) ss.length (ss.map encStr)) (hbel : Below N w w1) (hbg : N ≤ g) (hN : N ≤ w1.heap.size) :
    UpStrs N 9 (asc ss) w (.returned (.slice (some ⟨g, 0, none⟩) (asc ss).length cap))
      (putRow encStr (Sort.ahead (grow (putRow encStr (Sort.ahead w1 nn) g 0 (ss.mergeSort fun x y => decide (x ≤ y)).toArray) os) q) g 0 (asc ss ++ List.replicate (ss.length - (asc ss).length) []).toArray) := by
  have hl2 : (ss.mergeSort fun x y => decide (x ≤ y)).length = ss.length := List.length_mergeSort ss
  have hle : (asc ss).length ≤ (ss.mergeSort fun x y => decide (x ≤ y)).length := Lib.compact_length_le (ss.mergeSort fun x y => decide (x ≤ y))
  rcases hown.2 with ⟨h0, _⟩ | ⟨g', cap', cur, hv, hbase, hb, h1, h2, h3, h4⟩
  · cases h0
  cases hv
  have hs := ownsRow_sorted (n := nn) (os := os) (ts := ss.mergeSort fun x y => decide (x ≤ y)) hl2 hbase hb h1 h2 h3
  have hc := Lib.ownsRow_putRow (q := q) (k := (asc ss).length) (ys := asc ss ++ List.replicate (ss.length - (asc ss).length) []) hs (by simp; omega) (by omega)
  rw [List.take_left] at hc
  exact ⟨_, rfl, hc, Lib.below_putRow (hbel.grown (grownBy_sorted _) hN (fun j hj => by cases hj; exact hbase)) hbg⟩

set_option maxRecDepth 100000 in
set_option maxHeartbeats 2000000 in
theorem impl_ascending (N : Nat) (v : Value) (ss : List Bs) (w : World) (hown : w.ownsRow N 9 1 v ss.length (ss.map sv)) (hN : N ≤ w.heap.size) (hz : ss.length ≤ 100000000) :
    Calls Try.prog 79 #[v] w (UpStrs N 9 (sortUp ss) w) := by
  by_cases hv : v = .slice none 0 0
  · have hn : ss = [] := by
      rcases hown.2 with ⟨_, h⟩ | ⟨g, cap, cur, h, _⟩
      · exact List.length_eq_zero_iff.1 h
      · rw [hv] at h; cases h
    subst hv hn
    clear hown hz
    go_enter Try.func79, Try.ntmps79
    go_wp2_with (first
      | (go_at_call 130; refine (Try.slices_Sort_string_none none 0 _).mono ?_; rintro e w' ⟨rfl, rfl⟩)
      | (go_at_call 131; refine (Try.slices_Compact_string_empty none 0 _).mono ?_; rintro e w' ⟨rfl, rfl⟩))
    go_ret
    exact ⟨_, rfl, World.ownsRow_nil _ _ _ _, Below.refl _ _⟩
  · rw [← asc_eq]
    obtain ⟨g, cap, rfl, hbg, hgl, hncap, hcm, hlen, hH⟩ := Lib.holds_of_ownsRow (enc := encStr) hown hv
    have hsort := Try.slices_Sort_string g 0 cap ss w hH hgl (by omega)
    have X : Aside (w.ownsRow N 9 1 (.slice (some ⟨g, 0, none⟩) ss.length cap) ss.length (ss.map encStr) ∧ N ≤ g ∧ g < w.heap.size ∧ ss.length ≤ cap ∧ Holds encStr w g 0 ss.toArray) := ⟨hown, hbg, hgl, hncap, hH⟩
    clear hown hH
    go_enter Try.func79, Try.ntmps79
    go_wp2_with (first
      | (go_at_call 130; refine hsort.mono ?_; rintro e w2 ⟨rfl, nn, os, rfl⟩
         have hl2 : (ss.mergeSort fun x y => decide (x ≤ y)).length = ss.length := by rw [List.length_mergeSort]
         have hH2 : Holds encStr (grow (putRow encStr (Sort.ahead w nn) g 0 (ss.mergeSort fun x y => decide (x ≤ y)).toArray) os) g 0 (ss.mergeSort fun x y => decide (x ≤ y)).toArray :=
           holds_grow encStr _ os g 0 _ (by simpa [putRow, mapBlock, Sort.ahead] using X.out.2.2.1) (holds_putRow encStr _ g 0 _ _ (holds_ahead encStr w nn g 0 _ X.out.2.2.2.2) (by simp))
         have hcomp := Try.slices_Compact_string g 0 cap (ss.mergeSort fun x y => decide (x ≤ y)) _ hH2 (by omega) (by have := X.out.2.2.2.1; omega)
         rw [hl2] at hcomp
         clear hH2 hsort)
      | (go_at_call 131; refine hcomp.mono ?_; rintro e w3 ⟨rfl, q, rfl⟩))
    go_ret
    exact asc_left X.out.1 (Below.refl _ _) X.out.2.1 hN



end Go.Proofs.Ytfelbhpgifgkcaa
