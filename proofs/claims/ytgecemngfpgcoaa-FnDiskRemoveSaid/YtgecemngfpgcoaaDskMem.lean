/- Disks that are the call's own, and the exact laws' marks in them. -/
import Derived.Test.YtgecemngfpgcoaaMarkD
import Derived.Test.YtgecemngfpgcoaaForget
import Derived.Test.YtgecemngfpgcoaaToDisk
import Derived.Test.YtgecemngfpgcoaaExTools
set_option linter.unusedVariables false
set_option linter.unusedSimpArgs false
namespace Go.Proofs.Ytgecemngfpgcoaa
open Go.RowKit Go.Proofs.Ytgecemngfpgcoaa.Nm

/-- The files and the directories of a disk are rows of the call's own. -/
def OwnDsk (w : World) (B : Nat) (v : Value) (ps : List (Fil × Value)) (u : Value) (qs : List (Dr × Value)) : Prop := OwnFils w B v ps ∧ OwnDirs w B u qs
theorem OwnDsk.below {w w' : World} {B : Nat} {v u : Value} {ps : List (Fil × Value)} {qs : List (Dr × Value)} (h : OwnDsk w B v ps u qs) (hb : Below w.heap.size w w') : OwnDsk w' B v ps u qs := ⟨h.1.below hb, h.2.below hb⟩
theorem OwnDsk.mono {w : World} {B B' : Nat} {v u : Value} {ps : List (Fil × Value)} {qs : List (Dr × Value)} (h : OwnDsk w B v ps u qs) (hB : B' ≤ B) : OwnDsk w B' v ps u qs := ⟨h.1.mono hB, h.2.mono hB⟩
def BlkK (v : Value) (ps : List (Fil × Value)) (u : Value) (qs : List (Dr × Value)) (b : Nat) : Prop := BlkF v ps b ∨ BlkD u qs b
theorem blkFils_ge {w : World} {B : Nat} {v : Value} {ps : List (Fil × Value)} (h : OwnFils w B v ps) : ∀ b, BlkF v ps b → B ≤ b ∧ b < w.heap.size := blkF_ge h.1 (fun p hp => ⟨_, _, _, _, h.2.1 p hp⟩)
theorem blkK_ge {w : World} {B : Nat} {v u : Value} {ps : List (Fil × Value)} {qs : List (Dr × Value)} (h : OwnDsk w B v ps u qs) : ∀ b, BlkK v ps u qs b → B ≤ b ∧ b < w.heap.size := fun b hb => hb.elim (blkFils_ge h.1 b) (blkD_ge h.2 b)
theorem dsk_turned {w w' : World} {B : Nat} {v u : Value} {ps : List (Fil × Value)} {qs : List (Dr × Value)} {S : Nat → Prop} (h : OwnDsk w B v ps u qs) (ht : Turned S w w') (hs : ∀ b, BlkK v ps u qs b → ¬ S b) : OwnDsk w' B v ps u qs :=
  ⟨fils_turned h.1 ht (fun b hb => hs b (.inl hb)), dirs_turned h.2 ht (fun b hb => hs b (.inr hb))⟩
/-- Files and directories never share a block. -/
theorem fd_apart {w : World} {B B' : Nat} {v u : Value} {ps : List (Fil × Value)} {qs : List (Dr × Value)} (h : OwnFils w B v ps) (h' : OwnDirs w B' u qs) {b : Nat} (hf : BlkF v ps b) (hd : BlkD u qs b) : False := by
  rcases hf with hf | ⟨p, hp, hf⟩ <;> rcases hd with hd | ⟨q, hq, hd⟩
  · exact own_types (by decide) h.1 h'.1 hf hd
  · exact own_types (by decide) h.1 (h'.2.1 q hq) hf hd
  · exact own_types (by decide) (h.2.1 p hp) h'.1 hf hd
  · exact own_types (by decide) (h.2.1 p hp) (h'.2.1 q hq) hf hd
theorem endK_mono (k : Nat) (fs : List Fil) (ds : List Dr) : k ≤ endD (endF k fs) ds := Nat.le_trans (endF_mono _ _) (endD_mono _ _)
theorem endK_le (k : Nat) (fs : List Fil) (ds : List Dr) : endD (endF k fs) ds ≤ k + 5 * dskCost fs ds := by
  have h1 := endD_le (endF k fs) ds
  have h2 := endF_le k fs
  have h3 := sum_le (fs := fs)
  have e1 : dskCost fs ds = filsCost fs + drsCost ds := rfl
  have e2 : filsCost fs = fs.length + (fs.map filCost).sum := rfl
  omega

set_option maxRecDepth 100000 in
set_option maxHeartbeats 1000000 in
theorem laws_markDisk (B : Nat) (v : Value) (c : Int) (u : Value) (ps : List (Fil × Value)) (qs : List (Dr × Value)) (k : Nat) (w : World) (hown : OwnDsk w B v ps u qs) (h1 : 1 ≤ k) (h9 : endD (endF k (ps.map (·.1))) (qs.map (·.1)) ≤ 9000000) (hn9 : ps.length ≤ 9000000) (hm9 : qs.length ≤ 9000000) :
    Calls Try.prog 26 #[.agg #[v, .int .i64 c, u], .int .i64 k] w fun e w' => e = .returned (.int .i64 ((endD (endF k (ps.map (·.1))) (qs.map (·.1)) : Nat) : Int)) ∧ OwnDsk w' B v (markP k ps) u (markQ (endF k (ps.map (·.1))) qs) ∧ Turned (BlkK v ps u qs) w w' := by
  obtain ⟨aa, ca, rfl⟩ := owns_shape hown.1.1
  obtain ⟨ab, cb, rfl⟩ := owns_shape hown.2.1
  have Hown := Lib.hid hown
  have hge := Lib.hid (blkFils_ge hown.1)
  have hap := Lib.hid (fun b hf hd => fd_apart hown.1 hown.2 (b := b) hf hd)
  clear hown
  have h8 : endF k (ps.map (·.1)) ≤ 9000000 := Nat.le_trans (endD_mono _ _) h9
  have h2 : 1 ≤ endF k (ps.map (·.1)) := Nat.le_trans h1 (endF_mono _ _)
  go_enter Try.func26, Try.ntmps26
  go_wp2_with fail
  refine (laws_markTree B _ ps k _ (Hown.out.1.below (by (repeat (with_reducible first | exact Below.refl _ _ | assumption | refine ba ?_ _ | refine bd ?_ | refine bdN ?_ _ | refine bs ?_ (by first | exact Nat.le_refl _ | (dsimp only; omega) | (simp; done)) _ | refine bt ?_ (by assumption))))) h1 h8 hn9).mono ?_
  rintro _ w5 ⟨rfl, ho5, ht5⟩
  have hx := (BoxC.start w #[.slice aa ps.length ca, .int .i64 c, .slice ab qs.length cb] 28).turned ht5 (fun h => by have := (hge.out _ h).2; omega)
  have x2 : w5.cell? ⟨w.heap.size, 2, none⟩ = some (.slice ab qs.length cb) := hx.2 2
  have xs := hx.1
  have Ho5 := Lib.hid ho5
  have Ht5 := Lib.hid ht5
  have Hd5 := Lib.hid (dirs_turned (Hown.out.2.below (show Below w.heap.size w (w.alloc (.cells #[.slice aa ps.length ca, .int .i64 c, .slice ab qs.length cb] 28)) by (repeat (with_reducible first | exact Below.refl _ _ | assumption | refine ba ?_ _ | refine bd ?_ | refine bdN ?_ _ | refine bs ?_ (by first | exact Nat.le_refl _ | (dsimp only; omega) | (simp; done)) _ | refine bt ?_ (by assumption))))) ht5 (fun b hd hf => hap.out b hf hd))
  obtain ⟨m, hm⟩ : ∃ m, m = endF k (ps.map (·.1)) := ⟨_, rfl⟩
  rw [← hm] at h9 h8 h2 ⊢
  have Hm := Lib.hid hm
  clear hm hx ho5 ht5
  go_wp2_with fail
  refine (laws_markDirS B _ qs m _ Hd5.out h2 h9 hm9).mono ?_
  rintro _ w6 ⟨rfl, ho6, ht6⟩
  have Ho6 := Lib.hid ho6
  have Ht6 := Lib.hid ht6
  have Hf6 := Lib.hid (fils_turned Ho5.out ht6 (fun b hf hd => fd_apart (v := .slice aa ps.length ca) Ho5.out Hd5.out hf hd))
  clear ho6 ht6 x2 xs
  go_wp2_with fail
  go_ret
  have hm := Hm.out
  clear Hm
  subst hm
  refine ⟨rfl, ⟨Hf6.out, Ho6.out⟩, ?_⟩
  exact (Turned.of_below (by (repeat (with_reducible first | exact Below.refl _ _ | assumption | refine ba ?_ _ | refine bd ?_ | refine bdN ?_ _ | refine bs ?_ (by first | exact Nat.le_refl _ | (dsimp only; omega) | (simp; done)) _ | refine bt ?_ (by assumption))))).trans ((Ht5.out.mono (fun b hb => .inl hb)).trans (Ht6.out.mono (fun b hb => .inr hb)))
end Go.Proofs.Ytgecemngfpgcoaa
