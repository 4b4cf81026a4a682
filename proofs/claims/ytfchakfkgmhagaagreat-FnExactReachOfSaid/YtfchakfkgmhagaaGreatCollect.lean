/- slices.AppendSeq and slices.Collect over an iterator under the own law of RangeC. -/
import Derived.Test.YtfchakfkgmhagaaGreatRangeC
import Derived.Test.YtfchakfkgmhagaaGreatHBox
import Derived.Test.YtfchakfkgmhagaaGreatTools
import Derived.Maps.AppendAt
import Derived.Maps.OwnIn
import Derived.Shelf.Abstract
import Derived.Shelf.RegionOpen
import Derived.WalkKit
import Derived.OwnWalkIn
import Derived.TacticsInMore
set_option linter.unusedVariables false
set_option linter.unusedSimpArgs false
namespace Go.Proofs.YtfchakfkgmhagaaGreat
open Go.RowKit Go.Proofs.YtfchakfkgmhagaaGreat.Nm
attribute [local go_sem] Oper.semAt_some
/-- The append to an owned row inside a fence, with the place of the row that it leaves. -/
theorem wpListIn_append_at {F : Fence} {n : Nat} {P : Program} (w : World) {ops : Array Oper} {rest : List Oper} {o : Oper} {a : Act} {Q : Exit → Act → World → Prop}
    (hg : o.guard = none) (s x : Operand) (t : TypeId) (hop : o.op = Op.call { callee := Callee.builtin Builtin.append, args := #[s, x], argTypes := #[t, t] })
    (base : Nat) (e : TypeId) (i : TypeInfo) (z : Value) (size bytes : Nat) (h1 : P.underlying t = some (.slice e)) (h2 : P.info? e = some i) (h3 : i.zero = some z) (h4 : i.size = size) (h5 : i.bytes = bytes) (h6 : z.cells.size = size) (h7 : 0 < size)
    (v : Value) (k : Nat) (xs : List Value) (hs : a.eval s = v) (hown : w.ownsRow base e size v k xs) (ad : Addr) (m c : Nat) (news : List Value) (hx : a.eval x = .slice (some ad) m c) (hn : news.length = m * size)
    (hc : ∀ j u, news[j]? = some u → w.cell? (ad.add j) = some u) (h1c : ∀ u ∈ news, u.oneCell' = true) (b1 : k + m ≤ maxLen) (b2 : (k + m) * bytes ≤ 140737488355328) (b3 : base ≤ w.heap.size)
    (hK : ∀ v' w', w'.ownsRow base e size v' (k + m) (xs ++ news) → w.grownBy w' v.ownBlock → (v'.ownBlock = v.ownBlock ∨ v'.ownBlock = some w.heap.size) → wpListIn F n P ops Q rest (a.put o.dst v') w') :
    wpListIn F n P ops Q (o :: rest) a w := by
  refine wpListIn_plain hg fun K hK' => ?_
  obtain ⟨v', w', hrun, r1, r2, _, r4⟩ := run_append_own_at (P := P) (w := w) base t o.type e i z size bytes h1 h2 h3 h4 h5 h6 h7 v k xs hown ad m c news hn hc h1c b1 b2 b3
  unfold Oper.wpIn
  refine ⟨by simp [Oper.about, hop, resolve, Target.leads, Sem.run_pure], ?_⟩
  rw [Oper.semAt_plain F _ _ (by rw [hop]; intro c hc'; cases hc')]
  simp [execOp, hop, resolve, invoke, builtin, hs, hx, hrun, Result.andThen]
  exact hK' _ _ (hK v' w' r1 r2 r4)
/-- What AppendSeq holds between two rounds. -/
def Gathered (B : Nat) (xs : List Bs) (C : Nat → Prop) (W : World) : Prop :=
  ∃ v, HB W B 27 #[v] ∧ W.ownsRow (B + 1) 9 1 v xs.length (xs.map sv) ∧ (∀ b, C b ↔ (b = B ∨ v.ownBlock = some b))
theorem gathered_ab (B : Nat) : AbC (Gathered B) := by
  rintro xs C W W' ⟨v, h1, h2, h3⟩ hs
  exact ⟨v, (hs.block B ((h3 B).2 (.inl rfl)) h1.lt).trans h1, owns_heap h2 (fun b hb => hs.block b ((h3 b).2 (.inr hb)) (owns_block h2 hb).2), h3⟩
set_option maxRecDepth 100000 in
set_option maxHeartbeats 4000000 in
theorem slices_AppendSeqC (gf : Nat) (lb : Array Value) (S Sp : List Bs → Prop) (N : Nat) (R : Nat → Prop) (w : World) (eg : ∀ args w, (callFunc gf args).run Tryz.prog w = .ok (.enter gf args) w) (hN : N ≤ 100000)
    (hseq : SeqC Fence.wide 3 Tryz.prog gf lb (fun s : Bs => #[.string (mk s)]) S Sp N R w) (hR : ∀ b, R b → b < w.heap.size) :
    Calls Tryz.prog 155 #[.slice none 0 0, .func (.func gf) #[] lb] w fun e w' => ∃ xs, S xs ∧ NewStrs 9 xs w e w' := by
  obtain ⟨i0, hi, hz0, hz1, hz2⟩ := info_parts infoS
  have Hi := Lib.hid hi
  have Hz0 := Lib.hid hz0
  have Hz1 := Lib.hid hz1
  have Hz2 := Lib.hid hz2
  clear hi hz0 hz1 hz2
  refine (callsIn_wide (n := 4)).1 ?_
  refine callsIn_of_wp_marks Tryz.func155 rfl trivial ?_ rfl
  simp only [Tryz.ntmps155, List.size_toArray, List.length_cons, List.length_nil, Nat.reduceAdd, Nat.reduceSub, Array.replicate_succ, Array.replicate_zero, List.push_toArray, List.append_toArray, List.nil_append, List.cons_append]
  gi_wp2
  obtain ⟨B, hB⟩ : ∃ B, B = w.heap.size := ⟨_, rfl⟩
  have hI0 : Gathered B [] (fun b => b = B) (w.alloc (.cells #[.slice none 0 0] 27)) := ⟨.slice none 0 0, by rw [hB]; exact HB.new _ _ _, World.ownsRow_nil _ _ _ _, fun b => by simp [Value.ownBlock]⟩
  rw [← hB]
  refine wpIn_rangeFunc_C (n := 4) (F := Fence.wide) rfl (by omega) (gf := gf) (lb := lb) rfl trivial eg hseq (.alloc R w _) (fun b hb => by have := hR b hb; simp; omega) (fun _ => rfl)
    (Gathered B) (fun _ _ _ _ => False) (gathered_ab B) (fun _ _ _ _ _ h _ => h) (fun b => b = B) (fun b hb => ⟨fun h => by have := hR b h; omega, by simp; omega⟩) hI0
    (fun x => { tmps := #[.slice none 0 0, .func (.func gf) #[] lb, .pointer (some ⟨B, 0, none⟩), undef, .slice none 0 0, .string (mk x), .func (.func gf) #[] lb, .string (mk x), undef, undef, undef, undef, undef], defers := [] }) ?assign ?body ?done ?stop
  case assign =>
    intro l x W K hK
    clear hB
    gi_wp2
    exact hK
  case body =>
    intro l pre x C W ⟨v, hb, hown, hC⟩ hCl hlen
    clear hB
    have x0 := hb.cell 0
    have xf := hb.frozen 0
    have hBl := hb.lt
    have hapart : v.ownBlock ≠ some B := fun e => by have := (owns_block hown e).1; omega
    gi_wp2_with (gi_at_builtin; refine wpListIn_append_at _ rfl _ _ 27 rfl (B + 1) 9 i0 (.string ByteArray.empty) 1 16 Tryz.underlying27 Hi.out Hz0.out Hz1.out Hz2.out rfl (by decide) _ pre.length _ rfl (hown.alloc _) ⟨W.heap.size, 0, none⟩ 1 1 [.string (mk x)] rfl rfl (cell_one_new _ _ _) (fun u hu => by simp at hu; subst hu; rfl) (by unfold maxLen; omega) (by omega) (by simp; omega) ?_; intro v1 w1 hown1 hg1 hat1; obtain ⟨g1, c1, rfl⟩ := ownsRow_succ hown1; have hb1 : HB w1 B 27 #[v] := (hb.alloc _).grown hg1 hapart; have y0 := hb1.cell 0; have yf := hb1.frozen 0; have yl := hb1.lt)
    have hgB : g1 ≠ B := fun e => by have h1 : B + 1 ≤ g1 := (owns_block hown1 rfl).1; omega
    have hg1l : g1 < w1.heap.size := (owns_block hown1 rfl).2
    have hkeep : ∀ b, b ≠ B → (w1.setCell ⟨B, 0, none⟩ (.slice (some ⟨g1, 0, none⟩) (pre.length + 1) c1)).heap[b]? = w1.heap[b]? := fun b hb => Below.heap_setCell _ _ _ _ hb
    have hsz : w1.heap.size = (w1.setCell ⟨B, 0, none⟩ (.slice (some ⟨g1, 0, none⟩) (pre.length + 1) c1)).heap.size := by simp [World.setCell]
    refine ⟨fun b => b = B ∨ b = g1, ⟨hg1.os, hg1.tape, hg1.output, by rw [← hsz]; have := hg1.size; simp at this; omega, fun b hbl hn => ?_, fun b hb => ?_⟩, fun b hb => ?_, _, hb1.put 0 _, ?_, fun b => by simp [Value.ownBlock, eq_comm]⟩
    · have hnB : b ≠ B := fun e => hn ((hC b).2 (.inl e))
      rw [hkeep b hnB, hg1.block b (by simp; omega) (fun e => hn ((hC b).2 (.inr e.symm)))]
      exact Below.heap_alloc _ _ _ hbl
    · rcases hb with rfl | rfl
      · exact .inl ((hC _).2 (.inl rfl))
      · rcases hat1 with e | e
        · exact .inl ((hC _).2 (.inr (e.symm.trans rfl)))
        · right
          simp only [Value.ownBlock, Option.some.injEq, World.size_alloc] at e
          omega
    · rw [← hsz]
      rcases hb with rfl | rfl
      · exact yl
      · exact hg1l
    · have h := owns_heap (w' := w1.setCell ⟨B, 0, none⟩ (.slice (some ⟨g1, 0, none⟩) (pre.length + 1) c1)) hown1 (fun b hb => hkeep b (fun e => by simp only [Value.ownBlock, Option.some.injEq] at hb; exact hgB (hb.trans e)))
      rw [List.length_append, List.map_append]
      exact h
  case done =>
    intro D ys C W hD hS ⟨v, hb, hown, hC⟩ hnD hst hK
    have HB0 := Lib.hid hB
    clear hB
    have x0 := hb.cell 0
    gi_wp2
    refine ⟨by simp, .inl ⟨_, _, rfl, run_takeDeferred hK, ?_⟩⟩
    have hDw : w.heap.size < D := by simp at hD; omega
    refine ⟨_, results_tmp rfl _ _ _, ys, hS, v, rfl, ?_, ⟨hst.os, hst.tape, hst.output, by have := hst.size; simp at this ⊢; omega, fun b hb2 => ?_⟩⟩
    · exact owns_heap (owns_mono hown (by rw [HB0.out]; exact Nat.le_succ _)) (fun b hb2 => World.putObj_heap_other (fun e => hnD ((hC D).2 (.inr (by rw [← e]; exact hb2)))))
    · rw [World.putObj_heap_other (by omega), hst.block b (by simp; omega) (by rw [HB0.out]; omega)]
      exact Below.heap_alloc _ _ _ hb2
  case stop =>
    intro D c pre C W _ _ h
    exact h.elim
set_option maxRecDepth 100000 in
set_option maxHeartbeats 1000000 in
theorem slices_CollectC (gf : Nat) (lb : Array Value) (S Sp : List Bs → Prop) (N : Nat) (R : Nat → Prop) (w : World) (eg : ∀ args w, (callFunc gf args).run Tryz.prog w = .ok (.enter gf args) w) (hN : N ≤ 100000)
    (hseq : SeqC Fence.wide 3 Tryz.prog gf lb (fun s : Bs => #[.string (mk s)]) S Sp N R w) (hR : ∀ b, R b → b < w.heap.size) :
    Calls Tryz.prog 119 #[.func (.func gf) #[] lb] w fun e w' => ∃ xs, S xs ∧ NewStrs 9 xs w e w' := by
  have Hseq := Lib.hid hseq
  have Heg := Lib.hid eg
  clear hseq eg
  go_enter Tryz.func119, Tryz.ntmps119
  go_wp2_with (go_at_call 155; refine (slices_AppendSeqC gf lb S Sp N R _ Heg.out hN Hseq.out hR).mono ?_; rintro _ w5 ⟨xs, hS, v5, rfl, hown5, hb5⟩; have HS := Lib.hid hS; have Hown5 := Lib.hid hown5; have Hb5 := Lib.hid hb5; clear hS hown5 hb5)
  go_ret
  exact ⟨_, HS.out, _, rfl, Hown5.out, Hb5.out⟩
end Go.Proofs.YtfchakfkgmhagaaGreat
