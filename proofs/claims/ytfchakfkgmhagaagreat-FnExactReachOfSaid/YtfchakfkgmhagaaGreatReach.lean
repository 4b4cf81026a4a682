/- The names that are reached: contracts of the program's side. -/
import Derived.Test.YtfchakfkgmhagaaGreatWays
import Derived.Test.YtfchakfkgmhagaaGreatCollect
import Derived.Test.YtfchakfkgmhagaaGreatSorts
set_option linter.unusedVariables false
set_option linter.unusedSimpArgs false
namespace Go.Proofs.YtfchakfkgmhagaaGreat
open Go.RowKit Go.Proofs.YtfchakfkgmhagaaGreat.Nm
set_option maxRecDepth 100000 in
set_option maxHeartbeats 1000000 in
theorem impl_ways (g fv : Value) (w : World) (hg : ∃ o, g = .map o) (hf : ∃ a n c, fv = .slice a n c) :
    Calls Tryz.prog 120 #[g, fv] w fun e w' => e = .returned (.func (.func 156) #[] #[.pointer (some ⟨w.heap.size + 1, 0, none⟩), .pointer (some ⟨w.heap.size, 0, none⟩)]) ∧ w' = (w.alloc (.cells #[g] 71)).alloc (.cells #[fv] 27) := by
  obtain ⟨o, rfl⟩ := hg
  obtain ⟨a, n, c, rfl⟩ := hf
  have hmf : ∀ (fn : Fn) (first cap : Array Value) (w : World), (Instr.makeFunc fn first cap).run Tryz.prog w = .ok (.func fn first cap) w := fun _ _ _ _ => rfl
  go_enter Tryz.func120, Tryz.ntmps120
  go_wp2_with fail
  go_ret
  exact ⟨rfl, rfl⟩
set_option maxRecDepth 100000 in
theorem ways_enters : ∀ args w, (callFunc 156 args).run Tryz.prog w = .ok (.enter 156 args) w := enters_of Tryz.func156 (by kernel_rfl) rfl
set_option maxRecDepth 100000 in
set_option maxHeartbeats 1000000 in
theorem ways_collected (g fv : Value) (fs : List Fil) (path : List Int) (D : Nat → Prop) (xs : List Bs) (B : Nat) (w : World) (ht : okTree fs = true) (hn : xs.Nodup) (hx : ∀ x ∈ xs, vn x = true) (hxl : xs.length ≤ 100) (hg : GraphV w D fs path g) (hf : w.ownsRow B 9 1 fv xs.length (xs.map sv)) :
    Calls Tryz.prog 119 #[.func (.func 156) #[] #[.pointer (some ⟨w.heap.size + 1, 0, none⟩), .pointer (some ⟨w.heap.size, 0, none⟩)]] ((w.alloc (.cells #[g] 71)).alloc (.cells #[fv] 27)) (NewStrs 9 (reachAll fs path xs) ((w.alloc (.cells #[g] 71)).alloc (.cells #[fv] 27))) := by
  obtain ⟨W, hW⟩ : ∃ W, W = (w.alloc (.cells #[g] 71)).alloc (.cells #[fv] 27) := ⟨_, rfl⟩
  have hb : Below w.heap.size w W := by rw [hW]; exact ba (ba (Below.refl _ _) _) _
  have h2 : HB W w.heap.size 71 #[g] := by rw [hW]; exact (HB.new _ _ _).alloc _
  have h1 : HB W (w.heap.size + 1) 27 #[fv] := by
    have h := HB.new (w.alloc (.cells #[g] 71)) #[fv] 27
    rw [← hW] at h; simpa using h
  rw [← hW]
  have hA : WaysAt W D fs path w.heap.size g fv xs (w.heap.size + 1) w.heap.size (fun b => b < w.heap.size ∨ b = w.heap.size + 1 ∨ b = w.heap.size ∨ fv.ownBlock = some b) :=
    ⟨hb.size, ⟨w, rfl, hg, hb⟩, h1, h2, ⟨B, owns_below hf hb⟩, fun _ => Iff.rfl⟩
  have hs := ways_seq g fv fs path D w.heap.size (w.heap.size + 1) w.heap.size xs _ 400 W ht hn hx hxl (by omega) hA
  have hc := slices_CollectC 156 _ _ _ 400 _ W ways_enters (by omega) hs hA.lt
  exact hc.mono (fun e w' h => by obtain ⟨ys, h1, h2⟩ := h; rw [h1] at h2; exact h2)
set_option maxRecDepth 100000 in
set_option maxHeartbeats 4000000 in
theorem impl_reached (v : Value) (fs : List Fil) (D : Nat → Prop) (pv : Value) (path : List Int) (s : Bs) (w : World) (hr : FilsIn w D v fs) (hz : ShortT 2000000 fs) (hp : IntsIn w pv path) (hsl : s.length ≤ 8000000) :
    Calls Tryz.prog 76 #[.agg #[v], pv, .string (mk s)] w fun e w' => ∃ g v', e = .returned (.tuple #[g, v']) ∧ (∃ D', GraphV w' D' fs path g) ∧ w'.ownsRow w.heap.size 9 1 v' (reachOf fs path s).length ((reachOf fs path s).map sv) ∧ Below w.heap.size w w' := by
  have Hr := Lib.hid hr
  have Hz := Lib.hid hz
  have Hp := Lib.hid hp
  obtain ⟨aa, ca, rfl, hl, hm⟩ := hr.len
  clear hr hz hp hl hm
  obtain ⟨ns, hns⟩ : ∃ ns, ns = namesAbove s := ⟨_, rfl⟩
  have Hns := Lib.hid hns
  have Hre := Lib.hid (show okLook fs path = true → sortUp (reachAll fs path ns) = reachOf fs path s from fun h => by rw [hns]; unfold reachOf; rw [h]; rfl)
  have h3 : ns.length ≤ 3 := by rw [hns]; exact namesAbove_le3 s
  have Hn := Lib.hid (show ns.Nodup by rw [hns]; exact namesAbove_nodup s)
  have Hv := Lib.hid (show ∀ x ∈ ns, vn x = true by rw [hns]; exact fun x hx => namesAbove_vn hx)
  clear hns
  have hq1 : ∀ (o : Option Nat) (w : World), (eqGuard BinOp.eql 71 (Operand.tmp 12) (Operand.const (.map none)) (.map o) (.map none)).run Tryz.prog w = .ok () w := fun o _ => by cases o <;> kernel_rfl
  have hq2 : ∀ (o : Option Nat) (w : World), (binOp BinOp.eql 71 (.map o) (.map none)).run Tryz.prog w = .ok (.bool o.isNone) w := fun o _ => by cases o <;> kernel_rfl
  go_enter Tryz.func76, Tryz.ntmps76
  go_wp2_with (go_at_call 66; refine (impl_graphOf _ fs D _ path _ (Hr.out.below (by (repeat (with_reducible first | exact Below.refl _ _ | assumption | refine ba ?_ _ | refine bd ?_ | refine bdN ?_ _ | refine bs ?_ (by first | exact Nat.le_refl _ | (dsimp only; omega) | (simp; done)) _ | refine bt ?_ (by assumption))))) Hz.out (Hp.out.below (by (repeat (with_reducible first | exact Below.refl _ _ | assumption | refine ba ?_ _ | refine bd ?_ | refine bdN ?_ _ | refine bs ?_ (by first | exact Nat.le_refl _ | (dsimp only; omega) | (simp; done)) _ | refine bt ?_ (by assumption)))))).mono ?_; rintro _ w5 ⟨g5, rfl, hg5, hb5⟩; obtain ⟨o5, rfl⟩ := hg5.shape; have Hg5 := Lib.hid hg5; have Hb5 := Lib.hid (show Below w.heap.size w w5 by (repeat (with_reducible first | exact Below.refl _ _ | assumption | refine ba ?_ _ | refine bd ?_ | refine bdN ?_ _ | refine bs ?_ (by first | exact Nat.le_refl _ | (dsimp only; omega) | (simp; done)) _ | refine bt ?_ (by assumption)))); clear hb5)
  · rename_i hnone
    have ho : o5 = none := by cases o5 <;> simp_all
    subst ho
    have hg5 := Hg5.out
    rcases hg5 with ⟨_, hno⟩ | ⟨_, b, hb, _⟩
    · have hre : reachOf fs path s = [] := by unfold reachOf; rw [hno]; rfl
      go_ret2
      exact ⟨_, _, rfl, ⟨_, Hg5.out⟩, by rw [hre]; exact World.ownsRow_nil _ _ _ _, Hb5.out⟩
    · cases hb
  · have hl5 : okLook fs path = true := by
      rcases Hg5.out with ⟨h, _⟩ | ⟨h, _⟩
      · cases h; simp_all
      · exact h
    have Ht := Lib.hid (okLook_tree hl5)
    have Hre := Lib.hid (Hre.out hl5)
    have hrl := reachAll_len (t := fs) (path := path) Ht.out Hn.out
    clear hl5
    refine (impl_NamesAbove s _ hsl).mono ?_
    rintro _ w6 ⟨v6, rfl, hown6, hb6⟩
    rw [← Hns.out] at hown6
    obtain ⟨a6, c6, rfl⟩ := owns_shape hown6
    have Hown6 := Lib.hid hown6
    have Hg6 := Lib.hid (Hg5.out.below hb6)
    have Hb6 := Lib.hid (Hb5.out.trans (hb6.mono Hb5.out.size))
    clear hown6 hb6
    go_wp2_with fail
    refine (impl_ways _ _ _ ⟨_, rfl⟩ ⟨_, _, _, rfl⟩).mono ?_
    rintro _ w7 ⟨rfl, hw7⟩
    have Hc := Lib.hid (ways_collected _ _ fs path _ ns _ w6 Ht.out Hn.out Hv.out (by omega) Hg6.out Hown6.out)
    rw [← hw7] at Hc
    have Hb7 := Lib.hid (show Below w6.heap.size w6 w7 by rw [hw7]; exact ba (ba (Below.refl _ _) _) _)
    clear hw7
    go_wp2_with fail
    refine Hc.out.mono ?_
    rintro _ w8 ⟨v8, rfl, hown8, hb8⟩
    obtain ⟨a8, c8, rfl⟩ := owns_shape hown8
    have Hown8 := Lib.hid hown8
    have Hb8 := Lib.hid (Hb7.out.trans (hb8.mono Hb7.out.size))
    have hz8 := hb8.size
    clear hown8 hb8
    go_wp2_with fail
    refine (impl_ascending w7.heap.size _ _ _ Hown8.out hz8 (by omega)).mono ?_
    rintro _ w9 ⟨v9, rfl, hown9, hb9⟩
    rw [Hre.out] at hown9
    have Hb9 := Lib.hid (Hb8.out.trans (hb9.mono Hb7.out.size))
    go_wp2_with fail
    go_ret2
    exact ⟨_, _, rfl, ⟨_, Hg6.out.below Hb9.out⟩, owns_mono hown9 (Nat.le_trans Hb6.out.size Hb7.out.size), Hb6.out.trans (Hb9.out.mono Hb6.out.size)⟩
set_option maxRecDepth 100000 in
set_option maxHeartbeats 1000000 in
theorem impl_ReachOf (v : Value) (fs : List Fil) (D : Nat → Prop) (pv : Value) (path : List Int) (s : Bs) (w : World) (hr : FilsIn w D v fs) (hz : ShortT 2000000 fs) (hp : IntsIn w pv path) (hsl : s.length ≤ 8000000) :
    Calls Tryz.prog 30 #[.agg #[v], pv, .string (mk s)] w (NewStrs 9 (reachOf fs path s) w) := by
  have Hr := Lib.hid hr
  have Hz := Lib.hid hz
  have Hp := Lib.hid hp
  obtain ⟨aa, ca, rfl, hl, hm⟩ := hr.len
  clear hr hz hp hl hm
  go_enter Tryz.func30, Tryz.ntmps30
  go_wp2_with (go_at_call 76; refine (impl_reached _ fs D _ path s _ (Hr.out.below (by (repeat (with_reducible first | exact Below.refl _ _ | assumption | refine ba ?_ _ | refine bd ?_ | refine bdN ?_ _ | refine bs ?_ (by first | exact Nat.le_refl _ | (dsimp only; omega) | (simp; done)) _ | refine bt ?_ (by assumption))))) Hz.out (Hp.out.below (by (repeat (with_reducible first | exact Below.refl _ _ | assumption | refine ba ?_ _ | refine bd ?_ | refine bdN ?_ _ | refine bs ?_ (by first | exact Nat.le_refl _ | (dsimp only; omega) | (simp; done)) _ | refine bt ?_ (by assumption))))) hsl).mono ?_; rintro _ w5 ⟨g5, v5, rfl, ⟨D5, hg5⟩, hown5, hb5⟩; obtain ⟨o5, rfl⟩ := hg5.shape; obtain ⟨a5, c5, rfl⟩ := owns_shape hown5; have Hown5 := Lib.hid hown5; have Hb5 := Lib.hid (show Below w.heap.size w w5 by (repeat (with_reducible first | exact Below.refl _ _ | assumption | refine ba ?_ _ | refine bd ?_ | refine bdN ?_ _ | refine bs ?_ (by first | exact Nat.le_refl _ | (dsimp only; omega) | (simp; done)) _ | refine bt ?_ (by assumption)))); clear hown5 hb5 hg5)
  go_ret
  exact ⟨_, rfl, owns_mono Hown5.out (by simp), Hb5.out⟩
end Go.Proofs.YtfchakfkgmhagaaGreat
