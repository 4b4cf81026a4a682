/- The function that draws parts to join: whatever the code, at most four texts of at most four bytes, in a slice of its own. -/
import Derived.Test.YtpopbcidnhepiaaDraws
import Derived.Test.YtpopbcidnhepiaaSplit
set_option linter.unusedVariables false
set_option linter.unusedSimpArgs false
namespace Go.Proofs.Ytpopbcidnhepiaa
open Go.RowKit Go.Proofs.Ytpopbcidnhepiaa.Nm

def DrawnParts (w : World) (e : Ending) (w' : World) : Prop :=
  ∃ (v : Value) (xs : List Bs), e = .returned v ∧ w'.ownsRow w.heap.size 9 1 v xs.length (xs.map sv) ∧ xs.length ≤ 4 ∧ (∀ p ∈ xs, p.length ≤ 4) ∧ Below w.heap.size w w'

set_option maxRecDepth 100000 in
set_option maxHeartbeats 1000000 in
theorem spec_DrawJoinParts (a : Option Addr) (n cap : Nat) (w : World) (hc : Code w w.heap.size a n cap) :
    Calls Try.prog 23 #[.slice a n cap] w (DrawnParts w) := by
  obtain ⟨i0, hi, hz0, hz1, hz2⟩ := info_parts infoS
  have Hi := Lib.hid hi
  have Hz0 := Lib.hid hz0
  have Hz1 := Lib.hid hz1
  have Hz2 := Lib.hid hz2
  clear hi hz0 hz1 hz2
  go_enter Try.func23, Try.ntmps23
  go_wp2_with fail
  refine (spec_newReader a n cap w hc).mono ?_
  rintro e w1 ⟨rfl, hr, hb⟩
  have hz := hr.lt
  go_wp2_with fail
  have hr1 := (hr.alloc (.cells #[] 9)).alloc (.cells #[.int .i64 1, .int .i64 2, .int .i64 3, .int .i64 0, .int .i64 4] 3)
  have hb1 := (hb.alloc (by omega) (.cells #[] 9)).alloc (by simp; omega) (.cells #[.int .i64 1, .int .i64 2, .int .i64 3, .int .i64 0, .int .i64 4] 3)
  refine (reader_one w.heap.size 0 (w1.heap.size + 1) 3 [1, 2, 3, 0, 4] _ hr1 (by have := heap_new (w1.alloc (.cells #[] 9)) ([1, 2, 3, 0, 4].map iv).toArray 3; rw [World.size_alloc] at this; exact this) (by omega) (by decide) (by decide) (by omega)).mono ?_
  rintro e w2 ⟨k0, hk0, rfl, hr2, hg2⟩
  have hk := mem_int 0 4 (by decide) hk0
  have hown0 : w2.ownsRow (w.heap.size + 1) 9 1 (.slice (some ⟨w1.heap.size, 0, none⟩) 0 0) 0 [] := by
    have h := World.ownsRow_made (e := 9) (size := 1) (base := w.heap.size + 1) w1 #[] 0 (by omega) (by omega) rfl
    exact (h.alloc _).kept hg2 (.inr (by simp [Value.ownBlock]; omega))
  have hb2 := below_gb hb1 (by simp; omega) (Nat.le_refl _) hg2
  have Hown0 := Lib.hid hown0
  have Hb2 := Lib.hid hb2
  have Hr2 := Lib.hid hr2
  clear hown0 hb2 hr2 hg2 hb1 hr1 hk0
  go_wp2_with fail
  go_loopw [4, 5] (fun v kv wr => ∃ (xs : List Bs) (k : Int) (q : Nat), kv = .int .i64 k ∧ 0 ≤ k ∧ (xs.length : Int) + k ≤ 4 ∧ (q : Int) + 2 * k ≤ 10 ∧ (∀ p ∈ xs, p.length ≤ 4) ∧
      wr.ownsRow (w.heap.size + 1) 9 1 v xs.length (xs.map sv) ∧ Below w.heap.size w wr ∧ Rd wr w.heap.size q) (fun _ kv _ => (intOf kv).toNat)
  case atStart => exact ⟨[], k0, 0 + 1, rfl, hk.1, by simp; omega, by omega, by simp, Hown0.out, Hb2.out, Hr2.out⟩
  case round =>
    obtain ⟨xs, k, q, rfl, hk0, hk4, hq, hxs, hown, hbel, hrd⟩ := hrel
    have Hxs := Lib.hid hxs
    have Hbel := Lib.hid hbel
    have hws := hrd.lt
    have Hown := Lib.hid hown
    clear hxs hbel hown
    by_cases hk1 : 0 < k
    · go_wp2_with fail
      refine (spec_anyPart _ q _ hrd (by omega)).mono ?_
      rintro e w4 ⟨p, rfl, hp, q', hq', hr4, hg4⟩
      have hown4 := Hown.out.kept hg4 (.inr (fun e => by have := (Hown.out.lt _ e).1; omega))
      have Hb4 := Lib.hid (below_gb Hbel.out (by omega) (Nat.le_refl _) hg4)
      have hw4 := hr4.lt
      have Hr4 := Lib.hid hr4
      clear hg4 hr4 Hown
      go_wp2_with (at_builtin; refine wpList_append_own _ rfl _ _ 25 rfl (w.heap.size + 1) 9 i0 (.string ByteArray.empty) 1 16 Try.underlying25 Hi.out Hz0.out Hz1.out Hz2.out rfl (by decide) _ _ _ rfl (hown4.alloc _) ⟨w4.heap.size, 0, none⟩ 1 1 [.string (mk p)] rfl rfl (cell_one_new _ _ _) (fun x hx => by simp at hx; subst hx; rfl) (by unfold maxLen; omega) (by omega) (by simp; omega) ?_; intro v' w5 hown' hgrow5 hnil5)
      rw [map_snoc] at hown'
      have hlt5 : ∀ g, _ = some g → w.heap.size + 1 ≤ g := fun g hg => (hown4.lt g hg).1
      have Hb5 := Lib.hid ((Hb4.out.alloc (by omega) _).grown hgrow5 (by simp; omega) (fun g hg => by have := hlt5 g hg; omega))
      have Hr5 := Lib.hid ((Hr4.out.alloc _).keep (fun j hj => hgrow5.block j (by simp; omega) (fun e => by have := hlt5 _ e.symm; omega)))
      go_roundw
      case rel =>
        refine ⟨xs ++ [p], k - 1, q', rfl, by omega, by simp; omega, by omega, ?_, by simpa using hown', Hb5.out, Hr5.out⟩
        intro x hx
        rcases List.mem_append.1 hx with hx | hx
        · exact Hxs.out x hx
        · simp at hx; subst hx; exact hp
      case measure => simp [intOf]; omega
    · go_wp2_with fail
      go_ret
      exact ⟨_, xs, rfl, owns_mono Hown.out (by omega), by omega, Hxs.out, Hbel.out⟩
end Go.Proofs.Ytpopbcidnhepiaa
