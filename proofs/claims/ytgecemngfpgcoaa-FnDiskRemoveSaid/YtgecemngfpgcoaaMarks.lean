/- The laws' marks: texts that are written into what a call returned, and looked for again. -/
import Derived.Test.YtgecemngfpgcoaaKin
set_option linter.unusedVariables false
set_option linter.unusedSimpArgs false
namespace Go.Proofs.Ytgecemngfpgcoaa.Nm
open Go.RowKit

/-- The digits of a number, none for 0. -/
def dgs (k : Nat) : Bs := if k = 0 then [] else dgs (k / 10) ++ [UInt8.ofNat (48 + k % 10)]
termination_by k
decreasing_by omega
/-- The mark of the number k. -/
def mt (k : Nat) : Bs := 109 :: dgs k

theorem dgs_step {j k : Nat} {t : Bs} (h : dgs j ++ t = dgs k) (h0 : j ≠ 0) : dgs (j / 10) ++ (UInt8.ofNat (48 + j % 10) :: t) = dgs k := by
  have e : dgs j = dgs (j / 10) ++ [UInt8.ofNat (48 + j % 10)] := by rw [dgs, if_neg h0]
  rw [← h, e]; simp
theorem dgs_end {k : Nat} {t : Bs} (h : dgs 0 ++ t = dgs k) : t = dgs k := by
  rw [dgs, if_pos rfl] at h; exact h

def MarkAt (k j : Nat) (t : Bs) : Prop := dgs j ++ t = dgs k ∧ j ≤ k ∧ t.length + j ≤ k
set_option maxRecDepth 100000 in
set_option maxHeartbeats 1000000 in
theorem laws_markText (k : Nat) (w : World) (h1 : 1 ≤ k) (h9 : k ≤ 9000000) :
    Calls Try.prog 110 #[.int .i64 k] w fun e w' => e = .returned (.string (mk (mt k))) ∧ Below w.heap.size w w' := by
  have hk0 : ¬ (k : Int) ≤ 0 := by omega
  go_enter Try.func110, Try.ntmps110
  go_wp2_with fail
  go_loopw [0, 3] (fun kv ov wr => ∃ (j : Nat) (t : Bs), kv = .int .i64 j ∧ ov = .string (mk t) ∧ MarkAt k j t ∧ Below w.heap.size w wr) (fun kv _ _ => (intOf kv).toNat)
  case atStart => exact ⟨k, [], rfl, rfl, ⟨by simp, Nat.le_refl _, by simp⟩, Below.refl _ _⟩
  case round =>
    obtain ⟨j, t, rfl, rfl, hm, hbel⟩ := hrel
    obtain ⟨hm1, hm2, hm3⟩ := hm
    by_cases hj0 : j = 0
    · have He := Lib.hid (show t = dgs k by subst hj0; exact dgs_end hm1)
      clear hm1
      subst hj0
      go_wp2_with fail
      go_ret
      refine ⟨?_, hbel⟩
      show Ending.returned (.string (mk [109] ++ mk t)) = _
      rw [mk_append, He.out]; rfl
    · have hj1 : (0 : Int) < (j : Int) := by omega
      have Hs := Lib.hid (dgs_step hm1 hj0)
      clear hm1
      obtain ⟨d, hd⟩ : ∃ d, d = j % 10 := ⟨_, rfl⟩
      obtain ⟨q, hq⟩ : ∃ q, q = j / 10 := ⟨_, rfl⟩
      have hd9 : d ≤ 9 := by omega
      have hqj : q < j := by omega
      rw [← hd, ← hq] at Hs
      have hdi : (j : Int) % 10 = (d : Int) := by omega
      have hqi : (j : Int) / 10 = (q : Int) := by omega
      have hqi2 : Int.tdiv (j : Int) 10 = (q : Int) := by rw [Int.tdiv_eq_ediv_of_nonneg (by omega)]; exact hqi
      have hdi2 : Int.tmod (j : Int) 10 = (d : Int) := by rw [Int.tmod_eq_emod_of_nonneg (by omega)]; exact hdi
      clear hd hq
      have hcv := run_convert_bytes_back (P := Try.prog) (wr.alloc (.cells #[.int .u8 (48 + (d : Int))] 5)) 22 9 5 ⟨wr.heap.size, 0, none⟩ 1 [UInt8.ofNat (48 + d)] Try.underlying22 Try.underlying5 Try.underlying9
        (fun i hi => by
          obtain rfl : i = 0 := by simp at hi; exact hi
          have e : ((48 + UInt8.ofNat d).toNat : Int) = 48 + (d : Int) := by
            simp; omega
          simp [Addr.add, e]; try omega)
      have hcv' : (convert 22 9 (.slice (some ⟨wr.heap.size, 0, none⟩) 1 1)).run Try.prog (wr.alloc (.cells #[.int .u8 (48 + (d : Int))] 5)) = .ok (.string (mk [UInt8.ofNat (48 + d)])) (wr.alloc (.cells #[.int .u8 (48 + (d : Int))] 5)) := hcv
      clear hcv
      have Hbel2 := Lib.hid (hbel.alloc hbel.size (.cells #[.int .u8 (48 + (d : Int))] 5))
      clear hbel
      go_wp2_with fail
      go_roundw
      case rel =>
        refine ⟨q, UInt8.ofNat (48 + d) :: t, by go_num, ?_, ⟨Hs.out, by omega, by simp; omega⟩, Hbel2.out⟩
        simp
      case measure => simp [intOf]; omega
end Go.Proofs.Ytgecemngfpgcoaa.Nm
