/- FnExactDiskAdd returns true for every argument. -/
import Derived.Test.YtcphhmpedejkcaaDskH
import Derived.Test.YtcphhmpedejkcaaDskF
import Derived.Test.YtcphhmpedejkcaaExDisk
import Derived.Test.YtcphhmpedejkcaaExTools
import Derived.Test.YtcphhmpedejkcaaSzTree
import Derived.Test.YtcphhmpedejkcaaReadIn
import Derived.Test.YtcphhmpedejkcaaHeld
import Derived.Test.YtcphhmpedejkcaaMarks2
import Derived.Test.YtcphhmpedejkcaaInts
import Derived.Test.YtcphhmpedejkcaaStrs
import Derived.Test.YtcphhmpedejkcaaFrame
import Derived.RegionCalls
import Derived.Deep.DeepCutAuto
set_option linter.unusedVariables false
set_option linter.unusedSimpArgs false
namespace Go.Proofs.Ytcphhmpedejkcaa.FnExactDiskAdd
open Go.ChangeShapes Go.WideShapes Go.ChangeAt Go.RowKit Go.Proofs.Ytcphhmpedejkcaa.Nm

theorem boxC_set3 {w : World} {X : Nat} {u0 u1 u2 : Value} (h : BoxC w X #[u0, u1, u2]) (a b c : Value) : BoxC (((w.setCell ⟨X, 0, none⟩ a).setCell ⟨X, 1, none⟩ b).setCell ⟨X, 2, none⟩ c) X #[a, b, c] := by
  refine ⟨by simpa using h.1, fun i => ?_⟩
  have c0 := h.2 0
  have c1 := h.2 1
  have c2 := h.2 2
  match i with
  | 0 => simp [go_sem, c0, c1, c2]
  | 1 => simp [go_sem, c0, c1, c2]
  | 2 => simp [go_sem, c0, c1, c2]
  | n + 3 => rw [World.cell?_setCell_other _ _ _ _ (by simp), World.cell?_setCell_other _ _ _ _ (by simp), World.cell?_setCell_other _ _ _ _ (by simp)]; simpa using h.2 (n + 3)
theorem box_kept3 {w w1 : World} {u0 u1 u2 : Value} {T : TypeId} (h : Below (w.alloc (.cells #[u0, u1, u2] T)).heap.size (w.alloc (.cells #[u0, u1, u2] T)) w1) : w1.cell? ⟨w.heap.size, 0, none⟩ = some u0 ∧ w1.cell? ⟨w.heap.size, 1, none⟩ = some u1 ∧ w1.cell? ⟨w.heap.size, 2, none⟩ = some u2 ∧ w1.frozen? ⟨w.heap.size, 0, none⟩ = false ∧ w1.frozen? ⟨w.heap.size, 1, none⟩ = false ∧ w1.frozen? ⟨w.heap.size, 2, none⟩ = false ∧ w.heap.size < w1.heap.size := by
  have hb := (HB.new w #[u0, u1, u2] T).step h
  exact ⟨hb.cell 0, hb.cell 1, hb.cell 2, hb.frozen 0, hb.frozen 1, hb.frozen 2, hb.lt⟩
theorem box_drew {w w1 : World} {cs : Array Value} {T : TypeId} (h : Below (w.alloc (.cells cs T)).drew.heap.size (w.alloc (.cells cs T)).drew w1) : Below (w.alloc (.cells cs T)).heap.size (w.alloc (.cells cs T)) w1 := bt (bd (Below.refl _ _)) h
theorem dsk_set3 {w : World} {B X : Nat} {v u : Value} {ps : List (Fil × Value)} {qs : List (Dr × Value)} (h : OwnDsk w B v ps u qs) (hX : X < B) (a b c : Value) : OwnDsk (((w.setCell ⟨X, 0, none⟩ a).setCell ⟨X, 1, none⟩ b).setCell ⟨X, 2, none⟩ c) B v ps u qs :=
  ⟨((h.1.set_low hX _).set_low hX _).set_low hX _, ((h.2.set_low hX _).set_low hX _).set_low hX _⟩
set_option maxRecDepth 100000 in
set_option maxHeartbeats 16000000 in
theorem walk (v0 : Value) (fs0 : List Fil) (k0 : Int) (u0 : Value) (ds0 : List Dr) (f1 : Fil) (v1 : Value) (n2 : Int) (w : World) (h0 : DskIn w (fun _ => True) v0 fs0 u0 ds0 ∧ ShortK maxLen fs0 ds0) (h1 : StmsIn w (fun _ => True) v1 f1.body ∧ ShortF maxLen f1) (h2 : (Lit.int .i64 n2).wf = true) :
    Calls Try.prog 3 #[.agg #[v0, .int .i64 k0, u0], .agg #[.int .i64 f1.root, .string (mk f1.pack), .string (mk f1.name), .bool f1.init, .int .i64 f1.stamp, v1], .int .i64 n2] w fun e w' => e = .returned (.bool true) ∧ Below w.heap.size w w' := by
  obtain ⟨hr0, hz0⟩ := h0
  have HR0 := Lib.hid hr0
  have HZ0 := Lib.hid hz0
  obtain ⟨⟨aa0, ca0, rfl, hlc0, hmc0⟩, ⟨ab0, cb0, rfl, hld0, hmd0⟩⟩ := hr0.len
  clear hr0 hz0 hmc0 hmd0 hlc0 hld0
  obtain ⟨hr1, hz1⟩ := h1
  obtain ⟨fr1, fp1, fn1, fi1, ft1, fb1⟩ := f1
  obtain ⟨za1, zb1, zc1⟩ := hz1
  dsimp only at hr1 za1 zb1 zc1 ⊢
  have HR1 := Lib.hid hr1
  have HZ1 := Lib.hid zc1
  obtain ⟨aa1, ca1, rfl, hlc1, hmc1⟩ := hr1.len
  clear hr1 zc1 hmc1
  obtain ⟨C0, hC0⟩ : ∃ C, C = dskCost fs0 ds0 := ⟨_, rfl⟩
  have HC0 := Lib.hid hC0
  clear hC0
  obtain ⟨C1, hC1⟩ : ∃ C, C = filCost (⟨fr1, fp1, fn1, fi1, ft1, fb1⟩ : Fil) := ⟨_, rfl⟩
  have HC1 := Lib.hid hC1
  clear hC1
  obtain ⟨g0, hg0⟩ : ∃ g, g = (diskAdd ⟨fs0, k0, ds0⟩ ⟨fr1, fp1, fn1, fi1, ft1, fb1⟩ n2).1 := ⟨_, rfl⟩
  obtain ⟨g1, hg1⟩ : ∃ g, g = (diskAdd ⟨fs0, k0, ds0⟩ ⟨fr1, fp1, fn1, fi1, ft1, fb1⟩ n2).2 := ⟨_, rfl⟩
  have hgf := diskAdd_fine ⟨fs0, k0, ds0⟩ ⟨fr1, fp1, fn1, fi1, ft1, fb1⟩ n2
  rw [← hg0] at hgf
  have Hgb0 := Lib.hid (dsk_end hgf.1 hgf.2.1 hgf.2.2.1 hgf.2.2.2)
  have hgl := hgf.2.1
  have hgd := hgf.2.2.1
  clear hgf
  have HG0 := Lib.hid hg0
  clear hg0
  have HG1 := Lib.hid hg1
  clear hg1
  have Hsg0 := Lib.hid (sameDsk_self g0.files g0.clock g0.dirs)
  go_enter Try.func3, Try.ntmps3
  go_wp2_with fail
  refine (laws_szDiskX _ fs0 _ _ ds0 _ 1048576 _ (HR0.out.below (by (repeat (with_reducible first | exact Below.refl _ _ | assumption | refine ba ?_ _ | refine bd ?_ | refine bdN ?_ _ | refine bs ?_ (by first | exact Nat.le_refl _ | (dsimp only; omega) | (simp; done)) _ | refine bt ?_ (by assumption))))) HZ0.out (by omega)).mono ?_
  rintro _ w1 ⟨r1, rfl, hr1, hb1⟩
  have hs1 : Below w.heap.size w w1 := by (repeat (with_reducible first | exact Below.refl _ _ | assumption | refine ba ?_ _ | refine bd ?_ | refine bdN ?_ _ | refine bs ?_ (by first | exact Nat.le_refl _ | (dsimp only; omega) | (simp; done)) _ | refine bt ?_ (by assumption)))
  have Bw1 := Lib.hid (hs1)
  have X2 := Lib.hid (show BoxC w1 (w.heap.size) #[.slice aa0 fs0.length ca0, .int .i64 k0, .slice ab0 ds0.length cb0] from ((BoxC.start w #[.slice aa0 fs0.length ca0, .int .i64 k0, .slice ab0 ds0.length cb0] 27).below (bt (by (repeat (with_reducible first | exact Below.refl _ _ | assumption | refine ba ?_ _ | refine bd ?_ | refine bdN ?_ _ | refine bs ?_ (by first | exact Nat.le_refl _ | (dsimp only; omega) | (simp; done)) _ | refine bt ?_ (by assumption)))) hb1)).at (by simp))
  have X3 := Lib.hid (show BoxC w1 (w.heap.size + 1) #[.int .i64 fr1, .string (mk fp1), .string (mk fn1), .bool fi1, .int .i64 ft1, .slice aa1 fb1.length ca1] from ((BoxC.start (w.alloc (.cells #[.slice aa0 fs0.length ca0, .int .i64 k0, .slice ab0 ds0.length cb0] 27)) #[.int .i64 fr1, .string (mk fp1), .string (mk fn1), .bool fi1, .int .i64 ft1, .slice aa1 fb1.length ca1] 30).below hb1).at (by simp))
  rw [← HC0.out] at hr1
  have k4_0 : w1.cell? ⟨w.heap.size + 1, 0, none⟩ = some (.int .i64 fr1) := (X3.out).2 0
  have k4_1 : w1.cell? ⟨w.heap.size + 1, 1, none⟩ = some (.string (mk fp1)) := (X3.out).2 1
  have k4_2 : w1.cell? ⟨w.heap.size + 1, 2, none⟩ = some (.string (mk fn1)) := (X3.out).2 2
  have k4_3 : w1.cell? ⟨w.heap.size + 1, 3, none⟩ = some (.bool fi1) := (X3.out).2 3
  have k4_4 : w1.cell? ⟨w.heap.size + 1, 4, none⟩ = some (.int .i64 ft1) := (X3.out).2 4
  have k4_5 : w1.cell? ⟨w.heap.size + 1, 5, none⟩ = some (.slice aa1 fb1.length ca1) := (X3.out).2 5
  have kl4 := (X3.out).1
  by_cases hn1 : r1 < 0
  · go_wp2_with fail
    go_ret
    exact ⟨rfl, Bw1.out⟩
  obtain ⟨R1, rfl⟩ := Int.eq_ofNat_of_zero_le (show 0 ≤ r1 by omega)
  have hR1 : R1 + C0 ≤ 1048576 := by omega
  clear hr1
  go_wp2_with fail
  refine (laws_szFile _ _ _ _ _ _ fb1 _ R1 _ za1 zb1 (HR1.out.below (bt Bw1.out (by (repeat (with_reducible first | exact Below.refl _ _ | assumption | refine ba ?_ _ | refine bd ?_ | refine bdN ?_ _ | refine bs ?_ (by first | exact Nat.le_refl _ | (dsimp only; omega) | (simp; done)) _ | refine bt ?_ (by assumption)))))) HZ1.out (by omega)).mono ?_
  rintro _ w5 ⟨r5, rfl, hr5, hb5⟩
  clear k4_0 k4_1 k4_2 k4_3 k4_4 k4_5 kl4
  have hs5 : Below w1.heap.size w1 w5 := by (repeat (with_reducible first | exact Below.refl _ _ | assumption | refine ba ?_ _ | refine bd ?_ | refine bdN ?_ _ | refine bs ?_ (by first | exact Nat.le_refl _ | (dsimp only; omega) | (simp; done)) _ | refine bt ?_ (by assumption)))
  have Bw5 := Lib.hid (bt Bw1.out hs5)
  have X6 := Lib.hid (X2.out.below hs5)
  have X7 := Lib.hid (X3.out.below hs5)
  clear Bw1 X2 X3
  rw [← HC1.out] at hr5
  have k8_0 : w5.cell? ⟨w.heap.size, 0, none⟩ = some (.slice aa0 fs0.length ca0) := (X6.out).2 0
  have k8_1 : w5.cell? ⟨w.heap.size, 1, none⟩ = some (.int .i64 k0) := (X6.out).2 1
  have k8_2 : w5.cell? ⟨w.heap.size, 2, none⟩ = some (.slice ab0 ds0.length cb0) := (X6.out).2 2
  have kl8 := (X6.out).1
  by_cases hn5 : r5 < 0
  · go_wp2_with fail
    go_ret
    exact ⟨rfl, Bw5.out⟩
  obtain ⟨R5, rfl⟩ := Int.eq_ofNat_of_zero_le (show 0 ≤ r5 by omega)
  have hR5 : R5 + C1 ≤ R1 := by omega
  clear hr5
  have HL0 := Lib.hid (dskCosts_of (by rw [← HC0.out]; omega : dskCost fs0 ds0 ≤ 1048576))
  have HS0 := Lib.hid (shortK_mono (B := 2000000) (by omega) (shortK_of (by rw [← HC0.out]; omega : dskCost fs0 ds0 ≤ 1048576)))
  have Hse0 := Lib.hid (sameDsk_self fs0 k0 ds0)
  have HE0 := Lib.hid (fun k => (show endD (endF k fs0) ds0 ≤ k + 5 * C0 by rw [HC0.out]; exact endK_le k fs0 ds0))
  have hln0 : fs0.length ≤ 1048576 ∧ ds0.length ≤ 1048576 := ⟨HL0.out.1.1, HL0.out.2.1⟩
  have HS1 := Lib.hid (shortF_of (by rw [← HC1.out]; omega : filCost (⟨fr1, fp1, fn1, fi1, ft1, fb1⟩ : Fil) ≤ 1048576))
  have hln1 : fb1.length ≤ C1 ∧ fp1.length ≤ 1048576 ∧ fn1.length ≤ 1048576 := by have h1 := HC1.out; have h2 := HS1.out.1; have h3 := HS1.out.2.1; have e : filCost (⟨fr1, fp1, fn1, fi1, ft1, fb1⟩ : Fil) = fp1.length + fn1.length + (fb1.length + (fb1.map stmCost).sum) := rfl; dsimp only at h2 h3; omega
  have HB1 := Lib.hid (short_mono (B := 2000000) (by omega) HS1.out.2.2)
  have Hse1 := Lib.hid (show sameFil (⟨fr1, fp1, fn1, fi1, ft1, fb1⟩ : Fil) (⟨fr1, fp1, fn1, fi1, ft1, fb1⟩ : Fil) = true from decide_eq_true rfl)
  clear k8_0 k8_1 k8_2 kl8
  have Hk9 := Lib.hid (fun (w' : World) (hC : Below w5.heap.size w5 w') => (⟨((X6.out).below hC).2 0, ((X6.out).below hC).2 1, ((X6.out).below hC).2 2, ((X7.out).below hC).2 0, ((X7.out).below hC).2 1, ((X7.out).below hC).2 2, ((X7.out).below hC).2 3, ((X7.out).below hC).2 4, ((X7.out).below hC).2 5, hC⟩ : w'.cell? ⟨w.heap.size, 0, none⟩ = some (.slice aa0 fs0.length ca0) ∧ w'.cell? ⟨w.heap.size, 1, none⟩ = some (.int .i64 k0) ∧ w'.cell? ⟨w.heap.size, 2, none⟩ = some (.slice ab0 ds0.length cb0) ∧ w'.cell? ⟨w.heap.size + 1, 0, none⟩ = some (.int .i64 fr1) ∧ w'.cell? ⟨w.heap.size + 1, 1, none⟩ = some (.string (mk fp1)) ∧ w'.cell? ⟨w.heap.size + 1, 2, none⟩ = some (.string (mk fn1)) ∧ w'.cell? ⟨w.heap.size + 1, 3, none⟩ = some (.bool fi1) ∧ w'.cell? ⟨w.heap.size + 1, 4, none⟩ = some (.int .i64 ft1) ∧ w'.cell? ⟨w.heap.size + 1, 5, none⟩ = some (.slice aa1 fb1.length ca1) ∧ Below w5.heap.size w5 w'))
  have HPHk9_0 := Lib.hid (HR0.out.below Bw5.out)
  have HPHk9_1 := Lib.hid (HR1.out.below Bw5.out)
  go_upto_region 8 with fail
  go_cut [8, 9] (fun s8 s9 wx => ∃ (X : Nat) (a : Option Addr) (c : Nat) (e : Option Addr) (f : Nat), s8 = .pointer (some ⟨X, 0, none⟩) ∧ s9 = .bool g1 ∧ BoxC wx X #[.slice a g0.files.length c, .int .i64 g0.clock, .slice e g0.dirs.length f] ∧ DskIn wx (fun _ => True) (.slice a g0.files.length c) g0.files (.slice e g0.dirs.length f) g0.dirs ∧ w5.heap.size ≤ X ∧ Below w5.heap.size w5 wx)
  case first =>
    go_region_held3 (fun w' => w'.cell? ⟨w.heap.size, 0, none⟩ = some (.slice aa0 fs0.length ca0) ∧ w'.cell? ⟨w.heap.size, 1, none⟩ = some (.int .i64 k0) ∧ w'.cell? ⟨w.heap.size, 2, none⟩ = some (.slice ab0 ds0.length cb0) ∧ w'.cell? ⟨w.heap.size + 1, 0, none⟩ = some (.int .i64 fr1) ∧ w'.cell? ⟨w.heap.size + 1, 1, none⟩ = some (.string (mk fp1)) ∧ w'.cell? ⟨w.heap.size + 1, 2, none⟩ = some (.string (mk fn1)) ∧ w'.cell? ⟨w.heap.size + 1, 3, none⟩ = some (.bool fi1) ∧ w'.cell? ⟨w.heap.size + 1, 4, none⟩ = some (.int .i64 ft1) ∧ w'.cell? ⟨w.heap.size + 1, 5, none⟩ = some (.slice aa1 fb1.length ca1) ∧ Below w5.heap.size w5 w')
      (exact Hk9.out _ (by (repeat (with_reducible first | exact Below.refl _ _ | assumption | refine ba ?_ _ | refine bd ?_ | refine bdN ?_ _ | refine bs ?_ (by first | exact Nat.le_refl _ | (dsimp only; omega) | (simp; done)) _ | refine bt ?_ (by assumption)))))
      (first
        | (go_at_call 13; refine (laws_toDiskX _ fs0 _ _ ds0 _ _ (HPHk9_0.out.below (by (repeat (with_reducible first | exact Below.refl _ _ | assumption | refine ba ?_ _ | refine bd ?_ | refine bdN ?_ _ | refine bs ?_ (by first | exact Nat.le_refl _ | (dsimp only; omega) | (simp; done)) _ | refine bt ?_ (by assumption))))) HL0.out).mono ?_; rintro _ w10 ⟨v10, ps10, u10, qs10, rfl, hps10, hqs10, ho10, hq10, hb10⟩; obtain ⟨a10, c10, rfl⟩ := ho10.len; obtain ⟨e10, f10, rfl⟩ := hq10.len; have hpl10 : ps10.length = fs0.length := (by rw [← hps10, List.length_map]); have hql10 : qs10.length = ds0.length := (by rw [← hqs10, List.length_map]); rw [hpl10] at ho10 ⊢; rw [hql10] at hq10 ⊢; have I10 := Lib.hid (show DskIn w10 (fun _ => True) (.slice a10 fs0.length c10) fs0 (.slice e10 ds0.length f10) ds0 from ⟨by have h := ho10.fils (D := (fun _ => True)) (fun _ _ => trivial); rw [hps10] at h; exact h, by have h := hq10.dirs (D := (fun _ => True)) (fun _ _ => trivial); rw [hqs10] at h; exact h⟩); have O10 := Lib.hid (show OwnDsk w10 _ _ ps10 _ qs10 from ⟨ho10, hq10⟩); have Hps10 := Lib.hid hps10; have Hqs10 := Lib.hid hqs10; clear ho10 hps10 hq10 hqs10; have hlt10 := (show Below w5.heap.size w5 w10 by (repeat (with_reducible first | exact Below.refl _ _ | assumption | refine ba ?_ _ | refine bd ?_ | refine bdN ?_ _ | refine bs ?_ (by first | exact Nat.le_refl _ | (dsimp only; omega) | (simp; done)) _ | refine bt ?_ (by assumption)))).size)
        | (go_at_call 14; refine (laws_toFile _ _ _ _ _ _ fb1 _ _ (HPHk9_1.out.below (by (repeat (with_reducible first | exact Below.refl _ _ | assumption | refine ba ?_ _ | refine bd ?_ | refine bdN ?_ _ | refine bs ?_ (by first | exact Nat.le_refl _ | (dsimp only; omega) | (simp; done)) _ | refine bt ?_ (by assumption))))) (by omega)).mono ?_; rintro _ w11 ⟨v11, rfl, ho11, hb11⟩; obtain ⟨a11, c11, rfl⟩ := owns_shape ho11; unfold filV; dsimp only; have I11 := Lib.hid (show StmsIn w11 (fun _ => True) (.slice a11 fb1.length c11) fb1 from StmsIn.of_owns ho11 (fun _ _ => trivial)); have O11 := Lib.hid ho11; clear ho11; have hlt11 := (show Below w5.heap.size w5 w11 by (repeat (with_reducible first | exact Below.refl _ _ | assumption | refine ba ?_ _ | refine bd ?_ | refine bdN ?_ _ | refine bs ?_ (by first | exact Nat.le_refl _ | (dsimp only; omega) | (simp; done)) _ | refine bt ?_ (by assumption)))).size)
        | (go_at_call 12; refine (spec_DiskAdd _ fs0 _ _ _ ds0 _ _ _ _ _ _ _ _ _ fb1 n2 _ (O10.out.below (by (repeat (with_reducible first | exact Below.refl _ _ | assumption | refine ba ?_ _ | refine bd ?_ | refine bdN ?_ _ | refine bs ?_ (by first | exact Nat.le_refl _ | (dsimp only; omega) | (simp; done)) _ | refine bt ?_ (by assumption))))) Hps10.out Hqs10.out HS0.out HL0.out (by omega) (owns_below O11.out (by (repeat (with_reducible first | exact Below.refl _ _ | assumption | refine ba ?_ _ | refine bd ?_ | refine bdN ?_ _ | refine bs ?_ (by first | exact Nat.le_refl _ | (dsimp only; omega) | (simp; done)) _ | refine bt ?_ (by assumption))))) HS1.out).mono ?_; rintro _ w12 ⟨v12_0, ps12_0, u12_0, qs12_0, rfl, hps12_0, hqs12_0, ho12_0, hq12_0, hb12⟩; (try rw [← HG0.out]); (try rw [← HG0.out] at hps12_0); (try rw [← HG0.out] at hqs12_0); (try rw [← HG0.out] at ho12_0); (try rw [← HG0.out] at hq12_0); obtain ⟨a12_0, c12_0, rfl⟩ := ho12_0.len; obtain ⟨e12_0, f12_0, rfl⟩ := hq12_0.len; have hpl12_0 : ps12_0.length = g0.files.length := (by rw [← hps12_0, List.length_map]); have hql12_0 : qs12_0.length = g0.dirs.length := (by rw [← hqs12_0, List.length_map]); rw [hpl12_0] at ho12_0 ⊢; rw [hql12_0] at hq12_0 ⊢; have I12_0 := Lib.hid (show DskIn w12 (fun _ => True) (.slice a12_0 g0.files.length c12_0) g0.files (.slice e12_0 g0.dirs.length f12_0) g0.dirs from ⟨by have h := ho12_0.fils (D := (fun _ => True)) (fun _ _ => trivial); rw [hps12_0] at h; exact h, by have h := hq12_0.dirs (D := (fun _ => True)) (fun _ _ => trivial); rw [hqs12_0] at h; exact h⟩); have O12_0 := Lib.hid (show OwnDsk w12 _ _ ps12_0 _ qs12_0 from ⟨ho12_0, hq12_0⟩); have Hps12_0 := Lib.hid hps12_0; have Hqs12_0 := Lib.hid hqs12_0; clear ho12_0 hps12_0 hq12_0 hqs12_0; (try rw [← HG1.out]); have hlt12 := (show Below w5.heap.size w5 w12 by (repeat (with_reducible first | exact Below.refl _ _ | assumption | refine ba ?_ _ | refine bd ?_ | refine bdN ?_ _ | refine bs ?_ (by first | exact Nat.le_refl _ | (dsimp only; omega) | (simp; done)) _ | refine bt ?_ (by assumption)))).size; (first | (have hxk := box_kept3 hb12; obtain ⟨xc0, xc1, xc2, xf0, xf1, xf2, xs⟩ := hxk) | (have hxk := box_kept3 (bt hb11 hb12); obtain ⟨xc0, xc1, xc2, xf0, xf1, xf2, xs⟩ := hxk) | (have hxk := box_kept3 (bt (bt (box_drew hb10) hb11) hb12); obtain ⟨xc0, xc1, xc2, xf0, xf1, xf2, xs⟩ := hxk) | skip)))
    all_goals (go_wp2_with fail; go_meet; refine ⟨_, a12_0, c12_0, e12_0, f12_0, rfl, rfl, ?_, ?_, ?_, ?_⟩)
    all_goals first
      | exact ((BoxC.start _ _ _).at (by first | rfl | simp))
      | exact boxC_set3 (u0 := .slice none 0 0) (u1 := .int .i64 0) (u2 := .slice none 0 0) (((BoxC.start _ _ _).below hb12).at (by first | rfl | simp)) _ _ _
      | exact boxC_set3 (u0 := .slice none 0 0) (u1 := .int .i64 0) (u2 := .slice none 0 0) ((((BoxC.start _ _ _).below hb11).below hb12).at (by first | rfl | simp)) _ _ _
      | exact boxC_set3 (u0 := .slice none 0 0) (u1 := .int .i64 0) (u2 := .slice none 0 0) (((((BoxC.start _ _ _).below (box_drew hb10)).below hb11).below hb12).at (by first | rfl | simp)) _ _ _
      | exact I12_0.out.below (ba (Below.refl _ _) _)
      | (exact dsk_in (dsk_set3 O12_0.out (X := w11.heap.size) (by simp; done) _ _ _) Hps12_0.out Hqs12_0.out)
      | (exact dsk_in (dsk_set3 O12_0.out (X := w10.heap.size) (by have h1 := hb11.size; simp at h1 ⊢; omega) _ _ _) Hps12_0.out Hqs12_0.out)
      | (exact dsk_in (dsk_set3 O12_0.out (X := w5.heap.size) (by have h0 := (box_drew hb10).size; have h1 := hb11.size; simp at h0 h1 ⊢; omega) _ _ _) Hps12_0.out Hqs12_0.out)
      | (simp; done)
      | (simp; omega)
      | omega
      | (go_split_ands; assumption)
      | ((repeat (with_reducible first | exact Below.refl _ _ | assumption | refine ba ?_ _ | refine bd ?_ | refine bdN ?_ _ | refine bs ?_ (by first | exact Nat.le_refl _ | (dsimp only; omega) | (simp; done)) _ | refine bt ?_ (by assumption))); done)
  case rest =>
    obtain ⟨X12, a12_0, c12_0, e12_0, f12_0, rfl, rfl, hX12, hI12, hx12, hcb12⟩ := hcut
    have XC12 := Lib.hid hX12
    have IC12 := Lib.hid hI12
    clear hX12 hI12
    have Bw12 := Lib.hid (bt Bw5.out hcb12)
    have X13 := Lib.hid (X6.out.below hcb12)
    have X14 := Lib.hid (X7.out.below hcb12)
    clear Bw5 X6 X7
    obtain ⟨WW, hWW⟩ : ∃ WW, WW = wc := ⟨_, rfl⟩
    have hWs : WW.heap.size = wc.heap.size + 0 := by rw [hWW]; simp
    have hcW : Below wc.heap.size wc WW := by rw [hWW]; (repeat (with_reducible first | exact Below.refl _ _ | assumption | refine ba ?_ _ | refine bd ?_ | refine bdN ?_ _ | refine bs ?_ (by first | exact Nat.le_refl _ | (dsimp only; omega) | (simp; done)) _ | refine bt ?_ (by assumption)))
    have IW0 := Lib.hid (IC12.out.below hcW)
    have HwW := Lib.hid (bt Bw12.out hcW)
    have Hpl0 := Lib.hid (show w.heap.size < WW.heap.size by have := X13.out.1; omega)
    have Hpl1 := Lib.hid (show w.heap.size + 1 < WW.heap.size by have := X14.out.1; omega)
    have Hwl0 := Lib.hid (show X12 < WW.heap.size by have := XC12.out.1; omega)
    have HWs := Lib.hid hWs
    clear hWs hcW
    have k15_0 : wc.cell? ⟨w.heap.size, 0, none⟩ = some (.slice aa0 fs0.length ca0) := (X13.out).2 0
    have k15_1 : wc.cell? ⟨w.heap.size, 1, none⟩ = some (.int .i64 k0) := (X13.out).2 1
    have k15_2 : wc.cell? ⟨w.heap.size, 2, none⟩ = some (.slice ab0 ds0.length cb0) := (X13.out).2 2
    have kl15 := (X13.out).1
    go_wp2_with fail
    refine (laws_toDiskX _ fs0 _ _ ds0 _ _ (HR0.out.below (bt Bw12.out (by (repeat (with_reducible first | exact Below.refl _ _ | assumption | refine ba ?_ _ | refine bd ?_ | refine bdN ?_ _ | refine bs ?_ (by first | exact Nat.le_refl _ | (dsimp only; omega) | (simp; done)) _ | refine bt ?_ (by assumption)))))) HL0.out).mono ?_
    rintro _ w16 ⟨v16, ps16, u16, qs16, rfl, hps16, hqs16, ho16, hq16, hb16⟩
    clear k15_0 k15_1 k15_2 kl15
    have hs16 : Below wc.heap.size wc w16 := by (repeat (with_reducible first | exact Below.refl _ _ | assumption | refine ba ?_ _ | refine bd ?_ | refine bdN ?_ _ | refine bs ?_ (by first | exact Nat.le_refl _ | (dsimp only; omega) | (simp; done)) _ | refine bt ?_ (by assumption)))
    have Bw16 := Lib.hid (bt Bw12.out hs16)
    have BW16 := Lib.hid (show Below WW.heap.size WW w16 by rw [hWW]; exact hb16)
    have X17 := Lib.hid (X13.out.below hs16)
    have X18 := Lib.hid (X14.out.below hs16)
    have X19 := Lib.hid (XC12.out.below hs16)
    clear Bw12 X13 X14 XC12
    have Hz16 := Lib.hid (show wc.heap.size ≤ w16.heap.size by have h := hb16.size; first | omega | (simp at h; omega))
    obtain ⟨a16, c16, rfl⟩ := ho16.len
    obtain ⟨e16, f16, rfl⟩ := hq16.len
    have hpl16 : ps16.length = fs0.length := (by rw [← hps16, List.length_map])
    have hql16 : qs16.length = ds0.length := (by rw [← hqs16, List.length_map])
    rw [hpl16] at ho16 ⊢
    rw [hql16] at hq16 ⊢
    have I16 := Lib.hid (show DskIn w16 (fun _ => True) (.slice a16 fs0.length c16) fs0 (.slice e16 ds0.length f16) ds0 from ⟨by have h := ho16.fils (D := (fun _ => True)) (fun _ _ => trivial); rw [hps16] at h; exact h, by have h := hq16.dirs (D := (fun _ => True)) (fun _ _ => trivial); rw [hqs16] at h; exact h⟩)
    have O16 := Lib.hid (show OwnDsk w16 _ _ ps16 _ qs16 from ⟨ho16, hq16⟩)
    have Hps16 := Lib.hid hps16
    have Hqs16 := Lib.hid hqs16
    clear ho16 hps16 hq16 hqs16
    have OO16 := Lib.hid (O16.out.mono (show wc.heap.size ≤ _ by simp))
    clear O16
    have Hv16 := Lib.hid (fun b (hb : BlkK (.slice a16 fs0.length c16) ps16 (.slice e16 ds0.length f16) qs16 b) => (show wc.heap.size ≤ b ∧ b < w16.heap.size by have h := (blkK_ge OO16.out) b hb; first | exact h | (simp at h; exact h)))
    have k20_0 : w16.cell? ⟨w.heap.size + 1, 0, none⟩ = some (.int .i64 fr1) := (X18.out).2 0
    have k20_1 : w16.cell? ⟨w.heap.size + 1, 1, none⟩ = some (.string (mk fp1)) := (X18.out).2 1
    have k20_2 : w16.cell? ⟨w.heap.size + 1, 2, none⟩ = some (.string (mk fn1)) := (X18.out).2 2
    have k20_3 : w16.cell? ⟨w.heap.size + 1, 3, none⟩ = some (.bool fi1) := (X18.out).2 3
    have k20_4 : w16.cell? ⟨w.heap.size + 1, 4, none⟩ = some (.int .i64 ft1) := (X18.out).2 4
    have k20_5 : w16.cell? ⟨w.heap.size + 1, 5, none⟩ = some (.slice aa1 fb1.length ca1) := (X18.out).2 5
    have kl20 := (X18.out).1
    go_wp2_with fail
    refine (laws_toFile _ _ _ _ _ _ fb1 _ _ (HR1.out.below (bt Bw16.out (by (repeat (with_reducible first | exact Below.refl _ _ | assumption | refine ba ?_ _ | refine bd ?_ | refine bdN ?_ _ | refine bs ?_ (by first | exact Nat.le_refl _ | (dsimp only; omega) | (simp; done)) _ | refine bt ?_ (by assumption)))))) (by omega)).mono ?_
    rintro _ w21 ⟨v21, rfl, ho21, hb21⟩
    clear k20_0 k20_1 k20_2 k20_3 k20_4 k20_5 kl20
    have hs21 : Below w16.heap.size w16 w21 := by (repeat (with_reducible first | exact Below.refl _ _ | assumption | refine ba ?_ _ | refine bd ?_ | refine bdN ?_ _ | refine bs ?_ (by first | exact Nat.le_refl _ | (dsimp only; omega) | (simp; done)) _ | refine bt ?_ (by assumption)))
    have Bw21 := Lib.hid (bt Bw16.out hs21)
    have BW21 := Lib.hid (bt BW16.out hs21)
    have X22 := Lib.hid (X17.out.below hs21)
    have X23 := Lib.hid (X18.out.below hs21)
    have X24 := Lib.hid (X19.out.below hs21)
    have X25 := Lib.hid (show BoxC w21 (w16.heap.size) #[.slice a16 fs0.length c16, .int .i64 k0, .slice e16 ds0.length f16] from ((BoxC.start w16 #[.slice a16 fs0.length c16, .int .i64 k0, .slice e16 ds0.length f16] 38).below hb21).at (by simp))
    have J26 := Lib.hid (I16.out.below hs21)
    have Q26 := Lib.hid (OO16.out.below hs21)
    clear Bw16 BW16 X17 X18 X19 I16 OO16
    have Hz21 := Lib.hid (show w16.heap.size + 1 ≤ w21.heap.size by have h := hb21.size; first | omega | (simp at h; omega))
    obtain ⟨a21, c21, rfl⟩ := owns_shape ho21
    unfold filV; dsimp only
    have I21 := Lib.hid (show StmsIn w21 (fun _ => True) (.slice a21 fb1.length c21) fb1 from StmsIn.of_owns ho21 (fun _ _ => trivial))
    have O21 := Lib.hid ho21
    clear ho21
    have OO21 := Lib.hid (owns_mono O21.out (show w16.heap.size + 1 ≤ _ by simp))
    clear O21
    have Hv21 := Lib.hid (fun b (hb : (Value.slice a21 fb1.length c21).ownBlock = some b) => (show w16.heap.size + 1 ≤ b ∧ b < w21.heap.size by have h := (fun b hb => OO21.out.lt b hb) b hb; first | exact h | (simp at h; exact h)))
    have k27_0 : w21.cell? ⟨w16.heap.size, 0, none⟩ = some (.slice a16 fs0.length c16) := (X25.out).2 0
    have k27_1 : w21.cell? ⟨w16.heap.size, 1, none⟩ = some (.int .i64 k0) := (X25.out).2 1
    have k27_2 : w21.cell? ⟨w16.heap.size, 2, none⟩ = some (.slice e16 ds0.length f16) := (X25.out).2 2
    have kl27 := (X25.out).1
    go_wp2_with fail
    refine (impl_DiskAdd _ fs0 _ _ _ ds0 _ _ _ _ _ _ _ _ _ fb1 n2 _ (Q26.out.below (by (repeat (with_reducible first | exact Below.refl _ _ | assumption | refine ba ?_ _ | refine bd ?_ | refine bdN ?_ _ | refine bs ?_ (by first | exact Nat.le_refl _ | (dsimp only; omega) | (simp; done)) _ | refine bt ?_ (by assumption))))) Hps16.out Hqs16.out HS0.out (owns_below OO21.out (by (repeat (with_reducible first | exact Below.refl _ _ | assumption | refine ba ?_ _ | refine bd ?_ | refine bdN ?_ _ | refine bs ?_ (by first | exact Nat.le_refl _ | (dsimp only; omega) | (simp; done)) _ | refine bt ?_ (by assumption))))) HS1.out).mono ?_
    rintro _ w28 ⟨v28_0, ps28_0, u28_0, qs28_0, rfl, hps28_0, hqs28_0, ho28_0, hq28_0, hb28⟩
    clear k27_0 k27_1 k27_2 kl27
    have hs28 : Below w21.heap.size w21 w28 := by (repeat (with_reducible first | exact Below.refl _ _ | assumption | refine ba ?_ _ | refine bd ?_ | refine bdN ?_ _ | refine bs ?_ (by first | exact Nat.le_refl _ | (dsimp only; omega) | (simp; done)) _ | refine bt ?_ (by assumption)))
    have Bw28 := Lib.hid (bt Bw21.out hs28)
    have BW28 := Lib.hid (bt BW21.out hs28)
    have X29 := Lib.hid (X22.out.below hs28)
    have X30 := Lib.hid (X23.out.below hs28)
    have X31 := Lib.hid (X24.out.below hs28)
    have X32 := Lib.hid (X25.out.below hs28)
    have X33 := Lib.hid (show BoxC w28 (w21.heap.size) #[.int .i64 fr1, .string (mk fp1), .string (mk fn1), .bool fi1, .int .i64 ft1, .slice a21 fb1.length c21] from ((BoxC.start w21 #[.int .i64 fr1, .string (mk fp1), .string (mk fn1), .bool fi1, .int .i64 ft1, .slice a21 fb1.length c21] 44).below hb28).at (by simp))
    have J34 := Lib.hid (J26.out.below hs28)
    have Q34 := Lib.hid (Q26.out.below hs28)
    have J35 := Lib.hid (I21.out.below hs28)
    have Q35 := Lib.hid (owns_below OO21.out hs28)
    clear Bw21 BW21 X22 X23 X24 X25 J26 Q26 I21 OO21
    have Hz28 := Lib.hid (show w21.heap.size + 1 ≤ w28.heap.size by have h := hb28.size; first | omega | (simp at h; omega))
    try rw [← HG0.out]
    try rw [← HG0.out] at hps28_0
    try rw [← HG0.out] at hqs28_0
    try rw [← HG0.out] at ho28_0
    try rw [← HG0.out] at hq28_0
    obtain ⟨a28_0, c28_0, rfl⟩ := ho28_0.len
    obtain ⟨e28_0, f28_0, rfl⟩ := hq28_0.len
    have hpl28_0 : ps28_0.length = g0.files.length := (by rw [← hps28_0, List.length_map])
    have hql28_0 : qs28_0.length = g0.dirs.length := (by rw [← hqs28_0, List.length_map])
    rw [hpl28_0] at ho28_0 ⊢
    rw [hql28_0] at hq28_0 ⊢
    have I28_0 := Lib.hid (show DskIn w28 (fun _ => True) (.slice a28_0 g0.files.length c28_0) g0.files (.slice e28_0 g0.dirs.length f28_0) g0.dirs from ⟨by have h := ho28_0.fils (D := (fun _ => True)) (fun _ _ => trivial); rw [hps28_0] at h; exact h, by have h := hq28_0.dirs (D := (fun _ => True)) (fun _ _ => trivial); rw [hqs28_0] at h; exact h⟩)
    have O28_0 := Lib.hid (show OwnDsk w28 _ _ ps28_0 _ qs28_0 from ⟨ho28_0, hq28_0⟩)
    have Hps28_0 := Lib.hid hps28_0
    have Hqs28_0 := Lib.hid hqs28_0
    clear ho28_0 hps28_0 hq28_0 hqs28_0
    try rw [← HG1.out]
    have OO28_0 := Lib.hid (O28_0.out.mono (show w21.heap.size + 1 ≤ _ by simp))
    clear O28_0
    have Hv36 := Lib.hid (fun b (hb : BlkK (.slice a28_0 g0.files.length c28_0) ps28_0 (.slice e28_0 g0.dirs.length f28_0) qs28_0 b) => (show w21.heap.size + 1 ≤ b ∧ b < w28.heap.size by have h := (blkK_ge OO28_0.out) b hb; first | exact h | (simp at h; exact h)))
    have k37_0 : w28.cell? ⟨X12, 0, none⟩ = some (.slice a12_0 g0.files.length c12_0) := (X31.out).2 0
    have k37_1 : w28.cell? ⟨X12, 1, none⟩ = some (.int .i64 g0.clock) := (X31.out).2 1
    have k37_2 : w28.cell? ⟨X12, 2, none⟩ = some (.slice e12_0 g0.dirs.length f12_0) := (X31.out).2 2
    have kl37 := (X31.out).1
    go_wp2_with fail
    refine (laws_eqDiskX _ _ g0.files g0.files _ _ _ _ g0.dirs g0.dirs (fun _ => True) (fun _ => True) _ (I28_0.out.below (by (repeat (with_reducible first | exact Below.refl _ _ | assumption | refine ba ?_ _ | refine bd ?_ | refine bdN ?_ _ | refine bs ?_ (by first | exact Nat.le_refl _ | (dsimp only; omega) | (simp; done)) _ | refine bt ?_ (by assumption))))) (IW0.out.below (bt BW28.out (by (repeat (with_reducible first | exact Below.refl _ _ | assumption | refine ba ?_ _ | refine bd ?_ | refine bdN ?_ _ | refine bs ?_ (by first | exact Nat.le_refl _ | (dsimp only; omega) | (simp; done)) _ | refine bt ?_ (by assumption))))))).mono ?_
    rintro _ w38 ⟨rfl, hb38⟩
    clear k37_0 k37_1 k37_2 kl37
    have hs38 : Below w28.heap.size w28 w38 := by (repeat (with_reducible first | exact Below.refl _ _ | assumption | refine ba ?_ _ | refine bd ?_ | refine bdN ?_ _ | refine bs ?_ (by first | exact Nat.le_refl _ | (dsimp only; omega) | (simp; done)) _ | refine bt ?_ (by assumption)))
    have Bw38 := Lib.hid (bt Bw28.out hs38)
    have BW38 := Lib.hid (bt BW28.out hs38)
    have X39 := Lib.hid (X29.out.below hs38)
    have X40 := Lib.hid (X30.out.below hs38)
    have X41 := Lib.hid (X31.out.below hs38)
    have X42 := Lib.hid (X32.out.below hs38)
    have X43 := Lib.hid (X33.out.below hs38)
    have X44 := Lib.hid (show BoxC w38 (w28.heap.size) #[.slice a28_0 g0.files.length c28_0, .int .i64 g0.clock, .slice e28_0 g0.dirs.length f28_0] from ((BoxC.start w28 #[.slice a28_0 g0.files.length c28_0, .int .i64 g0.clock, .slice e28_0 g0.dirs.length f28_0] 38).below hb38).at (by simp))
    have J45 := Lib.hid (J34.out.below hs38)
    have Q45 := Lib.hid (Q34.out.below hs38)
    have J46 := Lib.hid (J35.out.below hs38)
    have Q46 := Lib.hid (owns_below Q35.out hs38)
    have J47 := Lib.hid (I28_0.out.below hs38)
    have Q47 := Lib.hid (OO28_0.out.below hs38)
    clear Bw28 BW28 X29 X30 X31 X32 X33 J34 Q34 J35 Q35 I28_0 OO28_0
    rw [Hsg0.out]
    have Hk48 := Lib.hid (fun (w' : World) (hC : Below w38.heap.size w38 w') => (⟨((X39.out).below hC).2 0, ((X39.out).below hC).2 1, ((X39.out).below hC).2 2, ((X42.out).below hC).2 0, ((X42.out).below hC).2 1, ((X42.out).below hC).2 2, hC⟩ : w'.cell? ⟨w.heap.size, 0, none⟩ = some (.slice aa0 fs0.length ca0) ∧ w'.cell? ⟨w.heap.size, 1, none⟩ = some (.int .i64 k0) ∧ w'.cell? ⟨w.heap.size, 2, none⟩ = some (.slice ab0 ds0.length cb0) ∧ w'.cell? ⟨w16.heap.size, 0, none⟩ = some (.slice a16 fs0.length c16) ∧ w'.cell? ⟨w16.heap.size, 1, none⟩ = some (.int .i64 k0) ∧ w'.cell? ⟨w16.heap.size, 2, none⟩ = some (.slice e16 ds0.length f16) ∧ Below w38.heap.size w38 w'))
    have HPHk48 := Lib.hid (HR0.out.below Bw38.out)
    go_wp2_with fail
    go_region_held3 (fun w' => w'.cell? ⟨w.heap.size, 0, none⟩ = some (.slice aa0 fs0.length ca0) ∧ w'.cell? ⟨w.heap.size, 1, none⟩ = some (.int .i64 k0) ∧ w'.cell? ⟨w.heap.size, 2, none⟩ = some (.slice ab0 ds0.length cb0) ∧ w'.cell? ⟨w16.heap.size, 0, none⟩ = some (.slice a16 fs0.length c16) ∧ w'.cell? ⟨w16.heap.size, 1, none⟩ = some (.int .i64 k0) ∧ w'.cell? ⟨w16.heap.size, 2, none⟩ = some (.slice e16 ds0.length f16) ∧ Below w38.heap.size w38 w')
      (exact Hk48.out _ (by (repeat (with_reducible first | exact Below.refl _ _ | assumption | refine ba ?_ _ | refine bd ?_ | refine bdN ?_ _ | refine bs ?_ (by first | exact Nat.le_refl _ | (dsimp only; omega) | (simp; done)) _ | refine bt ?_ (by assumption)))))
      (first
        | (go_at_call 13; refine (laws_toDiskX _ fs0 _ _ ds0 _ _ (HPHk48.out.below (by (repeat (with_reducible first | exact Below.refl _ _ | assumption | refine ba ?_ _ | refine bd ?_ | refine bdN ?_ _ | refine bs ?_ (by first | exact Nat.le_refl _ | (dsimp only; omega) | (simp; done)) _ | refine bt ?_ (by assumption))))) HL0.out).mono ?_; rintro _ w49 ⟨v49, ps49, u49, qs49, rfl, hps49, hqs49, ho49, hq49, hb49⟩; obtain ⟨a49, c49, rfl⟩ := ho49.len; obtain ⟨e49, f49, rfl⟩ := hq49.len; have hpl49 : ps49.length = fs0.length := (by rw [← hps49, List.length_map]); have hql49 : qs49.length = ds0.length := (by rw [← hqs49, List.length_map]); rw [hpl49] at ho49 ⊢; rw [hql49] at hq49 ⊢; have I49 := Lib.hid (show DskIn w49 (fun _ => True) (.slice a49 fs0.length c49) fs0 (.slice e49 ds0.length f49) ds0 from ⟨by have h := ho49.fils (D := (fun _ => True)) (fun _ _ => trivial); rw [hps49] at h; exact h, by have h := hq49.dirs (D := (fun _ => True)) (fun _ _ => trivial); rw [hqs49] at h; exact h⟩); have O49 := Lib.hid (show OwnDsk w49 _ _ ps49 _ qs49 from ⟨ho49, hq49⟩); have Hps49 := Lib.hid hps49; have Hqs49 := Lib.hid hqs49; clear ho49 hps49 hq49 hqs49)
        | (go_at_call 16; refine (laws_eqDiskX _ _ fs0 fs0 _ _ _ _ ds0 ds0 (fun _ => True) (fun _ => True) _ (J45.out.below (by (repeat (with_reducible first | exact Below.refl _ _ | assumption | refine ba ?_ _ | refine bd ?_ | refine bdN ?_ _ | refine bs ?_ (by first | exact Nat.le_refl _ | (dsimp only; omega) | (simp; done)) _ | refine bt ?_ (by assumption))))) (I49.out.below (by (repeat (with_reducible first | exact Below.refl _ _ | assumption | refine ba ?_ _ | refine bd ?_ | refine bdN ?_ _ | refine bs ?_ (by first | exact Nat.le_refl _ | (dsimp only; omega) | (simp; done)) _ | refine bt ?_ (by assumption)))))).mono ?_; rintro _ w50 ⟨rfl, hb50⟩; rw [Hse0.out]))
    have hs50 : Below w38.heap.size w38 w50 := by (repeat (with_reducible first | exact Below.refl _ _ | assumption | refine ba ?_ _ | refine bd ?_ | refine bdN ?_ _ | refine bs ?_ (by first | exact Nat.le_refl _ | (dsimp only; omega) | (simp; done)) _ | refine bt ?_ (by assumption)))
    have Bw50 := Lib.hid (bt Bw38.out hs50)
    have BW50 := Lib.hid (bt BW38.out hs50)
    have X51 := Lib.hid (X39.out.below hs50)
    have X52 := Lib.hid (X40.out.below hs50)
    have X53 := Lib.hid (X41.out.below hs50)
    have X54 := Lib.hid (X42.out.below hs50)
    have X55 := Lib.hid (X43.out.below hs50)
    have X56 := Lib.hid (X44.out.below hs50)
    have J57 := Lib.hid (J45.out.below hs50)
    have Q57 := Lib.hid (Q45.out.below hs50)
    have J58 := Lib.hid (J46.out.below hs50)
    have Q58 := Lib.hid (owns_below Q46.out hs50)
    have J59 := Lib.hid (J47.out.below hs50)
    have Q59 := Lib.hid (Q47.out.below hs50)
    clear Bw38 BW38 X39 X40 X41 X42 X43 X44 J45 Q45 J46 Q46 J47 Q47
    have Hk60 := Lib.hid (fun (w' : World) (hC : Below w50.heap.size w50 w') => (⟨((X52.out).below hC).2 0, ((X52.out).below hC).2 1, ((X52.out).below hC).2 2, ((X52.out).below hC).2 3, ((X52.out).below hC).2 4, ((X52.out).below hC).2 5, ((X55.out).below hC).2 0, ((X55.out).below hC).2 1, ((X55.out).below hC).2 2, ((X55.out).below hC).2 3, ((X55.out).below hC).2 4, ((X55.out).below hC).2 5, hC⟩ : w'.cell? ⟨w.heap.size + 1, 0, none⟩ = some (.int .i64 fr1) ∧ w'.cell? ⟨w.heap.size + 1, 1, none⟩ = some (.string (mk fp1)) ∧ w'.cell? ⟨w.heap.size + 1, 2, none⟩ = some (.string (mk fn1)) ∧ w'.cell? ⟨w.heap.size + 1, 3, none⟩ = some (.bool fi1) ∧ w'.cell? ⟨w.heap.size + 1, 4, none⟩ = some (.int .i64 ft1) ∧ w'.cell? ⟨w.heap.size + 1, 5, none⟩ = some (.slice aa1 fb1.length ca1) ∧ w'.cell? ⟨w21.heap.size, 0, none⟩ = some (.int .i64 fr1) ∧ w'.cell? ⟨w21.heap.size, 1, none⟩ = some (.string (mk fp1)) ∧ w'.cell? ⟨w21.heap.size, 2, none⟩ = some (.string (mk fn1)) ∧ w'.cell? ⟨w21.heap.size, 3, none⟩ = some (.bool fi1) ∧ w'.cell? ⟨w21.heap.size, 4, none⟩ = some (.int .i64 ft1) ∧ w'.cell? ⟨w21.heap.size, 5, none⟩ = some (.slice a21 fb1.length c21) ∧ Below w50.heap.size w50 w'))
    have HPHk60 := Lib.hid (HR1.out.below Bw50.out)
    go_wp2_with fail
    go_region_held3 (fun w' => w'.cell? ⟨w.heap.size + 1, 0, none⟩ = some (.int .i64 fr1) ∧ w'.cell? ⟨w.heap.size + 1, 1, none⟩ = some (.string (mk fp1)) ∧ w'.cell? ⟨w.heap.size + 1, 2, none⟩ = some (.string (mk fn1)) ∧ w'.cell? ⟨w.heap.size + 1, 3, none⟩ = some (.bool fi1) ∧ w'.cell? ⟨w.heap.size + 1, 4, none⟩ = some (.int .i64 ft1) ∧ w'.cell? ⟨w.heap.size + 1, 5, none⟩ = some (.slice aa1 fb1.length ca1) ∧ w'.cell? ⟨w21.heap.size, 0, none⟩ = some (.int .i64 fr1) ∧ w'.cell? ⟨w21.heap.size, 1, none⟩ = some (.string (mk fp1)) ∧ w'.cell? ⟨w21.heap.size, 2, none⟩ = some (.string (mk fn1)) ∧ w'.cell? ⟨w21.heap.size, 3, none⟩ = some (.bool fi1) ∧ w'.cell? ⟨w21.heap.size, 4, none⟩ = some (.int .i64 ft1) ∧ w'.cell? ⟨w21.heap.size, 5, none⟩ = some (.slice a21 fb1.length c21) ∧ Below w50.heap.size w50 w')
      (exact Hk60.out _ (by (repeat (with_reducible first | exact Below.refl _ _ | assumption | refine ba ?_ _ | refine bd ?_ | refine bdN ?_ _ | refine bs ?_ (by first | exact Nat.le_refl _ | (dsimp only; omega) | (simp; done)) _ | refine bt ?_ (by assumption)))))
      (first
        | (go_at_call 14; refine (laws_toFile _ _ _ _ _ _ fb1 _ _ (HPHk60.out.below (by (repeat (with_reducible first | exact Below.refl _ _ | assumption | refine ba ?_ _ | refine bd ?_ | refine bdN ?_ _ | refine bs ?_ (by first | exact Nat.le_refl _ | (dsimp only; omega) | (simp; done)) _ | refine bt ?_ (by assumption))))) (by omega)).mono ?_; rintro _ w61 ⟨v61, rfl, ho61, hb61⟩; obtain ⟨a61, c61, rfl⟩ := owns_shape ho61; unfold filV; dsimp only; have I61 := Lib.hid (show StmsIn w61 (fun _ => True) (.slice a61 fb1.length c61) fb1 from StmsIn.of_owns ho61 (fun _ _ => trivial)); have O61 := Lib.hid ho61; clear ho61)
        | (go_at_call 17; refine (laws_eqFile _ _ _ _ _ _ fb1 _ _ _ _ _ _ fb1 (fun _ => True) (fun _ => True) _ (J58.out.below (by (repeat (with_reducible first | exact Below.refl _ _ | assumption | refine ba ?_ _ | refine bd ?_ | refine bdN ?_ _ | refine bs ?_ (by first | exact Nat.le_refl _ | (dsimp only; omega) | (simp; done)) _ | refine bt ?_ (by assumption))))) (I61.out.below (by (repeat (with_reducible first | exact Below.refl _ _ | assumption | refine ba ?_ _ | refine bd ?_ | refine bdN ?_ _ | refine bs ?_ (by first | exact Nat.le_refl _ | (dsimp only; omega) | (simp; done)) _ | refine bt ?_ (by assumption)))))).mono ?_; rintro _ w62 ⟨rfl, hb62⟩; rw [Hse1.out]))
    have hs62 : Below w50.heap.size w50 w62 := by (repeat (with_reducible first | exact Below.refl _ _ | assumption | refine ba ?_ _ | refine bd ?_ | refine bdN ?_ _ | refine bs ?_ (by first | exact Nat.le_refl _ | (dsimp only; omega) | (simp; done)) _ | refine bt ?_ (by assumption)))
    have Bw62 := Lib.hid (bt Bw50.out hs62)
    have BW62 := Lib.hid (bt BW50.out hs62)
    have X63 := Lib.hid (X51.out.below hs62)
    have X64 := Lib.hid (X52.out.below hs62)
    have X65 := Lib.hid (X53.out.below hs62)
    have X66 := Lib.hid (X54.out.below hs62)
    have X67 := Lib.hid (X55.out.below hs62)
    have X68 := Lib.hid (X56.out.below hs62)
    have J69 := Lib.hid (J57.out.below hs62)
    have Q69 := Lib.hid (Q57.out.below hs62)
    have J70 := Lib.hid (J58.out.below hs62)
    have Q70 := Lib.hid (owns_below Q58.out hs62)
    have J71 := Lib.hid (J59.out.below hs62)
    have Q71 := Lib.hid (Q59.out.below hs62)
    clear Bw50 BW50 X51 X52 X53 X54 X55 X56 J57 Q57 J58 Q58 J59 Q59
    have k72_0 : w62.cell? ⟨w16.heap.size, 0, none⟩ = some (.slice a16 fs0.length c16) := (X66.out).2 0
    have k72_1 : w62.cell? ⟨w16.heap.size, 1, none⟩ = some (.int .i64 k0) := (X66.out).2 1
    have k72_2 : w62.cell? ⟨w16.heap.size, 2, none⟩ = some (.slice e16 ds0.length f16) := (X66.out).2 2
    have kl72 := (X66.out).1
    go_wp2_with fail
    have hkk : 1 ≤ 1 := by omega
    refine (laws_markDisk (wc.heap.size) _ _ _ ps16 qs16 1 _ (Q69.out.below (by (repeat (with_reducible first | exact Below.refl _ _ | assumption | refine ba ?_ _ | refine bd ?_ | refine bdN ?_ _ | refine bs ?_ (by first | exact Nat.le_refl _ | (dsimp only; omega) | (simp; done)) _ | refine bt ?_ (by assumption))))) hkk (by rw [Hps16.out, Hqs16.out]; have := HE0.out 1; omega) (by omega) (by omega)).mono ?_
    rintro _ w73 ⟨rfl, _, ht73⟩
    clear k72_0 k72_1 k72_2 kl72
    have Ht73 := Lib.hid ht73
    clear ht73
    have BW73 := Lib.hid (BW62.out.trans (Ht73.out.below BW62.out.size (fun b hb => by have := (Hv16.out b hb).1; have := Hpl0.out; have := Hpl1.out; have := Hwl0.out; have := HWs.out; have := Hz16.out; have := Hz21.out; have := Hz28.out; omega)))
    have Bw73 := Lib.hid (show Below w.heap.size w w73 from HwW.out.trans (BW73.out.mono HwW.out.size))
    have X74 := Lib.hid (X63.out.turned Ht73.out (fun hb => by have := Hv16.out _ hb; have := Hpl0.out; have := Hpl1.out; have := Hwl0.out; have := HWs.out; have := Hz16.out; have := Hz21.out; have := Hz28.out; omega))
    have X75 := Lib.hid (X64.out.turned Ht73.out (fun hb => by have := Hv16.out _ hb; have := Hpl0.out; have := Hpl1.out; have := Hwl0.out; have := HWs.out; have := Hz16.out; have := Hz21.out; have := Hz28.out; omega))
    have X76 := Lib.hid (X65.out.turned Ht73.out (fun hb => by have := Hv16.out _ hb; have := Hpl0.out; have := Hpl1.out; have := Hwl0.out; have := HWs.out; have := Hz16.out; have := Hz21.out; have := Hz28.out; omega))
    have X77 := Lib.hid (X66.out.turned Ht73.out (fun hb => by have := Hv16.out _ hb; have := Hpl0.out; have := Hpl1.out; have := Hwl0.out; have := HWs.out; have := Hz16.out; have := Hz21.out; have := Hz28.out; omega))
    have X78 := Lib.hid (X67.out.turned Ht73.out (fun hb => by have := Hv16.out _ hb; have := Hpl0.out; have := Hpl1.out; have := Hwl0.out; have := HWs.out; have := Hz16.out; have := Hz21.out; have := Hz28.out; omega))
    have X79 := Lib.hid (X68.out.turned Ht73.out (fun hb => by have := Hv16.out _ hb; have := Hpl0.out; have := Hpl1.out; have := Hwl0.out; have := HWs.out; have := Hz16.out; have := Hz21.out; have := Hz28.out; omega))
    have Q80 := Lib.hid (owns_turned Q70.out Ht73.out (fun b hb hS => by have := Hv16.out b hS; have := Hv21.out b hb; have := Hpl0.out; have := Hpl1.out; have := Hwl0.out; have := HWs.out; have := Hz16.out; have := Hz21.out; have := Hz28.out; omega))
    have Q81 := Lib.hid (dsk_turned Q71.out Ht73.out (fun b hb hS => by have := Hv16.out b hS; have := Hv36.out b hb; have := Hpl0.out; have := Hpl1.out; have := Hwl0.out; have := HWs.out; have := Hz16.out; have := Hz21.out; have := Hz28.out; omega))
    clear Bw62 BW62 X63 X64 X65 X66 X67 X68 J69 Q69 J70 Q70 J71 Q71
    clear hkk
    obtain ⟨K82, hK82⟩ : ∃ K, K = endD (endF 1 (ps16.map (·.1))) (qs16.map (·.1)) := ⟨_, rfl⟩
    have hK82b : 1 ≤ K82 ∧ K82 ≤ 1 + 5 * C0 := by rw [hK82]; exact ⟨endK_mono _ _ _, by rw [Hps16.out, Hqs16.out]; exact HE0.out 1⟩
    rw [← hK82]
    have HK82 := Lib.hid hK82
    clear hK82
    have k83_0 : w73.cell? ⟨w21.heap.size, 0, none⟩ = some (.int .i64 fr1) := (X78.out).2 0
    have k83_1 : w73.cell? ⟨w21.heap.size, 1, none⟩ = some (.string (mk fp1)) := (X78.out).2 1
    have k83_2 : w73.cell? ⟨w21.heap.size, 2, none⟩ = some (.string (mk fn1)) := (X78.out).2 2
    have k83_3 : w73.cell? ⟨w21.heap.size, 3, none⟩ = some (.bool fi1) := (X78.out).2 3
    have k83_4 : w73.cell? ⟨w21.heap.size, 4, none⟩ = some (.int .i64 ft1) := (X78.out).2 4
    have k83_5 : w73.cell? ⟨w21.heap.size, 5, none⟩ = some (.slice a21 fb1.length c21) := (X78.out).2 5
    have kl83 := (X78.out).1
    go_wp2_with fail
    have hkk : 1 ≤ K82 := by omega
    refine (laws_markFile (w16.heap.size + 1) _ _ _ _ _ _ fb1 K82 _ (owns_below Q80.out (by (repeat (with_reducible first | exact Below.refl _ _ | assumption | refine ba ?_ _ | refine bd ?_ | refine bdN ?_ _ | refine bs ?_ (by first | exact Nat.le_refl _ | (dsimp only; omega) | (simp; done)) _ | refine bt ?_ (by assumption))))) hkk (by omega)).mono ?_
    rintro _ w84 ⟨rfl, _, ht84⟩
    clear k83_0 k83_1 k83_2 k83_3 k83_4 k83_5 kl83
    have Ht84 := Lib.hid ht84
    clear ht84
    have BW84 := Lib.hid (BW73.out.trans (Ht84.out.below BW73.out.size (fun b hb => by have := (Hv21.out b hb).1; have := Hpl0.out; have := Hpl1.out; have := Hwl0.out; have := HWs.out; have := Hz16.out; have := Hz21.out; have := Hz28.out; omega)))
    have Bw84 := Lib.hid (show Below w.heap.size w w84 from HwW.out.trans (BW84.out.mono HwW.out.size))
    have X85 := Lib.hid (X74.out.turned Ht84.out (fun hb => by have := Hv21.out _ hb; have := Hpl0.out; have := Hpl1.out; have := Hwl0.out; have := HWs.out; have := Hz16.out; have := Hz21.out; have := Hz28.out; omega))
    have X86 := Lib.hid (X75.out.turned Ht84.out (fun hb => by have := Hv21.out _ hb; have := Hpl0.out; have := Hpl1.out; have := Hwl0.out; have := HWs.out; have := Hz16.out; have := Hz21.out; have := Hz28.out; omega))
    have X87 := Lib.hid (X76.out.turned Ht84.out (fun hb => by have := Hv21.out _ hb; have := Hpl0.out; have := Hpl1.out; have := Hwl0.out; have := HWs.out; have := Hz16.out; have := Hz21.out; have := Hz28.out; omega))
    have X88 := Lib.hid (X78.out.turned Ht84.out (fun hb => by have := Hv21.out _ hb; have := Hpl0.out; have := Hpl1.out; have := Hwl0.out; have := HWs.out; have := Hz16.out; have := Hz21.out; have := Hz28.out; omega))
    have X89 := Lib.hid (X79.out.turned Ht84.out (fun hb => by have := Hv21.out _ hb; have := Hpl0.out; have := Hpl1.out; have := Hwl0.out; have := HWs.out; have := Hz16.out; have := Hz21.out; have := Hz28.out; omega))
    have Q90 := Lib.hid (dsk_turned Q81.out Ht84.out (fun b hb hS => by have := Hv21.out b hS; have := Hv36.out b hb; have := Hpl0.out; have := Hpl1.out; have := Hwl0.out; have := HWs.out; have := Hz16.out; have := Hz21.out; have := Hz28.out; omega))
    clear Bw73 BW73 X74 X75 X76 X78 X79 Q80 Q81
    clear hkk
    obtain ⟨K91, hK91⟩ : ∃ K, K = K82 + 5 * fb1.length := ⟨_, rfl⟩
    have hK91b : K82 ≤ K91 ∧ K91 ≤ K82 + 5 * C1 := by rw [hK91]; exact ⟨by omega, by omega⟩
    rw [← hK91]
    have HK91 := Lib.hid hK91
    clear hK91
    have hk0 : ¬ ((K91 : Nat) : Int) < 0 := Int.not_lt.2 (Int.natCast_nonneg _)
    have I_92 := Lib.hid (show DskIn w84 (fun _ => True) (.slice a28_0 g0.files.length c28_0) g0.files (.slice e28_0 g0.dirs.length f28_0) g0.dirs from ⟨by have h := Q90.out.1.fils (D := (fun _ => True)) (fun _ _ => trivial); rw [Hps28_0.out] at h; exact h, by have h := Q90.out.2.dirs (D := (fun _ => True)) (fun _ _ => trivial); rw [Hqs28_0.out] at h; exact h⟩)
    have k93_0 : w84.cell? ⟨X12, 0, none⟩ = some (.slice a12_0 g0.files.length c12_0) := (X87.out).2 0
    have k93_1 : w84.cell? ⟨X12, 1, none⟩ = some (.int .i64 g0.clock) := (X87.out).2 1
    have k93_2 : w84.cell? ⟨X12, 2, none⟩ = some (.slice e12_0 g0.dirs.length f12_0) := (X87.out).2 2
    have kl93 := (X87.out).1
    have k94_0 : w84.cell? ⟨w28.heap.size, 0, none⟩ = some (.slice a28_0 g0.files.length c28_0) := (X89.out).2 0
    have k94_1 : w84.cell? ⟨w28.heap.size, 1, none⟩ = some (.int .i64 g0.clock) := (X89.out).2 1
    have k94_2 : w84.cell? ⟨w28.heap.size, 2, none⟩ = some (.slice e28_0 g0.dirs.length f28_0) := (X89.out).2 2
    have kl94 := (X89.out).1
    go_wp2_with fail
    refine (laws_eqDiskX _ _ g0.files g0.files _ _ _ _ g0.dirs g0.dirs (fun _ => True) (fun _ => True) _ (I_92.out.below (by (repeat (with_reducible first | exact Below.refl _ _ | assumption | refine ba ?_ _ | refine bd ?_ | refine bdN ?_ _ | refine bs ?_ (by first | exact Nat.le_refl _ | (dsimp only; omega) | (simp; done)) _ | refine bt ?_ (by assumption))))) (IW0.out.below (bt BW84.out (by (repeat (with_reducible first | exact Below.refl _ _ | assumption | refine ba ?_ _ | refine bd ?_ | refine bdN ?_ _ | refine bs ?_ (by first | exact Nat.le_refl _ | (dsimp only; omega) | (simp; done)) _ | refine bt ?_ (by assumption))))))).mono ?_
    rintro _ w95 ⟨rfl, hb95⟩
    clear hk0 k93_0 k93_1 k93_2 kl93 k94_0 k94_1 k94_2 kl94
    have hs95 : Below w84.heap.size w84 w95 := by (repeat (with_reducible first | exact Below.refl _ _ | assumption | refine ba ?_ _ | refine bd ?_ | refine bdN ?_ _ | refine bs ?_ (by first | exact Nat.le_refl _ | (dsimp only; omega) | (simp; done)) _ | refine bt ?_ (by assumption)))
    have Bw95 := Lib.hid (bt Bw84.out hs95)
    have BW95 := Lib.hid (bt BW84.out hs95)
    have X96 := Lib.hid (X85.out.below hs95)
    have X97 := Lib.hid (X86.out.below hs95)
    have X98 := Lib.hid (X87.out.below hs95)
    have X99 := Lib.hid (X89.out.below hs95)
    have J100 := Lib.hid (I_92.out.below hs95)
    have Q100 := Lib.hid (Q90.out.below hs95)
    clear Bw84 BW84 X85 X86 X87 X89 I_92 Q90
    rw [Hsg0.out]
    have k101_0 : w95.cell? ⟨w28.heap.size, 0, none⟩ = some (.slice a28_0 g0.files.length c28_0) := (X99.out).2 0
    have k101_1 : w95.cell? ⟨w28.heap.size, 1, none⟩ = some (.int .i64 g0.clock) := (X99.out).2 1
    have k101_2 : w95.cell? ⟨w28.heap.size, 2, none⟩ = some (.slice e28_0 g0.dirs.length f28_0) := (X99.out).2 2
    have kl101 := (X99.out).1
    go_wp2_with fail
    have hkk : 1 ≤ 1 := by omega
    refine (laws_markDisk (w21.heap.size + 1) _ _ _ ps28_0 qs28_0 1 _ (Q100.out.below (by (repeat (with_reducible first | exact Below.refl _ _ | assumption | refine ba ?_ _ | refine bd ?_ | refine bdN ?_ _ | refine bs ?_ (by first | exact Nat.le_refl _ | (dsimp only; omega) | (simp; done)) _ | refine bt ?_ (by assumption))))) hkk (by rw [Hps28_0.out, Hqs28_0.out]; have := Hgb0.out 1; omega) (by omega) (by omega)).mono ?_
    rintro _ w102 ⟨rfl, hm102, ht102⟩
    clear k101_0 k101_1 k101_2 kl101
    have M102 := Lib.hid hm102
    clear hm102
    have Ht102 := Lib.hid ht102
    clear ht102
    have BW102 := Lib.hid (BW95.out.trans (Ht102.out.below BW95.out.size (fun b hb => by have := (Hv36.out b hb).1; have := Hpl0.out; have := Hpl1.out; have := Hwl0.out; have := HWs.out; have := Hz16.out; have := Hz21.out; have := Hz28.out; omega)))
    have Bw102 := Lib.hid (show Below w.heap.size w w102 from HwW.out.trans (BW102.out.mono HwW.out.size))
    have X103 := Lib.hid (X96.out.turned Ht102.out (fun hb => by have := Hv36.out _ hb; have := Hpl0.out; have := Hpl1.out; have := Hwl0.out; have := HWs.out; have := Hz16.out; have := Hz21.out; have := Hz28.out; omega))
    have X104 := Lib.hid (X97.out.turned Ht102.out (fun hb => by have := Hv36.out _ hb; have := Hpl0.out; have := Hpl1.out; have := Hwl0.out; have := HWs.out; have := Hz16.out; have := Hz21.out; have := Hz28.out; omega))
    have X105 := Lib.hid (X98.out.turned Ht102.out (fun hb => by have := Hv36.out _ hb; have := Hpl0.out; have := Hpl1.out; have := Hwl0.out; have := HWs.out; have := Hz16.out; have := Hz21.out; have := Hz28.out; omega))
    have X106 := Lib.hid (X99.out.turned Ht102.out (fun hb => by have := Hv36.out _ hb; have := Hpl0.out; have := Hpl1.out; have := Hwl0.out; have := HWs.out; have := Hz16.out; have := Hz21.out; have := Hz28.out; omega))
    clear Bw95 BW95 X96 X97 X98 X99 J100 Q100
    clear hkk
    rw [Hps28_0.out, Hqs28_0.out]
    obtain ⟨K107, hK107⟩ : ∃ K, K = endD (endF 1 g0.files) g0.dirs := ⟨_, rfl⟩
    have hK107b : 1 ≤ K107 ∧ K107 ≤ 1 + 1000 := by rw [hK107]; exact ⟨endK_mono _ _ _, by have := Hgb0.out 1; omega⟩
    rw [← hK107]
    have HK107 := Lib.hid hK107
    clear hK107
    have k108_0 : w102.cell? ⟨w28.heap.size, 0, none⟩ = some (.slice a28_0 g0.files.length c28_0) := (X106.out).2 0
    have k108_1 : w102.cell? ⟨w28.heap.size, 1, none⟩ = some (.int .i64 g0.clock) := (X106.out).2 1
    have k108_2 : w102.cell? ⟨w28.heap.size, 2, none⟩ = some (.slice e28_0 g0.dirs.length f28_0) := (X106.out).2 2
    have kl108 := (X106.out).1
    go_wp2_with fail
    refine (laws_heldDiskX _ _ _ _ ps28_0 qs28_0 g0.files g0.dirs 1 _ (M102.out.below (by (repeat (with_reducible first | exact Below.refl _ _ | assumption | refine ba ?_ _ | refine bd ?_ | refine bdN ?_ _ | refine bs ?_ (by first | exact Nat.le_refl _ | (dsimp only; omega) | (simp; done)) _ | refine bt ?_ (by assumption))))) Hps28_0.out Hqs28_0.out (by omega) (by have := Hgb0.out 1; omega) (by omega) (by omega)).mono ?_
    rintro _ w109 ⟨rfl, hb109⟩
    clear k108_0 k108_1 k108_2 kl108
    have hs109 : Below w102.heap.size w102 w109 := by (repeat (with_reducible first | exact Below.refl _ _ | assumption | refine ba ?_ _ | refine bd ?_ | refine bdN ?_ _ | refine bs ?_ (by first | exact Nat.le_refl _ | (dsimp only; omega) | (simp; done)) _ | refine bt ?_ (by assumption)))
    have Bw109 := Lib.hid (bt Bw102.out hs109)
    have BW109 := Lib.hid (bt BW102.out hs109)
    have X110 := Lib.hid (X103.out.below hs109)
    have X111 := Lib.hid (X104.out.below hs109)
    have X112 := Lib.hid (X105.out.below hs109)
    have X113 := Lib.hid (X106.out.below hs109)
    have N114 := Lib.hid (M102.out.below hs109)
    clear Bw102 BW102 X103 X104 X105 X106 M102
    rw [← HK107.out]
    have hk0 : ¬ ((K107 : Nat) : Int) < 0 := Int.not_lt.2 (Int.natCast_nonneg _)
    have k115_0 : w109.cell? ⟨w.heap.size, 0, none⟩ = some (.slice aa0 fs0.length ca0) := (X110.out).2 0
    have k115_1 : w109.cell? ⟨w.heap.size, 1, none⟩ = some (.int .i64 k0) := (X110.out).2 1
    have k115_2 : w109.cell? ⟨w.heap.size, 2, none⟩ = some (.slice ab0 ds0.length cb0) := (X110.out).2 2
    have kl115 := (X110.out).1
    clear hk0 k115_0 k115_1 k115_2 kl115
    have Hk116 := Lib.hid (fun (w' : World) (hC : Below w109.heap.size w109 w') => (⟨((X110.out).below hC).2 0, ((X110.out).below hC).2 1, ((X110.out).below hC).2 2, ((X111.out).below hC).2 0, ((X111.out).below hC).2 1, ((X111.out).below hC).2 2, ((X111.out).below hC).2 3, ((X111.out).below hC).2 4, ((X111.out).below hC).2 5, hC⟩ : w'.cell? ⟨w.heap.size, 0, none⟩ = some (.slice aa0 fs0.length ca0) ∧ w'.cell? ⟨w.heap.size, 1, none⟩ = some (.int .i64 k0) ∧ w'.cell? ⟨w.heap.size, 2, none⟩ = some (.slice ab0 ds0.length cb0) ∧ w'.cell? ⟨w.heap.size + 1, 0, none⟩ = some (.int .i64 fr1) ∧ w'.cell? ⟨w.heap.size + 1, 1, none⟩ = some (.string (mk fp1)) ∧ w'.cell? ⟨w.heap.size + 1, 2, none⟩ = some (.string (mk fn1)) ∧ w'.cell? ⟨w.heap.size + 1, 3, none⟩ = some (.bool fi1) ∧ w'.cell? ⟨w.heap.size + 1, 4, none⟩ = some (.int .i64 ft1) ∧ w'.cell? ⟨w.heap.size + 1, 5, none⟩ = some (.slice aa1 fb1.length ca1) ∧ Below w109.heap.size w109 w'))
    have HPHk116_0 := Lib.hid (HR0.out.below Bw109.out)
    have HPHk116_1 := Lib.hid (HR1.out.below Bw109.out)
    go_upto_region 31 with fail
    go_cut [17, 18] (fun s17 s18 wx => ∃ (X : Nat) (a : Option Addr) (c : Nat) (e : Option Addr) (f : Nat), s17 = .pointer (some ⟨X, 0, none⟩) ∧ s18 = .bool g1 ∧ BoxC wx X #[.slice a g0.files.length c, .int .i64 g0.clock, .slice e g0.dirs.length f] ∧ DskIn wx (fun _ => True) (.slice a g0.files.length c) g0.files (.slice e g0.dirs.length f) g0.dirs ∧ w109.heap.size ≤ X ∧ Below w109.heap.size w109 wx)
    case first =>
      go_region_held3 (fun w' => w'.cell? ⟨w.heap.size, 0, none⟩ = some (.slice aa0 fs0.length ca0) ∧ w'.cell? ⟨w.heap.size, 1, none⟩ = some (.int .i64 k0) ∧ w'.cell? ⟨w.heap.size, 2, none⟩ = some (.slice ab0 ds0.length cb0) ∧ w'.cell? ⟨w.heap.size + 1, 0, none⟩ = some (.int .i64 fr1) ∧ w'.cell? ⟨w.heap.size + 1, 1, none⟩ = some (.string (mk fp1)) ∧ w'.cell? ⟨w.heap.size + 1, 2, none⟩ = some (.string (mk fn1)) ∧ w'.cell? ⟨w.heap.size + 1, 3, none⟩ = some (.bool fi1) ∧ w'.cell? ⟨w.heap.size + 1, 4, none⟩ = some (.int .i64 ft1) ∧ w'.cell? ⟨w.heap.size + 1, 5, none⟩ = some (.slice aa1 fb1.length ca1) ∧ Below w109.heap.size w109 w')
        (exact Hk116.out _ (by (repeat (with_reducible first | exact Below.refl _ _ | assumption | refine ba ?_ _ | refine bd ?_ | refine bdN ?_ _ | refine bs ?_ (by first | exact Nat.le_refl _ | (dsimp only; omega) | (simp; done)) _ | refine bt ?_ (by assumption)))))
        (first
          | (go_at_call 13; refine (laws_toDiskX _ fs0 _ _ ds0 _ _ (HPHk116_0.out.below (by (repeat (with_reducible first | exact Below.refl _ _ | assumption | refine ba ?_ _ | refine bd ?_ | refine bdN ?_ _ | refine bs ?_ (by first | exact Nat.le_refl _ | (dsimp only; omega) | (simp; done)) _ | refine bt ?_ (by assumption))))) HL0.out).mono ?_; rintro _ w117 ⟨v117, ps117, u117, qs117, rfl, hps117, hqs117, ho117, hq117, hb117⟩; obtain ⟨a117, c117, rfl⟩ := ho117.len; obtain ⟨e117, f117, rfl⟩ := hq117.len; have hpl117 : ps117.length = fs0.length := (by rw [← hps117, List.length_map]); have hql117 : qs117.length = ds0.length := (by rw [← hqs117, List.length_map]); rw [hpl117] at ho117 ⊢; rw [hql117] at hq117 ⊢; have I117 := Lib.hid (show DskIn w117 (fun _ => True) (.slice a117 fs0.length c117) fs0 (.slice e117 ds0.length f117) ds0 from ⟨by have h := ho117.fils (D := (fun _ => True)) (fun _ _ => trivial); rw [hps117] at h; exact h, by have h := hq117.dirs (D := (fun _ => True)) (fun _ _ => trivial); rw [hqs117] at h; exact h⟩); have O117 := Lib.hid (show OwnDsk w117 _ _ ps117 _ qs117 from ⟨ho117, hq117⟩); have Hps117 := Lib.hid hps117; have Hqs117 := Lib.hid hqs117; clear ho117 hps117 hq117 hqs117; have hlt117 := (show Below w109.heap.size w109 w117 by (repeat (with_reducible first | exact Below.refl _ _ | assumption | refine ba ?_ _ | refine bd ?_ | refine bdN ?_ _ | refine bs ?_ (by first | exact Nat.le_refl _ | (dsimp only; omega) | (simp; done)) _ | refine bt ?_ (by assumption)))).size)
          | (go_at_call 14; refine (laws_toFile _ _ _ _ _ _ fb1 _ _ (HPHk116_1.out.below (by (repeat (with_reducible first | exact Below.refl _ _ | assumption | refine ba ?_ _ | refine bd ?_ | refine bdN ?_ _ | refine bs ?_ (by first | exact Nat.le_refl _ | (dsimp only; omega) | (simp; done)) _ | refine bt ?_ (by assumption))))) (by omega)).mono ?_; rintro _ w118 ⟨v118, rfl, ho118, hb118⟩; obtain ⟨a118, c118, rfl⟩ := owns_shape ho118; unfold filV; dsimp only; have I118 := Lib.hid (show StmsIn w118 (fun _ => True) (.slice a118 fb1.length c118) fb1 from StmsIn.of_owns ho118 (fun _ _ => trivial)); have O118 := Lib.hid ho118; clear ho118; have hlt118 := (show Below w109.heap.size w109 w118 by (repeat (with_reducible first | exact Below.refl _ _ | assumption | refine ba ?_ _ | refine bd ?_ | refine bdN ?_ _ | refine bs ?_ (by first | exact Nat.le_refl _ | (dsimp only; omega) | (simp; done)) _ | refine bt ?_ (by assumption)))).size)
          | (go_at_call 15; refine (impl_DiskAdd _ fs0 _ _ _ ds0 _ _ _ _ _ _ _ _ _ fb1 n2 _ (O117.out.below (by (repeat (with_reducible first | exact Below.refl _ _ | assumption | refine ba ?_ _ | refine bd ?_ | refine bdN ?_ _ | refine bs ?_ (by first | exact Nat.le_refl _ | (dsimp only; omega) | (simp; done)) _ | refine bt ?_ (by assumption))))) Hps117.out Hqs117.out HS0.out (owns_below O118.out (by (repeat (with_reducible first | exact Below.refl _ _ | assumption | refine ba ?_ _ | refine bd ?_ | refine bdN ?_ _ | refine bs ?_ (by first | exact Nat.le_refl _ | (dsimp only; omega) | (simp; done)) _ | refine bt ?_ (by assumption))))) HS1.out).mono ?_; rintro _ w119 ⟨v119_0, ps119_0, u119_0, qs119_0, rfl, hps119_0, hqs119_0, ho119_0, hq119_0, hb119⟩; (try rw [← HG0.out]); (try rw [← HG0.out] at hps119_0); (try rw [← HG0.out] at hqs119_0); (try rw [← HG0.out] at ho119_0); (try rw [← HG0.out] at hq119_0); obtain ⟨a119_0, c119_0, rfl⟩ := ho119_0.len; obtain ⟨e119_0, f119_0, rfl⟩ := hq119_0.len; have hpl119_0 : ps119_0.length = g0.files.length := (by rw [← hps119_0, List.length_map]); have hql119_0 : qs119_0.length = g0.dirs.length := (by rw [← hqs119_0, List.length_map]); rw [hpl119_0] at ho119_0 ⊢; rw [hql119_0] at hq119_0 ⊢; have I119_0 := Lib.hid (show DskIn w119 (fun _ => True) (.slice a119_0 g0.files.length c119_0) g0.files (.slice e119_0 g0.dirs.length f119_0) g0.dirs from ⟨by have h := ho119_0.fils (D := (fun _ => True)) (fun _ _ => trivial); rw [hps119_0] at h; exact h, by have h := hq119_0.dirs (D := (fun _ => True)) (fun _ _ => trivial); rw [hqs119_0] at h; exact h⟩); have O119_0 := Lib.hid (show OwnDsk w119 _ _ ps119_0 _ qs119_0 from ⟨ho119_0, hq119_0⟩); have Hps119_0 := Lib.hid hps119_0; have Hqs119_0 := Lib.hid hqs119_0; clear ho119_0 hps119_0 hq119_0 hqs119_0; (try rw [← HG1.out]); have hlt119 := (show Below w109.heap.size w109 w119 by (repeat (with_reducible first | exact Below.refl _ _ | assumption | refine ba ?_ _ | refine bd ?_ | refine bdN ?_ _ | refine bs ?_ (by first | exact Nat.le_refl _ | (dsimp only; omega) | (simp; done)) _ | refine bt ?_ (by assumption)))).size; (first | (have hxk := box_kept3 hb119; obtain ⟨xc0, xc1, xc2, xf0, xf1, xf2, xs⟩ := hxk) | (have hxk := box_kept3 (bt hb118 hb119); obtain ⟨xc0, xc1, xc2, xf0, xf1, xf2, xs⟩ := hxk) | (have hxk := box_kept3 (bt (bt (box_drew hb117) hb118) hb119); obtain ⟨xc0, xc1, xc2, xf0, xf1, xf2, xs⟩ := hxk) | skip)))
      all_goals (go_wp2_with fail; go_meet; refine ⟨_, a119_0, c119_0, e119_0, f119_0, rfl, rfl, ?_, ?_, ?_, ?_⟩)
      all_goals first
        | exact ((BoxC.start _ _ _).at (by first | rfl | simp))
        | exact boxC_set3 (u0 := .slice none 0 0) (u1 := .int .i64 0) (u2 := .slice none 0 0) (((BoxC.start _ _ _).below hb119).at (by first | rfl | simp)) _ _ _
        | exact boxC_set3 (u0 := .slice none 0 0) (u1 := .int .i64 0) (u2 := .slice none 0 0) ((((BoxC.start _ _ _).below hb118).below hb119).at (by first | rfl | simp)) _ _ _
        | exact boxC_set3 (u0 := .slice none 0 0) (u1 := .int .i64 0) (u2 := .slice none 0 0) (((((BoxC.start _ _ _).below (box_drew hb117)).below hb118).below hb119).at (by first | rfl | simp)) _ _ _
        | exact I119_0.out.below (ba (Below.refl _ _) _)
        | (exact dsk_in (dsk_set3 O119_0.out (X := w118.heap.size) (by simp; done) _ _ _) Hps119_0.out Hqs119_0.out)
        | (exact dsk_in (dsk_set3 O119_0.out (X := w117.heap.size) (by have h1 := hb118.size; simp at h1 ⊢; omega) _ _ _) Hps119_0.out Hqs119_0.out)
        | (exact dsk_in (dsk_set3 O119_0.out (X := w109.heap.size) (by have h0 := (box_drew hb117).size; have h1 := hb118.size; simp at h0 h1 ⊢; omega) _ _ _) Hps119_0.out Hqs119_0.out)
        | (simp; done)
        | (simp; omega)
        | omega
        | (go_split_ands; assumption)
        | ((repeat (with_reducible first | exact Below.refl _ _ | assumption | refine ba ?_ _ | refine bd ?_ | refine bdN ?_ _ | refine bs ?_ (by first | exact Nat.le_refl _ | (dsimp only; omega) | (simp; done)) _ | refine bt ?_ (by assumption))); done)
    case rest =>
      obtain ⟨X119, a119_0, c119_0, e119_0, f119_0, rfl, rfl, hX119, hI119, hx119, hcb119⟩ := hcut
      have XC119 := Lib.hid hX119
      have IC119 := Lib.hid hI119
      clear hX119 hI119
      have Bw119 := Lib.hid (bt Bw109.out hcb119)
      have BW119 := Lib.hid (bt BW109.out hcb119)
      have X120 := Lib.hid (X110.out.below hcb119)
      have X121 := Lib.hid (X111.out.below hcb119)
      have X122 := Lib.hid (X112.out.below hcb119)
      have X123 := Lib.hid (X113.out.below hcb119)
      have N124 := Lib.hid (N114.out.below hcb119)
      clear Bw109 BW109 X110 X111 X112 X113 N114
      have k125_0 : wc.cell? ⟨X12, 0, none⟩ = some (.slice a12_0 g0.files.length c12_0) := (X122.out).2 0
      have k125_1 : wc.cell? ⟨X12, 1, none⟩ = some (.int .i64 g0.clock) := (X122.out).2 1
      have k125_2 : wc.cell? ⟨X12, 2, none⟩ = some (.slice e12_0 g0.dirs.length f12_0) := (X122.out).2 2
      have kl125 := (X122.out).1
      have k126_0 : wc.cell? ⟨X119, 0, none⟩ = some (.slice a119_0 g0.files.length c119_0) := (XC119.out).2 0
      have k126_1 : wc.cell? ⟨X119, 1, none⟩ = some (.int .i64 g0.clock) := (XC119.out).2 1
      have k126_2 : wc.cell? ⟨X119, 2, none⟩ = some (.slice e119_0 g0.dirs.length f119_0) := (XC119.out).2 2
      have kl126 := (XC119.out).1
      go_wp2_with fail
      refine (laws_eqDiskX _ _ g0.files g0.files _ _ _ _ g0.dirs g0.dirs (fun _ => True) (fun _ => True) _ (IC119.out.below (by (repeat (with_reducible first | exact Below.refl _ _ | assumption | refine ba ?_ _ | refine bd ?_ | refine bdN ?_ _ | refine bs ?_ (by first | exact Nat.le_refl _ | (dsimp only; omega) | (simp; done)) _ | refine bt ?_ (by assumption))))) (IW0.out.below (bt BW119.out (by (repeat (with_reducible first | exact Below.refl _ _ | assumption | refine ba ?_ _ | refine bd ?_ | refine bdN ?_ _ | refine bs ?_ (by first | exact Nat.le_refl _ | (dsimp only; omega) | (simp; done)) _ | refine bt ?_ (by assumption))))))).mono ?_
      rintro _ w127 ⟨rfl, hb127⟩
      clear k125_0 k125_1 k125_2 kl125 k126_0 k126_1 k126_2 kl126
      have hs127 : Below wc.heap.size wc w127 := by (repeat (with_reducible first | exact Below.refl _ _ | assumption | refine ba ?_ _ | refine bd ?_ | refine bdN ?_ _ | refine bs ?_ (by first | exact Nat.le_refl _ | (dsimp only; omega) | (simp; done)) _ | refine bt ?_ (by assumption)))
      have Bw127 := Lib.hid (bt Bw119.out hs127)
      have BW127 := Lib.hid (bt BW119.out hs127)
      have X128 := Lib.hid (X120.out.below hs127)
      have X129 := Lib.hid (X121.out.below hs127)
      have X130 := Lib.hid (X122.out.below hs127)
      have X131 := Lib.hid (XC119.out.below hs127)
      have X132 := Lib.hid (X123.out.below hs127)
      have J133 := Lib.hid (IC119.out.below hs127)
      have N134 := Lib.hid (N124.out.below hs127)
      clear Bw119 BW119 X120 X121 X122 XC119 X123 IC119 N124
      rw [Hsg0.out]
      have k135_0 : w127.cell? ⟨w28.heap.size, 0, none⟩ = some (.slice a28_0 g0.files.length c28_0) := (X132.out).2 0
      have k135_1 : w127.cell? ⟨w28.heap.size, 1, none⟩ = some (.int .i64 g0.clock) := (X132.out).2 1
      have k135_2 : w127.cell? ⟨w28.heap.size, 2, none⟩ = some (.slice e28_0 g0.dirs.length f28_0) := (X132.out).2 2
      have kl135 := (X132.out).1
      go_wp2_with fail
      refine (laws_heldDiskX _ _ _ _ ps28_0 qs28_0 g0.files g0.dirs 1 _ (N134.out.below (by (repeat (with_reducible first | exact Below.refl _ _ | assumption | refine ba ?_ _ | refine bd ?_ | refine bdN ?_ _ | refine bs ?_ (by first | exact Nat.le_refl _ | (dsimp only; omega) | (simp; done)) _ | refine bt ?_ (by assumption))))) Hps28_0.out Hqs28_0.out (by omega) (by have := Hgb0.out 1; omega) (by omega) (by omega)).mono ?_
      rintro _ w136 ⟨rfl, hb136⟩
      clear k135_0 k135_1 k135_2 kl135
      have hs136 : Below w127.heap.size w127 w136 := by (repeat (with_reducible first | exact Below.refl _ _ | assumption | refine ba ?_ _ | refine bd ?_ | refine bdN ?_ _ | refine bs ?_ (by first | exact Nat.le_refl _ | (dsimp only; omega) | (simp; done)) _ | refine bt ?_ (by assumption)))
      have Bw136 := Lib.hid (bt Bw127.out hs136)
      have BW136 := Lib.hid (bt BW127.out hs136)
      have X137 := Lib.hid (X128.out.below hs136)
      have X138 := Lib.hid (X129.out.below hs136)
      have X139 := Lib.hid (X130.out.below hs136)
      have X140 := Lib.hid (X131.out.below hs136)
      have X141 := Lib.hid (X132.out.below hs136)
      have J142 := Lib.hid (J133.out.below hs136)
      have N143 := Lib.hid (N134.out.below hs136)
      clear Bw127 BW127 X128 X129 X130 X131 X132 J133 N134
      rw [← HK107.out]
      have hk0 : ¬ ((K107 : Nat) : Int) < 0 := Int.not_lt.2 (Int.natCast_nonneg _)
      go_wp2_with fail
      go_ret
      exact ⟨rfl, Bw136.out⟩

/-! ### THE STEP TO THE ROW -/
set_option maxRecDepth 100000 in
theorem lifted (os : Os) (started : os.Started) (H : Type) (enc : TypeId × Value → H) :
    ReturnsInHanded {} Try.checked os 3 .any (Rows.fnExactDiskAddSpec.pre6 enc Try.prog Try.f3 Rows.fnExactDiskAddRow.domain false) (Rows.fnExactDiskAddSpec.post enc Try.prog Try.f3 false true false false) := by
  refine returnsInHanded_of_change (C := Try.checked) own started (by kernel_rfl) Try.func3
    (ChangeSpec.witness6 (enc := enc) (C := Try.checked) false ⟨#[], #[.agg #[.slice none 0 0, .int .i64 0, .slice none 0 0], .agg #[.int .i64 0, .string ByteArray.empty, .string ByteArray.empty, .bool false, .int .i64 0, .slice none 0 0], .int .i64 0], []⟩ 8 (by kernel_rfl) (by kernel_rfl) (by kernel_rfl) (by kernel_rfl)) ?_
  intro W base args ds gs before hval0 hW hcnd _
  have hval : ∀ (j : Nat) t v, Try.f3.params[j]? = some t → args[j]? = some v → Value.okWide Try.prog W .any base t v := hval0
  have hW' := hW
  obtain ⟨p, q, hA0, hV, rfl, hfz, hnd⟩ := hW
  have hA : DataW.TrodAll enc Try.prog W 0 (fun _ => true) true Try.f3.params.toList args.toList ds p := hA0
  rw [Try.params3] at hA hval
  obtain ⟨v0, vs0, d0, ds0, p0, q0, hargs, rfl, rfl, h0, r0⟩ := trodAll_cons hA
  obtain ⟨v1, vs1, d1, ds1, p1, q1, rfl, rfl, rfl, h1, r1⟩ := trodAll_cons r0
  obtain ⟨v2, vs2, d2, ds2, p2, q2, rfl, rfl, rfl, h2, r2⟩ := trodAll_cons r1
  obtain ⟨rfl, rfl, rfl⟩ := trodAll_nil r2
  obtain rfl : args = #[v0, v1, v2] := by cases args; simp_all
  obtain ⟨rfl, rfl⟩ := trodVars_none hV
  obtain ⟨cs0, rfl, _⟩ := okWide_struct Try.underlying27 (hval 0 27 v0 rfl rfl)
  have k0 := h0
  have lt0 : ∀ x ∈ p0, x.block < W.heap.size := by obtain ⟨m, hm⟩ := k0; exact DataW.trod_lt m _ _ _ hm
  obtain ⟨xs0, tv0, c0, ys0, uv0, et0, w0⟩ : ∃ fs tv c ds uv, cs0 = #[tv, .int .i64 c, uv] ∧ DskIn W (fun _ => True) tv fs uv ds ∧ ShortK maxLen fs ds := by
    obtain ⟨fuel, hf⟩ := h0
    obtain ⟨a, len, cap, fs, c, a', len', cap', ds, e0, e1, e2, e3, e4⟩ := read_disk hf
    exact ⟨fs, _, c, ds, _, by rw [← Array.toList_inj]; simpa [Value.cells] using e0, ⟨e1, e3⟩, ⟨e2, e4⟩⟩
  subst et0
  obtain ⟨cs1, rfl, _⟩ := okWide_struct Try.underlying30 (hval 1 30 v1 rfl rfl)
  have k1 := h1
  have lt1 : ∀ x ∈ p1, x.block < W.heap.size := by obtain ⟨m, hm⟩ := k1; exact DataW.trod_lt m _ _ _ hm
  obtain ⟨f1, bv1, et1, w1⟩ : ∃ f bv, cs1 = (filOf f bv).toArray ∧ StmsIn W (fun _ => True) bv f.body ∧ ShortF maxLen f := by
    obtain ⟨fuel, hf⟩ := h1
    obtain ⟨f, bv, e0, e1, e2⟩ := read_fil hf
    exact ⟨f, bv, by rw [← Array.toList_inj]; simpa [Value.cells] using e0, e1, e2⟩
  subst et1
  obtain ⟨n2, rfl, rfl, rfl, w2⟩ := open_int Try.underlying3 (hval 2 3 v2 rfl rfl) h2
  clear hA0 hval0
  refine (walk tv0 xs0 c0 uv0 ys0 f1 bv1 n2 W w0 w1 w2).mono fun e W' ⟨he, bel⟩ => ?_
  subst he
  exact ⟨_, rfl, _, _, _, [], _, [], hW', trodAll_mk1 (shut_bool Try.underlying4 _), (trodAll_cons_mk (Below.trod laidOut (by kernel_rfl) (of_decide_eq_true (by kernel_rfl)) k0 bel lt0) (trodAll_cons_mk (Below.trod laidOut (by kernel_rfl) (of_decide_eq_true (by kernel_rfl)) k1 bel lt1) (trodAll_cons_mk (shut_int Try.underlying3 w2) trodAll_mk0))), rfl, bel.frame _, fun h => by cases h⟩

theorem over : Rows.fnExactDiskAddRow.holds Try.pinned (OpenSpec.ofChange Rows.fnExactDiskAddSpec) :=
  OpenClaim.holds_of_wide 3 Try.f3 rfl rfl rfl rfl rfl rfl rfl ⟨rfl, rfl, rfl, rfl, rfl⟩ rfl rfl rfl rfl rfl (by kernel_rfl) Try.func3 (by kernel_rfl)
    (of_decide_eq_true (by kernel_rfl)) (by unfold Func.isWrapper; first | (rw [if_pos (by decide +kernel)]; kernel_rfl) | (rw [if_neg (by decide +kernel)]; exact ⟨rfl, rfl⟩))
    (fun os started H enc _ => lifted os started H enc)

/-- THE STATEMENT -/
theorem proved : Rows.FnExactDiskAddSaid := over
end Go.Proofs.Ytcphhmpedejkcaa.FnExactDiskAdd
