/- Contracts of the functions that say whether a statement and a body are valid. -/
import Derived.Test.YtolhgklbkjdpiaaGreatUnder
import Derived.Test.YtolhgklbkjdpiaaGreatTreeMem
import Derived.Laws.StructEq
set_option linter.unusedVariables false
set_option linter.unusedSimpArgs false
namespace Go.Proofs.YtolhgklbkjdpiaaGreat
open Go.RowKit Go.Proofs.YtolhgklbkjdpiaaGreat.Nm

set_option maxHeartbeats 400000 in
theorem impl_inRange (n most : Int) (w : World) :
    Calls Tryz.prog 84 #[.int .i64 n, .int .i64 most] w fun e w' => e = .returned (.bool (inr n 0 most)) ∧ w = w' := by
  by_cases h0 : 0 ≤ n
  · go_enter Tryz.func84, Tryz.ntmps84
    go_wp2_with fail
    all_goals (go_ret; exact ⟨ret_bool (by simp [inr, *]), rfl⟩)
  · have h0' : n < 0 := by omega
    have Hv := Lib.hid (show inr n 0 most = false by simp [inr]; omega)
    go_enter Tryz.func84, Tryz.ntmps84
    go_wp2_with fail
    all_goals (go_ret; rw [Hv.out]; exact ⟨rfl, rfl⟩)

theorem spec_inRange' (n lo hi : Int) (w : World) :
    Calls Tryz.prog 50 #[.int .i64 n, .int .i64 lo, .int .i64 hi] w fun e w' => e = .returned (.bool (inr n lo hi)) ∧ w = w' := spec_inRange n lo hi w

set_option maxRecDepth 100000 in
set_option maxHeartbeats 400000 in
theorem impl_validSource (k lv v : Int) (m n : Bs) (w : World) (hm : m.length ≤ 8000000) :
    Calls Tryz.prog 124 #[.agg #[.int .i64 k, .string (mk m), .int .i64 lv, .string (mk n), .int .i64 v]] w
      fun e w' => e = .returned (.bool (okSrc m lv)) ∧ Below w.heap.size w w' := by
  go_enter Tryz.func124, Tryz.ntmps124
  go_wp2_with (first | (go_at_call 84; refine (impl_inRange _ _ _).mono ?_; rintro _ _ ⟨rfl, rfl⟩) | (go_at_call 115; refine (impl_ValidName _ _ (by omega)).mono ?_; (rintro _ _ ⟨rfl, hb⟩; obtain ⟨hc, hf, hs⟩ := bcell hb)))
  all_goals (go_ret; refine ⟨ret_bool ?_, by (repeat (with_reducible first | exact Below.refl _ _ | assumption | refine ba ?_ _ | refine bd ?_ | refine bdN ?_ _ | refine bs ?_ (by first | exact Nat.le_refl _ | (dsimp only; omega) | (simp; done)) _ | refine bt ?_ (by assumption)))⟩; rw [← source_vpk]; simp_all [vn_nil])

set_option maxRecDepth 100000 in
set_option maxHeartbeats 400000 in
theorem impl_validStmt0 (k : Int) (m n : Bs) (lv v : Int) (w : World) (hk : k = 0) (hm : m.length ≤ 8000000) (hn : n.length ≤ 8000000) :
    Calls Tryz.prog 117 #[.agg #[.int .i64 k, .string (mk m), .int .i64 lv, .string (mk n), .int .i64 v]] w fun e w' => e = .returned (.bool (okStm ⟨k, m, lv, n, v⟩)) ∧ Below w.heap.size w w' := by
  subst hk
  go_enter Tryz.func117, Tryz.ntmps117
  go_wp2_with (first | (go_at_call 124; refine (impl_validSource _ _ _ _ _ _ (by omega)).mono ?_; (rintro _ _ ⟨rfl, hb⟩; obtain ⟨hc, hf, hs⟩ := bcell hb)) | (go_at_call 114; refine (impl_ValidPart _ _ (by omega)).mono ?_; (rintro _ _ ⟨rfl, hb⟩; obtain ⟨hc, hf, hs⟩ := bcell hb)) | (go_at_call 115; refine (impl_ValidName _ _ (by omega)).mono ?_; (rintro _ _ ⟨rfl, hb⟩; obtain ⟨hc, hf, hs⟩ := bcell hb)) | (go_at_call 84; refine (impl_inRange _ _ _).mono ?_; rintro _ _ ⟨rfl, rfl⟩))
  all_goals (go_ret; refine ⟨ret_bool ?_, by (repeat (with_reducible first | exact Below.refl _ _ | assumption | refine ba ?_ _ | refine bd ?_ | refine bdN ?_ _ | refine bs ?_ (by first | exact Nat.le_refl _ | (dsimp only; omega) | (simp; done)) _ | refine bt ?_ (by assumption)))⟩; simp_all [okStm, vn_nil, vpk_nil, vp_nil])
set_option maxRecDepth 100000 in
set_option maxHeartbeats 400000 in
theorem impl_validStmt1 (k : Int) (m n : Bs) (lv v : Int) (w : World) (hk : k = 1) (hm : m.length ≤ 8000000) (hn : n.length ≤ 8000000) :
    Calls Tryz.prog 117 #[.agg #[.int .i64 k, .string (mk m), .int .i64 lv, .string (mk n), .int .i64 v]] w fun e w' => e = .returned (.bool (okStm ⟨k, m, lv, n, v⟩)) ∧ Below w.heap.size w w' := by
  subst hk
  go_enter Tryz.func117, Tryz.ntmps117
  go_wp2_with (first | (go_at_call 124; refine (impl_validSource _ _ _ _ _ _ (by omega)).mono ?_; (rintro _ _ ⟨rfl, hb⟩; obtain ⟨hc, hf, hs⟩ := bcell hb)) | (go_at_call 114; refine (impl_ValidPart _ _ (by omega)).mono ?_; (rintro _ _ ⟨rfl, hb⟩; obtain ⟨hc, hf, hs⟩ := bcell hb)) | (go_at_call 115; refine (impl_ValidName _ _ (by omega)).mono ?_; (rintro _ _ ⟨rfl, hb⟩; obtain ⟨hc, hf, hs⟩ := bcell hb)) | (go_at_call 84; refine (impl_inRange _ _ _).mono ?_; rintro _ _ ⟨rfl, rfl⟩))
  all_goals (go_ret; refine ⟨ret_bool ?_, by (repeat (with_reducible first | exact Below.refl _ _ | assumption | refine ba ?_ _ | refine bd ?_ | refine bdN ?_ _ | refine bs ?_ (by first | exact Nat.le_refl _ | (dsimp only; omega) | (simp; done)) _ | refine bt ?_ (by assumption)))⟩; simp_all [okStm, vn_nil, vpk_nil, vp_nil])
set_option maxRecDepth 100000 in
set_option maxHeartbeats 400000 in
theorem impl_validStmt2 (k : Int) (m n : Bs) (lv v : Int) (w : World) (hk : k = 2) (hm : m.length ≤ 8000000) (hn : n.length ≤ 8000000) :
    Calls Tryz.prog 117 #[.agg #[.int .i64 k, .string (mk m), .int .i64 lv, .string (mk n), .int .i64 v]] w fun e w' => e = .returned (.bool (okStm ⟨k, m, lv, n, v⟩)) ∧ Below w.heap.size w w' := by
  subst hk
  go_enter Tryz.func117, Tryz.ntmps117
  go_wp2_with (first | (go_at_call 124; refine (impl_validSource _ _ _ _ _ _ (by omega)).mono ?_; (rintro _ _ ⟨rfl, hb⟩; obtain ⟨hc, hf, hs⟩ := bcell hb)) | (go_at_call 114; refine (impl_ValidPart _ _ (by omega)).mono ?_; (rintro _ _ ⟨rfl, hb⟩; obtain ⟨hc, hf, hs⟩ := bcell hb)) | (go_at_call 115; refine (impl_ValidName _ _ (by omega)).mono ?_; (rintro _ _ ⟨rfl, hb⟩; obtain ⟨hc, hf, hs⟩ := bcell hb)) | (go_at_call 84; refine (impl_inRange _ _ _).mono ?_; rintro _ _ ⟨rfl, rfl⟩))
  all_goals (go_ret; refine ⟨ret_bool ?_, by (repeat (with_reducible first | exact Below.refl _ _ | assumption | refine ba ?_ _ | refine bd ?_ | refine bdN ?_ _ | refine bs ?_ (by first | exact Nat.le_refl _ | (dsimp only; omega) | (simp; done)) _ | refine bt ?_ (by assumption)))⟩; simp_all [okStm, vn_nil, vpk_nil, vp_nil])
set_option maxRecDepth 100000 in
set_option maxHeartbeats 400000 in
theorem impl_validStmt3 (k : Int) (m n : Bs) (lv v : Int) (w : World) (hk : k = 3) (hm : m.length ≤ 8000000) (hn : n.length ≤ 8000000) :
    Calls Tryz.prog 117 #[.agg #[.int .i64 k, .string (mk m), .int .i64 lv, .string (mk n), .int .i64 v]] w fun e w' => e = .returned (.bool (okStm ⟨k, m, lv, n, v⟩)) ∧ Below w.heap.size w w' := by
  subst hk
  go_enter Tryz.func117, Tryz.ntmps117
  go_wp2_with (first | (go_at_call 124; refine (impl_validSource _ _ _ _ _ _ (by omega)).mono ?_; (rintro _ _ ⟨rfl, hb⟩; obtain ⟨hc, hf, hs⟩ := bcell hb)) | (go_at_call 114; refine (impl_ValidPart _ _ (by omega)).mono ?_; (rintro _ _ ⟨rfl, hb⟩; obtain ⟨hc, hf, hs⟩ := bcell hb)) | (go_at_call 115; refine (impl_ValidName _ _ (by omega)).mono ?_; (rintro _ _ ⟨rfl, hb⟩; obtain ⟨hc, hf, hs⟩ := bcell hb)) | (go_at_call 84; refine (impl_inRange _ _ _).mono ?_; rintro _ _ ⟨rfl, rfl⟩))
  all_goals (go_ret; refine ⟨ret_bool ?_, by (repeat (with_reducible first | exact Below.refl _ _ | assumption | refine ba ?_ _ | refine bd ?_ | refine bdN ?_ _ | refine bs ?_ (by first | exact Nat.le_refl _ | (dsimp only; omega) | (simp; done)) _ | refine bt ?_ (by assumption)))⟩; simp_all [okStm, vn_nil, vpk_nil, vp_nil])
set_option maxRecDepth 100000 in
set_option maxHeartbeats 400000 in
theorem impl_validStmt4 (k : Int) (m n : Bs) (lv v : Int) (w : World) (hk : k = 4) (hm : m.length ≤ 8000000) (hn : n.length ≤ 8000000) :
    Calls Tryz.prog 117 #[.agg #[.int .i64 k, .string (mk m), .int .i64 lv, .string (mk n), .int .i64 v]] w fun e w' => e = .returned (.bool (okStm ⟨k, m, lv, n, v⟩)) ∧ Below w.heap.size w w' := by
  subst hk
  go_enter Tryz.func117, Tryz.ntmps117
  go_wp2_with (first | (go_at_call 124; refine (impl_validSource _ _ _ _ _ _ (by omega)).mono ?_; (rintro _ _ ⟨rfl, hb⟩; obtain ⟨hc, hf, hs⟩ := bcell hb)) | (go_at_call 114; refine (impl_ValidPart _ _ (by omega)).mono ?_; (rintro _ _ ⟨rfl, hb⟩; obtain ⟨hc, hf, hs⟩ := bcell hb)) | (go_at_call 115; refine (impl_ValidName _ _ (by omega)).mono ?_; (rintro _ _ ⟨rfl, hb⟩; obtain ⟨hc, hf, hs⟩ := bcell hb)) | (go_at_call 84; refine (impl_inRange _ _ _).mono ?_; rintro _ _ ⟨rfl, rfl⟩))
  all_goals (go_ret; refine ⟨ret_bool ?_, by (repeat (with_reducible first | exact Below.refl _ _ | assumption | refine ba ?_ _ | refine bd ?_ | refine bdN ?_ _ | refine bs ?_ (by first | exact Nat.le_refl _ | (dsimp only; omega) | (simp; done)) _ | refine bt ?_ (by assumption)))⟩; simp_all [okStm, vn_nil, vpk_nil, vp_nil])
set_option maxRecDepth 100000 in
set_option maxHeartbeats 400000 in
theorem impl_validStmt5 (k : Int) (m n : Bs) (lv v : Int) (w : World) (hk : k = 5) (hm : m.length ≤ 8000000) (hn : n.length ≤ 8000000) :
    Calls Tryz.prog 117 #[.agg #[.int .i64 k, .string (mk m), .int .i64 lv, .string (mk n), .int .i64 v]] w fun e w' => e = .returned (.bool (okStm ⟨k, m, lv, n, v⟩)) ∧ Below w.heap.size w w' := by
  subst hk
  go_enter Tryz.func117, Tryz.ntmps117
  go_wp2_with (first | (go_at_call 124; refine (impl_validSource _ _ _ _ _ _ (by omega)).mono ?_; (rintro _ _ ⟨rfl, hb⟩; obtain ⟨hc, hf, hs⟩ := bcell hb)) | (go_at_call 114; refine (impl_ValidPart _ _ (by omega)).mono ?_; (rintro _ _ ⟨rfl, hb⟩; obtain ⟨hc, hf, hs⟩ := bcell hb)) | (go_at_call 115; refine (impl_ValidName _ _ (by omega)).mono ?_; (rintro _ _ ⟨rfl, hb⟩; obtain ⟨hc, hf, hs⟩ := bcell hb)) | (go_at_call 84; refine (impl_inRange _ _ _).mono ?_; rintro _ _ ⟨rfl, rfl⟩))
  all_goals (go_ret; refine ⟨ret_bool ?_, by (repeat (with_reducible first | exact Below.refl _ _ | assumption | refine ba ?_ _ | refine bd ?_ | refine bdN ?_ _ | refine bs ?_ (by first | exact Nat.le_refl _ | (dsimp only; omega) | (simp; done)) _ | refine bt ?_ (by assumption)))⟩; simp_all [okStm, vn_nil, vpk_nil, vp_nil])
set_option maxRecDepth 100000 in
set_option maxHeartbeats 400000 in
theorem impl_validStmtO (k : Int) (m n : Bs) (lv v : Int) (w : World) (h0 : (k == 0) = false) (h1 : (k == 1) = false) (h2 : (k == 2) = false) (h3 : (k == 3) = false) (h4 : (k == 4) = false) (h5 : (k == 5) = false) :
    Calls Tryz.prog 117 #[.agg #[.int .i64 k, .string (mk m), .int .i64 lv, .string (mk n), .int .i64 v]] w fun e w' => e = .returned (.bool (okStm ⟨k, m, lv, n, v⟩)) ∧ Below w.heap.size w w' := by
  have Hv := Lib.hid (show okStm ⟨k, m, lv, n, v⟩ = false by simp_all [okStm])
  go_enter Tryz.func117, Tryz.ntmps117
  go_wp2_with fail
  go_ret
  rw [Hv.out]
  exact ⟨rfl, by (repeat (with_reducible first | exact Below.refl _ _ | assumption | refine ba ?_ _ | refine bd ?_ | refine bdN ?_ _ | refine bs ?_ (by first | exact Nat.le_refl _ | (dsimp only; omega) | (simp; done)) _ | refine bt ?_ (by assumption)))⟩
theorem impl_validStmt (k : Int) (m n : Bs) (lv v : Int) (w : World) (hm : m.length ≤ 8000000) (hn : n.length ≤ 8000000) :
    Calls Tryz.prog 117 #[.agg #[.int .i64 k, .string (mk m), .int .i64 lv, .string (mk n), .int .i64 v]] w fun e w' => e = .returned (.bool (okStm ⟨k, m, lv, n, v⟩)) ∧ Below w.heap.size w w' := by
  by_cases h0 : k = 0
  · exact impl_validStmt0 k m n lv v w h0 hm hn
  by_cases h1 : k = 1
  · exact impl_validStmt1 k m n lv v w h1 hm hn
  by_cases h2 : k = 2
  · exact impl_validStmt2 k m n lv v w h2 hm hn
  by_cases h3 : k = 3
  · exact impl_validStmt3 k m n lv v w h3 hm hn
  by_cases h4 : k = 4
  · exact impl_validStmt4 k m n lv v w h4 hm hn
  by_cases h5 : k = 5
  · exact impl_validStmt5 k m n lv v w h5 hm hn
  exact impl_validStmtO k m n lv v w (by simp [h0]) (by simp [h1]) (by simp [h2]) (by simp [h3]) (by simp [h4]) (by simp [h5])

set_option maxRecDepth 100000 in
set_option maxHeartbeats 400000 in
theorem spec_validStmt0 (k : Int) (m n : Bs) (lv v : Int) (w : World) (hk : k = 0) (hm : m.length ≤ 8000000) (hn : n.length ≤ 8000000) :
    Calls Tryz.prog 97 #[.agg #[.int .i64 k, .string (mk m), .int .i64 lv, .string (mk n), .int .i64 v]] w fun e w' => e = .returned (.bool (okStm ⟨k, m, lv, n, v⟩)) ∧ Below w.heap.size w w' := by
  subst hk
  go_enter Tryz.func97, Tryz.ntmps97
  go_wp2_with (first | (go_at_call 80; refine (spec_validPart _ _ (by omega)).mono ?_; rintro _ _ ⟨rfl, rfl⟩) | (go_at_call 70; refine (spec_validName _ _ (by omega)).mono ?_; (rintro _ _ ⟨rfl, hb⟩; obtain ⟨hc, hf, hs⟩ := bcell hb)) | (go_at_call 78; refine (spec_validPackage _ _ (by omega)).mono ?_; (rintro _ _ ⟨rfl, hb⟩; obtain ⟨hc, hf, hs⟩ := bcell hb)) | (go_at_call 50; refine (spec_inRange' _ _ _ _).mono ?_; rintro _ _ ⟨rfl, rfl⟩))
  all_goals (go_ret; refine ⟨ret_bool ?_, by (repeat (with_reducible first | exact Below.refl _ _ | assumption | refine ba ?_ _ | refine bd ?_ | refine bdN ?_ _ | refine bs ?_ (by first | exact Nat.le_refl _ | (dsimp only; omega) | (simp; done)) _ | refine bt ?_ (by assumption)))⟩; (simp_all [okStm, okSrc, vn_nil, vpk_nil, vp_nil, beq_dec] <;> (intros; omega)))
set_option maxRecDepth 100000 in
set_option maxHeartbeats 400000 in
theorem spec_validStmt1 (k : Int) (m n : Bs) (lv v : Int) (w : World) (hk : k = 1) (hm : m.length ≤ 8000000) (hn : n.length ≤ 8000000) :
    Calls Tryz.prog 97 #[.agg #[.int .i64 k, .string (mk m), .int .i64 lv, .string (mk n), .int .i64 v]] w fun e w' => e = .returned (.bool (okStm ⟨k, m, lv, n, v⟩)) ∧ Below w.heap.size w w' := by
  subst hk
  go_enter Tryz.func97, Tryz.ntmps97
  go_wp2_with (first | (go_at_call 80; refine (spec_validPart _ _ (by omega)).mono ?_; rintro _ _ ⟨rfl, rfl⟩) | (go_at_call 70; refine (spec_validName _ _ (by omega)).mono ?_; (rintro _ _ ⟨rfl, hb⟩; obtain ⟨hc, hf, hs⟩ := bcell hb)) | (go_at_call 78; refine (spec_validPackage _ _ (by omega)).mono ?_; (rintro _ _ ⟨rfl, hb⟩; obtain ⟨hc, hf, hs⟩ := bcell hb)) | (go_at_call 50; refine (spec_inRange' _ _ _ _).mono ?_; rintro _ _ ⟨rfl, rfl⟩))
  all_goals (go_ret; refine ⟨ret_bool ?_, by (repeat (with_reducible first | exact Below.refl _ _ | assumption | refine ba ?_ _ | refine bd ?_ | refine bdN ?_ _ | refine bs ?_ (by first | exact Nat.le_refl _ | (dsimp only; omega) | (simp; done)) _ | refine bt ?_ (by assumption)))⟩; (simp_all [okStm, okSrc, vn_nil, vpk_nil, vp_nil, beq_dec] <;> (intros; omega)))
set_option maxRecDepth 100000 in
set_option maxHeartbeats 400000 in
theorem spec_validStmt2 (k : Int) (m n : Bs) (lv v : Int) (w : World) (hk : k = 2) (hm : m.length ≤ 8000000) (hn : n.length ≤ 8000000) :
    Calls Tryz.prog 97 #[.agg #[.int .i64 k, .string (mk m), .int .i64 lv, .string (mk n), .int .i64 v]] w fun e w' => e = .returned (.bool (okStm ⟨k, m, lv, n, v⟩)) ∧ Below w.heap.size w w' := by
  subst hk
  go_enter Tryz.func97, Tryz.ntmps97
  go_wp2_with (first | (go_at_call 80; refine (spec_validPart _ _ (by omega)).mono ?_; rintro _ _ ⟨rfl, rfl⟩) | (go_at_call 70; refine (spec_validName _ _ (by omega)).mono ?_; (rintro _ _ ⟨rfl, hb⟩; obtain ⟨hc, hf, hs⟩ := bcell hb)) | (go_at_call 78; refine (spec_validPackage _ _ (by omega)).mono ?_; (rintro _ _ ⟨rfl, hb⟩; obtain ⟨hc, hf, hs⟩ := bcell hb)) | (go_at_call 50; refine (spec_inRange' _ _ _ _).mono ?_; rintro _ _ ⟨rfl, rfl⟩))
  all_goals (go_ret; refine ⟨ret_bool ?_, by (repeat (with_reducible first | exact Below.refl _ _ | assumption | refine ba ?_ _ | refine bd ?_ | refine bdN ?_ _ | refine bs ?_ (by first | exact Nat.le_refl _ | (dsimp only; omega) | (simp; done)) _ | refine bt ?_ (by assumption)))⟩; (simp_all [okStm, okSrc, vn_nil, vpk_nil, vp_nil, beq_dec] <;> (intros; omega)))
set_option maxRecDepth 100000 in
set_option maxHeartbeats 400000 in
theorem spec_validStmt3 (k : Int) (m n : Bs) (lv v : Int) (w : World) (hk : k = 3) (hm : m.length ≤ 8000000) (hn : n.length ≤ 8000000) :
    Calls Tryz.prog 97 #[.agg #[.int .i64 k, .string (mk m), .int .i64 lv, .string (mk n), .int .i64 v]] w fun e w' => e = .returned (.bool (okStm ⟨k, m, lv, n, v⟩)) ∧ Below w.heap.size w w' := by
  subst hk
  go_enter Tryz.func97, Tryz.ntmps97
  go_wp2_with (first | (go_at_call 80; refine (spec_validPart _ _ (by omega)).mono ?_; rintro _ _ ⟨rfl, rfl⟩) | (go_at_call 70; refine (spec_validName _ _ (by omega)).mono ?_; (rintro _ _ ⟨rfl, hb⟩; obtain ⟨hc, hf, hs⟩ := bcell hb)) | (go_at_call 78; refine (spec_validPackage _ _ (by omega)).mono ?_; (rintro _ _ ⟨rfl, hb⟩; obtain ⟨hc, hf, hs⟩ := bcell hb)) | (go_at_call 50; refine (spec_inRange' _ _ _ _).mono ?_; rintro _ _ ⟨rfl, rfl⟩))
  all_goals (go_ret; refine ⟨ret_bool ?_, by (repeat (with_reducible first | exact Below.refl _ _ | assumption | refine ba ?_ _ | refine bd ?_ | refine bdN ?_ _ | refine bs ?_ (by first | exact Nat.le_refl _ | (dsimp only; omega) | (simp; done)) _ | refine bt ?_ (by assumption)))⟩; (simp_all [okStm, okSrc, vn_nil, vpk_nil, vp_nil, beq_dec] <;> (intros; omega)))
set_option maxRecDepth 100000 in
set_option maxHeartbeats 400000 in
theorem spec_validStmt4 (k : Int) (m n : Bs) (lv v : Int) (w : World) (hk : k = 4) (hm : m.length ≤ 8000000) (hn : n.length ≤ 8000000) :
    Calls Tryz.prog 97 #[.agg #[.int .i64 k, .string (mk m), .int .i64 lv, .string (mk n), .int .i64 v]] w fun e w' => e = .returned (.bool (okStm ⟨k, m, lv, n, v⟩)) ∧ Below w.heap.size w w' := by
  subst hk
  go_enter Tryz.func97, Tryz.ntmps97
  go_wp2_with (first | (go_at_call 80; refine (spec_validPart _ _ (by omega)).mono ?_; rintro _ _ ⟨rfl, rfl⟩) | (go_at_call 70; refine (spec_validName _ _ (by omega)).mono ?_; (rintro _ _ ⟨rfl, hb⟩; obtain ⟨hc, hf, hs⟩ := bcell hb)) | (go_at_call 78; refine (spec_validPackage _ _ (by omega)).mono ?_; (rintro _ _ ⟨rfl, hb⟩; obtain ⟨hc, hf, hs⟩ := bcell hb)) | (go_at_call 50; refine (spec_inRange' _ _ _ _).mono ?_; rintro _ _ ⟨rfl, rfl⟩))
  all_goals (go_ret; refine ⟨ret_bool ?_, by (repeat (with_reducible first | exact Below.refl _ _ | assumption | refine ba ?_ _ | refine bd ?_ | refine bdN ?_ _ | refine bs ?_ (by first | exact Nat.le_refl _ | (dsimp only; omega) | (simp; done)) _ | refine bt ?_ (by assumption)))⟩; (simp_all [okStm, okSrc, vn_nil, vpk_nil, vp_nil, beq_dec] <;> (intros; omega)))
set_option maxRecDepth 100000 in
set_option maxHeartbeats 400000 in
theorem spec_validStmt5 (k : Int) (m n : Bs) (lv v : Int) (w : World) (hk : k = 5) (hm : m.length ≤ 8000000) (hn : n.length ≤ 8000000) :
    Calls Tryz.prog 97 #[.agg #[.int .i64 k, .string (mk m), .int .i64 lv, .string (mk n), .int .i64 v]] w fun e w' => e = .returned (.bool (okStm ⟨k, m, lv, n, v⟩)) ∧ Below w.heap.size w w' := by
  subst hk
  go_enter Tryz.func97, Tryz.ntmps97
  go_wp2_with (first | (go_at_call 80; refine (spec_validPart _ _ (by omega)).mono ?_; rintro _ _ ⟨rfl, rfl⟩) | (go_at_call 70; refine (spec_validName _ _ (by omega)).mono ?_; (rintro _ _ ⟨rfl, hb⟩; obtain ⟨hc, hf, hs⟩ := bcell hb)) | (go_at_call 78; refine (spec_validPackage _ _ (by omega)).mono ?_; (rintro _ _ ⟨rfl, hb⟩; obtain ⟨hc, hf, hs⟩ := bcell hb)) | (go_at_call 50; refine (spec_inRange' _ _ _ _).mono ?_; rintro _ _ ⟨rfl, rfl⟩))
  all_goals (go_ret; refine ⟨ret_bool ?_, by (repeat (with_reducible first | exact Below.refl _ _ | assumption | refine ba ?_ _ | refine bd ?_ | refine bdN ?_ _ | refine bs ?_ (by first | exact Nat.le_refl _ | (dsimp only; omega) | (simp; done)) _ | refine bt ?_ (by assumption)))⟩; (simp_all [okStm, okSrc, vn_nil, vpk_nil, vp_nil, beq_dec] <;> (intros; omega)))
set_option maxRecDepth 100000 in
set_option maxHeartbeats 400000 in
theorem spec_validStmtO (k : Int) (m n : Bs) (lv v : Int) (w : World) (h0 : (k == 0) = false) (h1 : (k == 1) = false) (h2 : (k == 2) = false) (h3 : (k == 3) = false) (h4 : (k == 4) = false) (h5 : (k == 5) = false) :
    Calls Tryz.prog 97 #[.agg #[.int .i64 k, .string (mk m), .int .i64 lv, .string (mk n), .int .i64 v]] w fun e w' => e = .returned (.bool (okStm ⟨k, m, lv, n, v⟩)) ∧ Below w.heap.size w w' := by
  have Hv := Lib.hid (show okStm ⟨k, m, lv, n, v⟩ = false by simp_all [okStm])
  go_enter Tryz.func97, Tryz.ntmps97
  go_wp2_with fail
  go_ret
  rw [Hv.out]
  exact ⟨rfl, by (repeat (with_reducible first | exact Below.refl _ _ | assumption | refine ba ?_ _ | refine bd ?_ | refine bdN ?_ _ | refine bs ?_ (by first | exact Nat.le_refl _ | (dsimp only; omega) | (simp; done)) _ | refine bt ?_ (by assumption)))⟩
theorem spec_validStmt (k : Int) (m n : Bs) (lv v : Int) (w : World) (hm : m.length ≤ 8000000) (hn : n.length ≤ 8000000) :
    Calls Tryz.prog 97 #[.agg #[.int .i64 k, .string (mk m), .int .i64 lv, .string (mk n), .int .i64 v]] w fun e w' => e = .returned (.bool (okStm ⟨k, m, lv, n, v⟩)) ∧ Below w.heap.size w w' := by
  by_cases h0 : k = 0
  · exact spec_validStmt0 k m n lv v w h0 hm hn
  by_cases h1 : k = 1
  · exact spec_validStmt1 k m n lv v w h1 hm hn
  by_cases h2 : k = 2
  · exact spec_validStmt2 k m n lv v w h2 hm hn
  by_cases h3 : k = 3
  · exact spec_validStmt3 k m n lv v w h3 hm hn
  by_cases h4 : k = 4
  · exact spec_validStmt4 k m n lv v w h4 hm hn
  by_cases h5 : k = 5
  · exact spec_validStmt5 k m n lv v w h5 hm hn
  exact spec_validStmtO k m n lv v w (by simp [h0]) (by simp [h1]) (by simp [h2]) (by simp [h3]) (by simp [h4]) (by simp [h5])
end Go.Proofs.YtolhgklbkjdpiaaGreat
