/- Contracts of the functions that say whether a statement and a body are valid. -/
import Derived.Test.YtgecemngfpgcoaaKin
import Derived.Test.YtgecemngfpgcoaaTreeMem
import Derived.Laws.StructEq
import Derived.Test.YtgecemngfpgcoaaPlainT
set_option linter.unusedVariables false
set_option linter.unusedSimpArgs false
namespace Go.Proofs.Ytgecemngfpgcoaa
open Go.RowKit Go.Proofs.Ytgecemngfpgcoaa.Nm

set_option maxHeartbeats 400000 in
theorem impl_inRange (n most : Int) (w : World) :
    Calls Try.prog 57 #[.int .i64 n, .int .i64 most] w fun e w' => e = .returned (.bool (inr n 0 most)) ∧ w = w' := by
  by_cases h0 : 0 ≤ n
  · go_enter Try.func57, Try.ntmps57
    go_wp2_with fail
    all_goals (go_ret; exact ⟨ret_bool (by simp [inr, *]), rfl⟩)
  · have h0' : n < 0 := by omega
    have Hv := Lib.hid (show inr n 0 most = false by simp [inr]; omega)
    go_enter Try.func57, Try.ntmps57
    go_wp2_with fail
    all_goals (go_ret; rw [Hv.out]; exact ⟨rfl, rfl⟩)

theorem spec_inRange' (n lo hi : Int) (w : World) :
    Calls Try.prog 46 #[.int .i64 n, .int .i64 lo, .int .i64 hi] w fun e w' => e = .returned (.bool (inr n lo hi)) ∧ w = w' := spec_inRange n lo hi w

set_option maxRecDepth 100000 in
set_option maxHeartbeats 400000 in
theorem impl_validSource (k lv v : Int) (m n : Bs) (w : World) (hm : m.length ≤ 8000000) :
    Calls Try.prog 155 #[.agg #[.int .i64 k, .string (mk m), .int .i64 lv, .string (mk n), .int .i64 v]] w
      fun e w' => e = .returned (.bool (okSrc m lv)) ∧ Below w.heap.size w w' := by
  go_enter Try.func155, Try.ntmps155
  go_wp2_with (first | (go_at_call 57; refine (impl_inRange _ _ _).mono ?_; rintro _ _ ⟨rfl, rfl⟩) | (go_at_call 125; refine (impl_ValidName _ _ (by omega)).mono ?_; (rintro _ _ ⟨rfl, hb⟩; obtain ⟨hc, hf, hs⟩ := bcell hb)))
  all_goals (go_ret; refine ⟨ret_bool ?_, by (repeat (with_reducible first | exact Below.refl _ _ | assumption | refine ba ?_ _ | refine bd ?_ | refine bdN ?_ _ | refine bs ?_ (by first | exact Nat.le_refl _ | (dsimp only; omega) | (simp; done)) _ | refine bt ?_ (by assumption)))⟩; rw [← source_vpk]; simp_all [vn_nil])

set_option maxRecDepth 100000 in
set_option maxHeartbeats 400000 in
theorem impl_validStmt0 (k : Int) (m n : Bs) (lv v : Int) (w : World) (hk : k = 0) (hm : m.length ≤ 8000000) (hn : n.length ≤ 8000000) :
    Calls Try.prog 149 #[.agg #[.int .i64 k, .string (mk m), .int .i64 lv, .string (mk n), .int .i64 v]] w fun e w' => e = .returned (.bool (okStm ⟨k, m, lv, n, v⟩)) ∧ Below w.heap.size w w' := by
  subst hk
  go_enter Try.func149, Try.ntmps149
  go_wp2_with (first | (go_at_call 155; refine (impl_validSource _ _ _ _ _ _ (by omega)).mono ?_; (rintro _ _ ⟨rfl, hb⟩; obtain ⟨hc, hf, hs⟩ := bcell hb)) | (go_at_call 153; refine (impl_ValidPart _ _ (by omega)).mono ?_; (rintro _ _ ⟨rfl, hb⟩; obtain ⟨hc, hf, hs⟩ := bcell hb)) | (go_at_call 125; refine (impl_ValidName _ _ (by omega)).mono ?_; (rintro _ _ ⟨rfl, hb⟩; obtain ⟨hc, hf, hs⟩ := bcell hb)) | (go_at_call 57; refine (impl_inRange _ _ _).mono ?_; rintro _ _ ⟨rfl, rfl⟩))
  all_goals (go_ret; refine ⟨ret_bool ?_, by (repeat (with_reducible first | exact Below.refl _ _ | assumption | refine ba ?_ _ | refine bd ?_ | refine bdN ?_ _ | refine bs ?_ (by first | exact Nat.le_refl _ | (dsimp only; omega) | (simp; done)) _ | refine bt ?_ (by assumption)))⟩; simp_all [okStm, vn_nil, vpk_nil, vp_nil])
set_option maxRecDepth 100000 in
set_option maxHeartbeats 400000 in
theorem impl_validStmt1 (k : Int) (m n : Bs) (lv v : Int) (w : World) (hk : k = 1) (hm : m.length ≤ 8000000) (hn : n.length ≤ 8000000) :
    Calls Try.prog 149 #[.agg #[.int .i64 k, .string (mk m), .int .i64 lv, .string (mk n), .int .i64 v]] w fun e w' => e = .returned (.bool (okStm ⟨k, m, lv, n, v⟩)) ∧ Below w.heap.size w w' := by
  subst hk
  go_enter Try.func149, Try.ntmps149
  go_wp2_with (first | (go_at_call 155; refine (impl_validSource _ _ _ _ _ _ (by omega)).mono ?_; (rintro _ _ ⟨rfl, hb⟩; obtain ⟨hc, hf, hs⟩ := bcell hb)) | (go_at_call 153; refine (impl_ValidPart _ _ (by omega)).mono ?_; (rintro _ _ ⟨rfl, hb⟩; obtain ⟨hc, hf, hs⟩ := bcell hb)) | (go_at_call 125; refine (impl_ValidName _ _ (by omega)).mono ?_; (rintro _ _ ⟨rfl, hb⟩; obtain ⟨hc, hf, hs⟩ := bcell hb)) | (go_at_call 57; refine (impl_inRange _ _ _).mono ?_; rintro _ _ ⟨rfl, rfl⟩))
  all_goals (go_ret; refine ⟨ret_bool ?_, by (repeat (with_reducible first | exact Below.refl _ _ | assumption | refine ba ?_ _ | refine bd ?_ | refine bdN ?_ _ | refine bs ?_ (by first | exact Nat.le_refl _ | (dsimp only; omega) | (simp; done)) _ | refine bt ?_ (by assumption)))⟩; simp_all [okStm, vn_nil, vpk_nil, vp_nil])
set_option maxRecDepth 100000 in
set_option maxHeartbeats 400000 in
theorem impl_validStmt2 (k : Int) (m n : Bs) (lv v : Int) (w : World) (hk : k = 2) (hm : m.length ≤ 8000000) (hn : n.length ≤ 8000000) :
    Calls Try.prog 149 #[.agg #[.int .i64 k, .string (mk m), .int .i64 lv, .string (mk n), .int .i64 v]] w fun e w' => e = .returned (.bool (okStm ⟨k, m, lv, n, v⟩)) ∧ Below w.heap.size w w' := by
  subst hk
  go_enter Try.func149, Try.ntmps149
  go_wp2_with (first | (go_at_call 155; refine (impl_validSource _ _ _ _ _ _ (by omega)).mono ?_; (rintro _ _ ⟨rfl, hb⟩; obtain ⟨hc, hf, hs⟩ := bcell hb)) | (go_at_call 153; refine (impl_ValidPart _ _ (by omega)).mono ?_; (rintro _ _ ⟨rfl, hb⟩; obtain ⟨hc, hf, hs⟩ := bcell hb)) | (go_at_call 125; refine (impl_ValidName _ _ (by omega)).mono ?_; (rintro _ _ ⟨rfl, hb⟩; obtain ⟨hc, hf, hs⟩ := bcell hb)) | (go_at_call 57; refine (impl_inRange _ _ _).mono ?_; rintro _ _ ⟨rfl, rfl⟩))
  all_goals (go_ret; refine ⟨ret_bool ?_, by (repeat (with_reducible first | exact Below.refl _ _ | assumption | refine ba ?_ _ | refine bd ?_ | refine bdN ?_ _ | refine bs ?_ (by first | exact Nat.le_refl _ | (dsimp only; omega) | (simp; done)) _ | refine bt ?_ (by assumption)))⟩; simp_all [okStm, vn_nil, vpk_nil, vp_nil])
set_option maxRecDepth 100000 in
set_option maxHeartbeats 400000 in
theorem impl_validStmt3 (k : Int) (m n : Bs) (lv v : Int) (w : World) (hk : k = 3) (hm : m.length ≤ 8000000) (hn : n.length ≤ 8000000) :
    Calls Try.prog 149 #[.agg #[.int .i64 k, .string (mk m), .int .i64 lv, .string (mk n), .int .i64 v]] w fun e w' => e = .returned (.bool (okStm ⟨k, m, lv, n, v⟩)) ∧ Below w.heap.size w w' := by
  subst hk
  go_enter Try.func149, Try.ntmps149
  go_wp2_with (first | (go_at_call 155; refine (impl_validSource _ _ _ _ _ _ (by omega)).mono ?_; (rintro _ _ ⟨rfl, hb⟩; obtain ⟨hc, hf, hs⟩ := bcell hb)) | (go_at_call 153; refine (impl_ValidPart _ _ (by omega)).mono ?_; (rintro _ _ ⟨rfl, hb⟩; obtain ⟨hc, hf, hs⟩ := bcell hb)) | (go_at_call 125; refine (impl_ValidName _ _ (by omega)).mono ?_; (rintro _ _ ⟨rfl, hb⟩; obtain ⟨hc, hf, hs⟩ := bcell hb)) | (go_at_call 57; refine (impl_inRange _ _ _).mono ?_; rintro _ _ ⟨rfl, rfl⟩))
  all_goals (go_ret; refine ⟨ret_bool ?_, by (repeat (with_reducible first | exact Below.refl _ _ | assumption | refine ba ?_ _ | refine bd ?_ | refine bdN ?_ _ | refine bs ?_ (by first | exact Nat.le_refl _ | (dsimp only; omega) | (simp; done)) _ | refine bt ?_ (by assumption)))⟩; simp_all [okStm, vn_nil, vpk_nil, vp_nil])
set_option maxRecDepth 100000 in
set_option maxHeartbeats 400000 in
theorem impl_validStmt4 (k : Int) (m n : Bs) (lv v : Int) (w : World) (hk : k = 4) (hm : m.length ≤ 8000000) (hn : n.length ≤ 8000000) :
    Calls Try.prog 149 #[.agg #[.int .i64 k, .string (mk m), .int .i64 lv, .string (mk n), .int .i64 v]] w fun e w' => e = .returned (.bool (okStm ⟨k, m, lv, n, v⟩)) ∧ Below w.heap.size w w' := by
  subst hk
  go_enter Try.func149, Try.ntmps149
  go_wp2_with (first | (go_at_call 155; refine (impl_validSource _ _ _ _ _ _ (by omega)).mono ?_; (rintro _ _ ⟨rfl, hb⟩; obtain ⟨hc, hf, hs⟩ := bcell hb)) | (go_at_call 153; refine (impl_ValidPart _ _ (by omega)).mono ?_; (rintro _ _ ⟨rfl, hb⟩; obtain ⟨hc, hf, hs⟩ := bcell hb)) | (go_at_call 125; refine (impl_ValidName _ _ (by omega)).mono ?_; (rintro _ _ ⟨rfl, hb⟩; obtain ⟨hc, hf, hs⟩ := bcell hb)) | (go_at_call 57; refine (impl_inRange _ _ _).mono ?_; rintro _ _ ⟨rfl, rfl⟩))
  all_goals (go_ret; refine ⟨ret_bool ?_, by (repeat (with_reducible first | exact Below.refl _ _ | assumption | refine ba ?_ _ | refine bd ?_ | refine bdN ?_ _ | refine bs ?_ (by first | exact Nat.le_refl _ | (dsimp only; omega) | (simp; done)) _ | refine bt ?_ (by assumption)))⟩; simp_all [okStm, vn_nil, vpk_nil, vp_nil])
set_option maxRecDepth 100000 in
set_option maxHeartbeats 400000 in
theorem impl_validStmt5 (k : Int) (m n : Bs) (lv v : Int) (w : World) (hk : k = 5) (hm : m.length ≤ 8000000) (hn : n.length ≤ 8000000) :
    Calls Try.prog 149 #[.agg #[.int .i64 k, .string (mk m), .int .i64 lv, .string (mk n), .int .i64 v]] w fun e w' => e = .returned (.bool (okStm ⟨k, m, lv, n, v⟩)) ∧ Below w.heap.size w w' := by
  subst hk
  go_enter Try.func149, Try.ntmps149
  go_wp2_with (first | (go_at_call 155; refine (impl_validSource _ _ _ _ _ _ (by omega)).mono ?_; (rintro _ _ ⟨rfl, hb⟩; obtain ⟨hc, hf, hs⟩ := bcell hb)) | (go_at_call 153; refine (impl_ValidPart _ _ (by omega)).mono ?_; (rintro _ _ ⟨rfl, hb⟩; obtain ⟨hc, hf, hs⟩ := bcell hb)) | (go_at_call 125; refine (impl_ValidName _ _ (by omega)).mono ?_; (rintro _ _ ⟨rfl, hb⟩; obtain ⟨hc, hf, hs⟩ := bcell hb)) | (go_at_call 57; refine (impl_inRange _ _ _).mono ?_; rintro _ _ ⟨rfl, rfl⟩))
  all_goals (go_ret; refine ⟨ret_bool ?_, by (repeat (with_reducible first | exact Below.refl _ _ | assumption | refine ba ?_ _ | refine bd ?_ | refine bdN ?_ _ | refine bs ?_ (by first | exact Nat.le_refl _ | (dsimp only; omega) | (simp; done)) _ | refine bt ?_ (by assumption)))⟩; simp_all [okStm, vn_nil, vpk_nil, vp_nil])
set_option maxRecDepth 100000 in
set_option maxHeartbeats 400000 in
theorem impl_validStmtO (k : Int) (m n : Bs) (lv v : Int) (w : World) (h0 : (k == 0) = false) (h1 : (k == 1) = false) (h2 : (k == 2) = false) (h3 : (k == 3) = false) (h4 : (k == 4) = false) (h5 : (k == 5) = false) :
    Calls Try.prog 149 #[.agg #[.int .i64 k, .string (mk m), .int .i64 lv, .string (mk n), .int .i64 v]] w fun e w' => e = .returned (.bool (okStm ⟨k, m, lv, n, v⟩)) ∧ Below w.heap.size w w' := by
  have Hv := Lib.hid (show okStm ⟨k, m, lv, n, v⟩ = false by simp_all [okStm])
  go_enter Try.func149, Try.ntmps149
  go_wp2_with fail
  go_ret
  rw [Hv.out]
  exact ⟨rfl, by (repeat (with_reducible first | exact Below.refl _ _ | assumption | refine ba ?_ _ | refine bd ?_ | refine bdN ?_ _ | refine bs ?_ (by first | exact Nat.le_refl _ | (dsimp only; omega) | (simp; done)) _ | refine bt ?_ (by assumption)))⟩
theorem impl_validStmt (k : Int) (m n : Bs) (lv v : Int) (w : World) (hm : m.length ≤ 8000000) (hn : n.length ≤ 8000000) :
    Calls Try.prog 149 #[.agg #[.int .i64 k, .string (mk m), .int .i64 lv, .string (mk n), .int .i64 v]] w fun e w' => e = .returned (.bool (okStm ⟨k, m, lv, n, v⟩)) ∧ Below w.heap.size w w' := by
  by_cases h0 : k = 0
  · exact impl_validStmt0 k m n lv v w h0 hm hn
  by_cases h1 : k = 1
  · exact impl_validStmt1 k m n lv v w h1 hm hn
  by_cases h2 : k = 2
  · exact impl_validStmt2 k m n lv v w h2 hm hn
  by_cases h3 : k = 3
  · exact impl_validStmt3 k m n lv v w h3 hm hn
  by_cases h4 : k = 4
  · exact impl_validStmt4 k m n lv v w h4 hm hn
  by_cases h5 : k = 5
  · exact impl_validStmt5 k m n lv v w h5 hm hn
  exact impl_validStmtO k m n lv v w (by simp [h0]) (by simp [h1]) (by simp [h2]) (by simp [h3]) (by simp [h4]) (by simp [h5])

set_option maxRecDepth 100000 in
set_option maxHeartbeats 400000 in
theorem spec_validStmt0 (k : Int) (m n : Bs) (lv v : Int) (w : World) (hk : k = 0) (hm : m.length ≤ 8000000) (hn : n.length ≤ 8000000) :
    Calls Try.prog 154 #[.agg #[.int .i64 k, .string (mk m), .int .i64 lv, .string (mk n), .int .i64 v]] w fun e w' => e = .returned (.bool (okStm ⟨k, m, lv, n, v⟩)) ∧ Below w.heap.size w w' := by
  subst hk
  go_enter Try.func154, Try.ntmps154
  go_wp2_with (first | (go_at_call 135; refine (spec_validPart _ _ (by omega)).mono ?_; rintro _ _ ⟨rfl, rfl⟩) | (go_at_call 115; refine (spec_validName _ _ (by omega)).mono ?_; (rintro _ _ ⟨rfl, hb⟩; obtain ⟨hc, hf, hs⟩ := bcell hb)) | (go_at_call 78; refine (spec_validPackage _ _ (by omega)).mono ?_; (rintro _ _ ⟨rfl, hb⟩; obtain ⟨hc, hf, hs⟩ := bcell hb)) | (go_at_call 46; refine (spec_inRange' _ _ _ _).mono ?_; rintro _ _ ⟨rfl, rfl⟩))
  all_goals (go_ret; refine ⟨ret_bool ?_, by (repeat (with_reducible first | exact Below.refl _ _ | assumption | refine ba ?_ _ | refine bd ?_ | refine bdN ?_ _ | refine bs ?_ (by first | exact Nat.le_refl _ | (dsimp only; omega) | (simp; done)) _ | refine bt ?_ (by assumption)))⟩; (simp_all [okStm, okSrc, vn_nil, vpk_nil, vp_nil, beq_dec] <;> (intros; omega)))
set_option maxRecDepth 100000 in
set_option maxHeartbeats 400000 in
theorem spec_validStmt1 (k : Int) (m n : Bs) (lv v : Int) (w : World) (hk : k = 1) (hm : m.length ≤ 8000000) (hn : n.length ≤ 8000000) :
    Calls Try.prog 154 #[.agg #[.int .i64 k, .string (mk m), .int .i64 lv, .string (mk n), .int .i64 v]] w fun e w' => e = .returned (.bool (okStm ⟨k, m, lv, n, v⟩)) ∧ Below w.heap.size w w' := by
  subst hk
  go_enter Try.func154, Try.ntmps154
  go_wp2_with (first | (go_at_call 135; refine (spec_validPart _ _ (by omega)).mono ?_; rintro _ _ ⟨rfl, rfl⟩) | (go_at_call 115; refine (spec_validName _ _ (by omega)).mono ?_; (rintro _ _ ⟨rfl, hb⟩; obtain ⟨hc, hf, hs⟩ := bcell hb)) | (go_at_call 78; refine (spec_validPackage _ _ (by omega)).mono ?_; (rintro _ _ ⟨rfl, hb⟩; obtain ⟨hc, hf, hs⟩ := bcell hb)) | (go_at_call 46; refine (spec_inRange' _ _ _ _).mono ?_; rintro _ _ ⟨rfl, rfl⟩))
  all_goals (go_ret; refine ⟨ret_bool ?_, by (repeat (with_reducible first | exact Below.refl _ _ | assumption | refine ba ?_ _ | refine bd ?_ | refine bdN ?_ _ | refine bs ?_ (by first | exact Nat.le_refl _ | (dsimp only; omega) | (simp; done)) _ | refine bt ?_ (by assumption)))⟩; (simp_all [okStm, okSrc, vn_nil, vpk_nil, vp_nil, beq_dec] <;> (intros; omega)))
set_option maxRecDepth 100000 in
set_option maxHeartbeats 400000 in
theorem spec_validStmt2 (k : Int) (m n : Bs) (lv v : Int) (w : World) (hk : k = 2) (hm : m.length ≤ 8000000) (hn : n.length ≤ 8000000) :
    Calls Try.prog 154 #[.agg #[.int .i64 k, .string (mk m), .int .i64 lv, .string (mk n), .int .i64 v]] w fun e w' => e = .returned (.bool (okStm ⟨k, m, lv, n, v⟩)) ∧ Below w.heap.size w w' := by
  subst hk
  go_enter Try.func154, Try.ntmps154
  go_wp2_with (first | (go_at_call 135; refine (spec_validPart _ _ (by omega)).mono ?_; rintro _ _ ⟨rfl, rfl⟩) | (go_at_call 115; refine (spec_validName _ _ (by omega)).mono ?_; (rintro _ _ ⟨rfl, hb⟩; obtain ⟨hc, hf, hs⟩ := bcell hb)) | (go_at_call 78; refine (spec_validPackage _ _ (by omega)).mono ?_; (rintro _ _ ⟨rfl, hb⟩; obtain ⟨hc, hf, hs⟩ := bcell hb)) | (go_at_call 46; refine (spec_inRange' _ _ _ _).mono ?_; rintro _ _ ⟨rfl, rfl⟩))
  all_goals (go_ret; refine ⟨ret_bool ?_, by (repeat (with_reducible first | exact Below.refl _ _ | assumption | refine ba ?_ _ | refine bd ?_ | refine bdN ?_ _ | refine bs ?_ (by first | exact Nat.le_refl _ | (dsimp only; omega) | (simp; done)) _ | refine bt ?_ (by assumption)))⟩; (simp_all [okStm, okSrc, vn_nil, vpk_nil, vp_nil, beq_dec] <;> (intros; omega)))
set_option maxRecDepth 100000 in
set_option maxHeartbeats 400000 in
theorem spec_validStmt3 (k : Int) (m n : Bs) (lv v : Int) (w : World) (hk : k = 3) (hm : m.length ≤ 8000000) (hn : n.length ≤ 8000000) :
    Calls Try.prog 154 #[.agg #[.int .i64 k, .string (mk m), .int .i64 lv, .string (mk n), .int .i64 v]] w fun e w' => e = .returned (.bool (okStm ⟨k, m, lv, n, v⟩)) ∧ Below w.heap.size w w' := by
  subst hk
  go_enter Try.func154, Try.ntmps154
  go_wp2_with (first | (go_at_call 135; refine (spec_validPart _ _ (by omega)).mono ?_; rintro _ _ ⟨rfl, rfl⟩) | (go_at_call 115; refine (spec_validName _ _ (by omega)).mono ?_; (rintro _ _ ⟨rfl, hb⟩; obtain ⟨hc, hf, hs⟩ := bcell hb)) | (go_at_call 78; refine (spec_validPackage _ _ (by omega)).mono ?_; (rintro _ _ ⟨rfl, hb⟩; obtain ⟨hc, hf, hs⟩ := bcell hb)) | (go_at_call 46; refine (spec_inRange' _ _ _ _).mono ?_; rintro _ _ ⟨rfl, rfl⟩))
  all_goals (go_ret; refine ⟨ret_bool ?_, by (repeat (with_reducible first | exact Below.refl _ _ | assumption | refine ba ?_ _ | refine bd ?_ | refine bdN ?_ _ | refine bs ?_ (by first | exact Nat.le_refl _ | (dsimp only; omega) | (simp; done)) _ | refine bt ?_ (by assumption)))⟩; (simp_all [okStm, okSrc, vn_nil, vpk_nil, vp_nil, beq_dec] <;> (intros; omega)))
set_option maxRecDepth 100000 in
set_option maxHeartbeats 400000 in
theorem spec_validStmt4 (k : Int) (m n : Bs) (lv v : Int) (w : World) (hk : k = 4) (hm : m.length ≤ 8000000) (hn : n.length ≤ 8000000) :
    Calls Try.prog 154 #[.agg #[.int .i64 k, .string (mk m), .int .i64 lv, .string (mk n), .int .i64 v]] w fun e w' => e = .returned (.bool (okStm ⟨k, m, lv, n, v⟩)) ∧ Below w.heap.size w w' := by
  subst hk
  go_enter Try.func154, Try.ntmps154
  go_wp2_with (first | (go_at_call 135; refine (spec_validPart _ _ (by omega)).mono ?_; rintro _ _ ⟨rfl, rfl⟩) | (go_at_call 115; refine (spec_validName _ _ (by omega)).mono ?_; (rintro _ _ ⟨rfl, hb⟩; obtain ⟨hc, hf, hs⟩ := bcell hb)) | (go_at_call 78; refine (spec_validPackage _ _ (by omega)).mono ?_; (rintro _ _ ⟨rfl, hb⟩; obtain ⟨hc, hf, hs⟩ := bcell hb)) | (go_at_call 46; refine (spec_inRange' _ _ _ _).mono ?_; rintro _ _ ⟨rfl, rfl⟩))
  all_goals (go_ret; refine ⟨ret_bool ?_, by (repeat (with_reducible first | exact Below.refl _ _ | assumption | refine ba ?_ _ | refine bd ?_ | refine bdN ?_ _ | refine bs ?_ (by first | exact Nat.le_refl _ | (dsimp only; omega) | (simp; done)) _ | refine bt ?_ (by assumption)))⟩; (simp_all [okStm, okSrc, vn_nil, vpk_nil, vp_nil, beq_dec] <;> (intros; omega)))
set_option maxRecDepth 100000 in
set_option maxHeartbeats 400000 in
theorem spec_validStmt5 (k : Int) (m n : Bs) (lv v : Int) (w : World) (hk : k = 5) (hm : m.length ≤ 8000000) (hn : n.length ≤ 8000000) :
    Calls Try.prog 154 #[.agg #[.int .i64 k, .string (mk m), .int .i64 lv, .string (mk n), .int .i64 v]] w fun e w' => e = .returned (.bool (okStm ⟨k, m, lv, n, v⟩)) ∧ Below w.heap.size w w' := by
  subst hk
  go_enter Try.func154, Try.ntmps154
  go_wp2_with (first | (go_at_call 135; refine (spec_validPart _ _ (by omega)).mono ?_; rintro _ _ ⟨rfl, rfl⟩) | (go_at_call 115; refine (spec_validName _ _ (by omega)).mono ?_; (rintro _ _ ⟨rfl, hb⟩; obtain ⟨hc, hf, hs⟩ := bcell hb)) | (go_at_call 78; refine (spec_validPackage _ _ (by omega)).mono ?_; (rintro _ _ ⟨rfl, hb⟩; obtain ⟨hc, hf, hs⟩ := bcell hb)) | (go_at_call 46; refine (spec_inRange' _ _ _ _).mono ?_; rintro _ _ ⟨rfl, rfl⟩))
  all_goals (go_ret; refine ⟨ret_bool ?_, by (repeat (with_reducible first | exact Below.refl _ _ | assumption | refine ba ?_ _ | refine bd ?_ | refine bdN ?_ _ | refine bs ?_ (by first | exact Nat.le_refl _ | (dsimp only; omega) | (simp; done)) _ | refine bt ?_ (by assumption)))⟩; (simp_all [okStm, okSrc, vn_nil, vpk_nil, vp_nil, beq_dec] <;> (intros; omega)))
set_option maxRecDepth 100000 in
set_option maxHeartbeats 400000 in
theorem spec_validStmtO (k : Int) (m n : Bs) (lv v : Int) (w : World) (h0 : (k == 0) = false) (h1 : (k == 1) = false) (h2 : (k == 2) = false) (h3 : (k == 3) = false) (h4 : (k == 4) = false) (h5 : (k == 5) = false) :
    Calls Try.prog 154 #[.agg #[.int .i64 k, .string (mk m), .int .i64 lv, .string (mk n), .int .i64 v]] w fun e w' => e = .returned (.bool (okStm ⟨k, m, lv, n, v⟩)) ∧ Below w.heap.size w w' := by
  have Hv := Lib.hid (show okStm ⟨k, m, lv, n, v⟩ = false by simp_all [okStm])
  go_enter Try.func154, Try.ntmps154
  go_wp2_with fail
  go_ret
  rw [Hv.out]
  exact ⟨rfl, by (repeat (with_reducible first | exact Below.refl _ _ | assumption | refine ba ?_ _ | refine bd ?_ | refine bdN ?_ _ | refine bs ?_ (by first | exact Nat.le_refl _ | (dsimp only; omega) | (simp; done)) _ | refine bt ?_ (by assumption)))⟩
theorem spec_validStmt (k : Int) (m n : Bs) (lv v : Int) (w : World) (hm : m.length ≤ 8000000) (hn : n.length ≤ 8000000) :
    Calls Try.prog 154 #[.agg #[.int .i64 k, .string (mk m), .int .i64 lv, .string (mk n), .int .i64 v]] w fun e w' => e = .returned (.bool (okStm ⟨k, m, lv, n, v⟩)) ∧ Below w.heap.size w w' := by
  by_cases h0 : k = 0
  · exact spec_validStmt0 k m n lv v w h0 hm hn
  by_cases h1 : k = 1
  · exact spec_validStmt1 k m n lv v w h1 hm hn
  by_cases h2 : k = 2
  · exact spec_validStmt2 k m n lv v w h2 hm hn
  by_cases h3 : k = 3
  · exact spec_validStmt3 k m n lv v w h3 hm hn
  by_cases h4 : k = 4
  · exact spec_validStmt4 k m n lv v w h4 hm hn
  by_cases h5 : k = 5
  · exact spec_validStmt5 k m n lv v w h5 hm hn
  exact spec_validStmtO k m n lv v w (by simp [h0]) (by simp [h1]) (by simp [h2]) (by simp [h3]) (by simp [h4]) (by simp [h5])

/-! ### Contracts of the functions that say whether a body is valid. -/
theorem okBody_no (ss : List Stm) (k : Nat) (h : k < ss.length) (hv : okStm ss[k] = false) : okBody ss = false := by
  have : ss.all okStm = false := by rw [List.all_eq_false]; exact ⟨_, List.getElem_mem h, by simp [hv]⟩
  simp [okBody, this]
theorem okBody_yes (ss : List Stm) (ha : ∀ i (h : i < ss.length), okStm ss[i] = true) : okBody ss = decide (ss.length ≤ 8) := by
  have : ss.all okStm = true := by
    rw [List.all_eq_true]; intro s hs
    obtain ⟨i, hi, rfl⟩ := List.getElem_of_mem hs
    exact ha i hi
  simp [okBody, this]

set_option maxRecDepth 100000 in
set_option maxHeartbeats 400000 in
theorem impl_ValidBody (v : Value) (ss : List Stm) (D : Nat → Prop) (w : World) (hr : StmsIn w D v ss) (hz : Short 8000000 ss) :
    Calls Try.prog 127 #[v] w fun e w' => e = .returned (.bool (okBody ss)) ∧ Below w.heap.size w w' := by
  obtain ⟨aa, ca, rfl, hl, hm⟩ := hr.len
  unfold maxLen at hm
  have Hr := Lib.hid hr
  have Hz := Lib.hid hz
  clear hr hz
  by_cases h8 : (8 : Int) < (ss.length : Int)
  · have Hv := Lib.hid (show okBody ss = false by simp [okBody]; omega)
    go_enter Try.func127, Try.ntmps127
    go_wp2_with fail
    go_ret
    rw [Hv.out]
    exact ⟨rfl, by (repeat (with_reducible first | exact Below.refl _ _ | assumption | refine ba ?_ _ | refine bd ?_ | refine bdN ?_ _ | refine bs ?_ (by first | exact Nat.le_refl _ | (dsimp only; omega) | (simp; done)) _ | refine bt ?_ (by assumption)))⟩
  · go_enter Try.func127, Try.ntmps127
    go_wp2_with fail
    go_loopw [10] (fun kv wr => ∃ k : Nat, k ≤ ss.length ∧ kv = .int .i64 k ∧ Below w.heap.size w wr ∧ ∀ i (h : i < ss.length), i < k → okStm ss[i] = true) (fun kv _ => ss.length - (intOf kv).toNat)
    case atStart => exact ⟨0, by omega, rfl, Below.refl _ _, fun i _ h => absurd h (by omega)⟩
    case round =>
      obtain ⟨k, hk, rfl, hbel, ha⟩ := hrel
      have Ha := Lib.hid ha
      clear ha
      by_cases hlt : k < ss.length
      · obtain ⟨b, off, cap, e, hD, hb, c0, c1, c2, c3, c4⟩ := (Hr.out.below hbel).at_ hlt
        simp only [Value.slice.injEq] at e
        obtain ⟨rfl, _, rfl⟩ := e
        have hz := Hz.out _ (List.getElem_mem hlt)
        obtain ⟨hz1, hz2⟩ := hz
        have Hn := Lib.hid (okBody_no ss k hlt)
        obtain ⟨s, hs⟩ : ∃ s, s = ss[k] := ⟨_, rfl⟩
        rw [← hs] at c0 c1 c2 c3 c4 hz1 hz2 Hn
        have Hy := Lib.hid (fun (h : okStm s = true) => (show okStm ss[k] = true by rw [← hs]; exact h))
        clear hs
        obtain ⟨sk, sm, sl, sn, sv⟩ := s
        dsimp only at c0 c1 c2 c3 c4 hz1 hz2
        go_wp2_with (go_at_call 149; refine (impl_validStmt sk sm sn sl sv _ hz1 hz2).mono ?_; (rintro _ _ ⟨rfl, hb⟩; obtain ⟨hc, hf, hs⟩ := bcell hb))
        · have h : (!okStm ⟨sk, sm, sl, sn, sv⟩) = true := by assumption
          go_ret
          rw [Hn.out (by simpa using h)]
          exact ⟨rfl, by (repeat (with_reducible first | exact Below.refl _ _ | assumption | refine ba ?_ _ | refine bd ?_ | refine bdN ?_ _ | refine bs ?_ (by first | exact Nat.le_refl _ | (dsimp only; omega) | (simp; done)) _ | refine bt ?_ (by assumption)))⟩
        · have h : (!okStm ⟨sk, sm, sl, sn, sv⟩) = false := by assumption
          go_roundw
          case rel =>
            refine ⟨k + 1, by omega, by go_num, by (repeat (with_reducible first | exact Below.refl _ _ | assumption | refine ba ?_ _ | refine bd ?_ | refine bdN ?_ _ | refine bs ?_ (by first | exact Nat.le_refl _ | (dsimp only; omega) | (simp; done)) _ | refine bt ?_ (by assumption))), fun i h1 hi => ?_⟩
            by_cases e : i = k
            · subst e; exact Hy.out (by simpa using h)
            · exact Ha.out i h1 (by omega)
          case measure => simp [intOf]; omega
      · have hv := Lib.hid (okBody_yes ss (fun i h => Ha.out i h (by omega)))
        have h8' := Lib.hid (show decide (ss.length ≤ 8) = true by simp; omega)
        go_wp2_with fail
        go_ret
        rw [hv.out, h8'.out]
        exact ⟨rfl, hbel⟩

set_option maxRecDepth 100000 in
set_option maxHeartbeats 400000 in
theorem spec_validBody (v : Value) (ss : List Stm) (D : Nat → Prop) (w : World) (hr : StmsIn w D v ss) (hz : Short 8000000 ss) :
    Calls Try.prog 143 #[v] w fun e w' => e = .returned (.bool (okBody ss)) ∧ Below w.heap.size w w' := by
  obtain ⟨aa, ca, rfl, hl, hm⟩ := hr.len
  unfold maxLen at hm
  have Hr := Lib.hid hr
  have Hz := Lib.hid hz
  clear hr hz
  go_enter Try.func143, Try.ntmps143
  go_wp2_with fail
  go_loopw [3] (fun kv wr => ∃ k : Nat, k ≤ ss.length ∧ kv = .int .i64 k ∧ Below w.heap.size w wr ∧ ∀ i (h : i < ss.length), i < k → okStm ss[i] = true) (fun kv _ => ss.length - (intOf kv).toNat)
  case atStart => exact ⟨0, by omega, rfl, Below.refl _ _, fun i _ h => absurd h (by omega)⟩
  case round =>
    obtain ⟨k, hk, rfl, hbel, ha⟩ := hrel
    have Ha := Lib.hid ha
    clear ha
    by_cases hlt : k < ss.length
    · obtain ⟨b, off, cap, e, hD, hb, c0, c1, c2, c3, c4⟩ := (Hr.out.below hbel).at_ hlt
      simp only [Value.slice.injEq] at e
      obtain ⟨rfl, _, rfl⟩ := e
      have hz := Hz.out _ (List.getElem_mem hlt)
      obtain ⟨hz1, hz2⟩ := hz
      have Hn := Lib.hid (okBody_no ss k hlt)
      obtain ⟨s, hs⟩ : ∃ s, s = ss[k] := ⟨_, rfl⟩
      rw [← hs] at c0 c1 c2 c3 c4 hz1 hz2 Hn
      have Hy := Lib.hid (fun (h : okStm s = true) => (show okStm ss[k] = true by rw [← hs]; exact h))
      clear hs
      obtain ⟨sk, sm, sl, sn, sv⟩ := s
      dsimp only at c0 c1 c2 c3 c4 hz1 hz2
      go_wp2_with (go_at_call 154; refine (spec_validStmt sk sm sn sl sv _ hz1 hz2).mono ?_; (rintro _ _ ⟨rfl, hb⟩; obtain ⟨hc, hf, hs⟩ := bcell hb))
      · have h : (!okStm ⟨sk, sm, sl, sn, sv⟩) = true := by assumption
        go_ret
        rw [Hn.out (by simpa using h)]
        exact ⟨rfl, by (repeat (with_reducible first | exact Below.refl _ _ | assumption | refine ba ?_ _ | refine bd ?_ | refine bdN ?_ _ | refine bs ?_ (by first | exact Nat.le_refl _ | (dsimp only; omega) | (simp; done)) _ | refine bt ?_ (by assumption)))⟩
      · have h : (!okStm ⟨sk, sm, sl, sn, sv⟩) = false := by assumption
        go_roundw
        case rel =>
          refine ⟨k + 1, by omega, by go_num, by (repeat (with_reducible first | exact Below.refl _ _ | assumption | refine ba ?_ _ | refine bd ?_ | refine bdN ?_ _ | refine bs ?_ (by first | exact Nat.le_refl _ | (dsimp only; omega) | (simp; done)) _ | refine bt ?_ (by assumption))), fun i h1 hi => ?_⟩
          by_cases e : i = k
          · subst e; exact Hy.out (by simpa using h)
          · exact Ha.out i h1 (by omega)
        case measure => simp [intOf]; omega
    · have hv := Lib.hid (okBody_yes ss (fun i h => Ha.out i h (by omega)))
      go_wp2_with fail
      go_ret
      refine ⟨ret_bool ?_, hbel⟩
      rw [hv.out]
      try simp
      try omega


/-! ### Contracts of the functions that say whether a file is valid, and that tell its module. -/
set_option maxRecDepth 100000 in
set_option maxHeartbeats 400000 in
theorem impl_moduleAt (r st : Int) (p n : Bs) (i : Bool) (bv : Value) (body : List Stm) (w : World) (hp : p.length ≤ 8000000) (hn : n.length ≤ 8000000) :
    Calls Try.prog 126 #[.agg #[.int .i64 r, .string (mk p), .string (mk n), .bool i, .int .i64 st, bv]] w
      fun e w' => e = .returned (.string (mk (modAt ⟨r, p, n, i, st, body⟩))) ∧ Below w.heap.size w w' := by
  cases i
  · have Hv := Lib.hid (show modAt ⟨r, p, n, false, st, body⟩ = childOf p n from rfl)
    go_enter Try.func126, Try.ntmps126
    go_wp2_with (go_at_call 147; refine (impl_ChildOf _ _ _ (by omega) (by omega)).mono ?_; (rintro _ _ ⟨rfl, hb⟩; obtain ⟨hc, hf, hs⟩ := bcell hb))
    go_ret
    rw [Hv.out]
    exact ⟨rfl, by (repeat (with_reducible first | exact Below.refl _ _ | assumption | refine ba ?_ _ | refine bd ?_ | refine bdN ?_ _ | refine bs ?_ (by first | exact Nat.le_refl _ | (dsimp only; omega) | (simp; done)) _ | refine bt ?_ (by assumption)))⟩
  · have Hv := Lib.hid (show modAt ⟨r, p, n, true, st, body⟩ = if n = [] then nameOr p else [] from rfl)
    go_enter Try.func126, Try.ntmps126
    go_wp2_with (go_at_call 148; refine (impl_nameOrNothing _ _ (by omega)).mono ?_; (rintro _ _ ⟨rfl, hb⟩; obtain ⟨hc, hf, hs⟩ := bcell hb))
    all_goals (go_ret; rw [Hv.out]; refine ⟨ret_str ?_, by (repeat (with_reducible first | exact Below.refl _ _ | assumption | refine ba ?_ _ | refine bd ?_ | refine bdN ?_ _ | refine bs ?_ (by first | exact Nat.le_refl _ | (dsimp only; omega) | (simp; done)) _ | refine bt ?_ (by assumption)))⟩; (simp_all <;> rfl))

set_option maxRecDepth 100000 in
set_option maxHeartbeats 400000 in
theorem impl_validFile (r st : Int) (p n : Bs) (i : Bool) (bv : Value) (body : List Stm) (D : Nat → Prop) (w : World) (hp : p.length ≤ 8000000) (hn : n.length ≤ 8000000) (hr : StmsIn w D bv body) (hz : Short 8000000 body) :
    Calls Try.prog 96 #[.agg #[.int .i64 r, .string (mk p), .string (mk n), .bool i, .int .i64 st, bv]] w
      fun e w' => e = .returned (.bool (okFil ⟨r, p, n, i, st, body⟩)) ∧ Below w.heap.size w w' := by
  have Hr := Lib.hid hr
  obtain ⟨aa, ca, rfl, hl, hm⟩ := hr.len
  have Hz := Lib.hid hz
  have Hv := Lib.hid (okFil_eq ⟨r, p, n, i, st, body⟩)
  clear hr hz hm
  go_enter Try.func96, Try.ntmps96
  go_wp2_with (first
    | (go_at_call 57; refine (impl_inRange _ _ _).mono ?_; rintro _ _ ⟨rfl, rfl⟩)
    | (go_at_call 126; refine (impl_moduleAt _ _ _ _ _ _ body _ hp hn).mono ?_; (rintro _ _ ⟨rfl, hb⟩; obtain ⟨hc, hf, hs⟩ := bcell hb))
    | (go_at_call 127; refine (impl_ValidBody _ body D _ (Hr.out.below (by (repeat (with_reducible first | exact Below.refl _ _ | assumption | refine ba ?_ _ | refine bd ?_ | refine bdN ?_ _ | refine bs ?_ (by first | exact Nat.le_refl _ | (dsimp only; omega) | (simp; done)) _ | refine bt ?_ (by assumption))))) Hz.out).mono ?_; (rintro _ _ ⟨rfl, hb⟩; obtain ⟨hc, hf, hs⟩ := bcell hb)))
  all_goals (go_ret; refine ⟨ret_bool ?_, by (repeat (with_reducible first | exact Below.refl _ _ | assumption | refine ba ?_ _ | refine bd ?_ | refine bdN ?_ _ | refine bs ?_ (by first | exact Nat.le_refl _ | (dsimp only; omega) | (simp; done)) _ | refine bt ?_ (by assumption)))⟩; rw [Hv.out]; (simp_all <;> rfl))



set_option maxRecDepth 100000 in
set_option maxHeartbeats 400000 in
theorem spec_validFile (r st : Int) (p n : Bs) (i : Bool) (bv : Value) (body : List Stm) (D : Nat → Prop) (w : World) (hp : p.length ≤ 3000000) (hn : n.length ≤ 3000000) (hr : StmsIn w D bv body) (hz : Short 8000000 body) :
    Calls Try.prog 122 #[.agg #[.int .i64 r, .string (mk p), .string (mk n), .bool i, .int .i64 st, bv]] w
      fun e w' => e = .returned (.bool (okFil ⟨r, p, n, i, st, body⟩)) ∧ Below w.heap.size w w' := by
  have Hr := Lib.hid hr
  obtain ⟨aa, ca, rfl, hl, hm⟩ := hr.len
  have Hz := Lib.hid hz
  have hcl := child_len p n
  clear hr hz hm
  cases i
  all_goals
    go_enter Try.func122, Try.ntmps122
    go_wp2_with (first
      | (go_at_call 46; refine (spec_inRange' _ _ _ _).mono ?_; rintro _ _ ⟨rfl, rfl⟩) | (go_at_call 78; refine (spec_validPackage _ _ (by omega)).mono ?_; (rintro _ _ ⟨rfl, hb⟩; obtain ⟨hc, hf, hs⟩ := bcell hb)) | (go_at_call 135; refine (spec_validPart _ _ (by omega)).mono ?_; rintro _ _ ⟨rfl, rfl⟩) | (go_at_call 144; refine (spec_child _ _ _ (by omega) (by omega)).mono ?_; rintro _ _ ⟨rfl, rfl⟩) | (go_at_call 115; refine (spec_validName _ _ (by omega)).mono ?_; (rintro _ _ ⟨rfl, hb⟩; obtain ⟨hc, hf, hs⟩ := bcell hb))
      | (go_at_call 143; refine (spec_validBody _ body D _ (Hr.out.below (by (repeat (with_reducible first | exact Below.refl _ _ | assumption | refine ba ?_ _ | refine bd ?_ | refine bdN ?_ _ | refine bs ?_ (by first | exact Nat.le_refl _ | (dsimp only; omega) | (simp; done)) _ | refine bt ?_ (by assumption))))) Hz.out).mono ?_; (rintro _ _ ⟨rfl, hb⟩; obtain ⟨hc, hf, hs⟩ := bcell hb)))
    all_goals (go_ret; refine ⟨ret_bool ?_, by (repeat (with_reducible first | exact Below.refl _ _ | assumption | refine ba ?_ _ | refine bd ?_ | refine bdN ?_ _ | refine bs ?_ (by first | exact Nat.le_refl _ | (dsimp only; omega) | (simp; done)) _ | refine bt ?_ (by assumption)))⟩; simp_all [okFil])

end Go.Proofs.Ytgecemngfpgcoaa
