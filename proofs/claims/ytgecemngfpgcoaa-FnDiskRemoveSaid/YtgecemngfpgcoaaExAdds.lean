/- The contracts of the functions that change trees, in the words of the exact laws. -/
import Derived.Test.YtgecemngfpgcoaaSAdds2
set_option linter.unusedVariables false
set_option linter.unusedSimpArgs false
namespace Go.Proofs.Ytgecemngfpgcoaa
open Go.RowKit Go.Proofs.Ytgecemngfpgcoaa.Nm

theorem impl_AddFileX (v : Value) (fs : List Fil) (ps : List (Fil × Value)) (B B' : Nat) (r st : Int) (p n : Bs) (i : Bool) (bv : Value) (body : List Stm) (w : World) (h : OwnFils w B v ps) (e : ps.map (·.1) = fs) (hz : ShortT 2000000 fs) (hb : w.ownsRow B' 138 5 bv body.length (body.flatMap stmCells)) (hbz : ShortF 1048576 ⟨r, p, n, i, st, body⟩) :
    Calls Try.prog 67 #[.agg #[v], .agg #[.int .i64 r, .string (mk p), .string (mk n), .bool i, .int .i64 st, bv]] w (NewTreeB (addFil fs ⟨r, p, n, i, st, body⟩) w) := by
  subst e; exact impl_AddFile v ps r st p n i bv body w (RowsF.of h) hz (owns_mono hb (Nat.zero_le _)) (shortF_mono (by omega) hbz)
theorem spec_AddFileX (v : Value) (fs : List Fil) (ps : List (Fil × Value)) (B B' : Nat) (r st : Int) (p n : Bs) (i : Bool) (bv : Value) (body : List Stm) (w : World) (h : OwnFils w B v ps) (e : ps.map (·.1) = fs) (hz : ShortT 2000000 fs) (hc : filsCost' fs) (hb : w.ownsRow B' 138 5 bv body.length (body.flatMap stmCells)) (hbz : ShortF 1048576 ⟨r, p, n, i, st, body⟩) (hbk : body.length ≤ 1048576) :
    Calls Try.prog 63 #[.agg #[v], .agg #[.int .i64 r, .string (mk p), .string (mk n), .bool i, .int .i64 st, bv]] w (NewTreeB (addFil fs ⟨r, p, n, i, st, body⟩) w) := by
  subst e
  have h1 := hc.1
  rw [List.length_map] at h1
  exact spec_AddFile v ps r st p n i bv body w (RowsF.of h) hz (by omega) (fun q hq => hc.2 _ (List.mem_map.2 ⟨q, hq, rfl⟩)) (owns_mono hb (Nat.zero_le _)) (shortF_mono (by omega) hbz) hbk
theorem impl_RemoveFileX (v : Value) (fs : List Fil) (ps : List (Fil × Value)) (B : Nat) (i : Int) (w : World) (h : OwnFils w B v ps) (e : ps.map (·.1) = fs) (hz : ShortT 2000000 fs) (hc : filsCost' fs) :
    Calls Try.prog 14 #[.agg #[v], .int .i64 i] w (NewTreeB (remFil fs i) w) := by
  subst e
  have h1 := hc.1
  rw [List.length_map] at h1
  exact impl_RemoveFile v ps i w (RowsF.of h) hz (by omega)
end Go.Proofs.Ytgecemngfpgcoaa
