/- Disks and finders in the words of the exact laws' walks. -/
import Derived.Test.YtgecemngfpgcoaaToDisk
set_option linter.unusedVariables false
set_option linter.unusedSimpArgs false
namespace Go.Proofs.Ytgecemngfpgcoaa
open Go.RowKit Go.Proofs.Ytgecemngfpgcoaa.Nm

/-- A disk's files and directories. -/
def DskIn (w : World) (D : Nat → Prop) (v : Value) (fs : List Fil) (u : Value) (ds : List Dr) : Prop := FilsIn w D v fs ∧ DirsIn w D u ds
theorem DskIn.below {w w' : World} {D : Nat → Prop} {v u : Value} {fs : List Fil} {ds : List Dr} (h : DskIn w D v fs u ds) (hb : Below w.heap.size w w') : DskIn w' D v fs u ds := ⟨h.1.below hb, h.2.below hb⟩
theorem DskIn.len {w : World} {D : Nat → Prop} {v u : Value} {fs : List Fil} {ds : List Dr} (h : DskIn w D v fs u ds) :
    (∃ a cap, v = .slice a fs.length cap ∧ fs.length ≤ cap ∧ cap ≤ maxLen) ∧ (∃ a cap, u = .slice a ds.length cap ∧ ds.length ≤ cap ∧ cap ≤ maxLen) := ⟨h.1.len, h.2.len⟩
def ShortK (B : Nat) (fs : List Fil) (ds : List Dr) : Prop := ShortT B fs ∧ ShortD B ds
def dskCost (fs : List Fil) (ds : List Dr) : Nat := filsCost fs + drsCost ds
def dskCost' (fs : List Fil) (ds : List Dr) : Prop := filsCost' fs ∧ drsCost' ds
theorem dskCosts_of {fs : List Fil} {ds : List Dr} (h : dskCost fs ds ≤ 1048576) : dskCost' fs ds := by
  unfold dskCost at h
  exact ⟨costs_of (by omega), drCosts_of (by omega)⟩
theorem shortK_of {fs : List Fil} {ds : List Dr} {B : Nat} (h : dskCost fs ds ≤ B) : ShortK B fs ds := by
  unfold dskCost at h
  exact ⟨shortT_of (by omega), shortD_of (by omega)⟩
theorem shortK_mono {A B : Nat} (h : A ≤ B) {fs : List Fil} {ds : List Dr} (hs : ShortK A fs ds) : ShortK B fs ds := ⟨shortT_mono h hs.1, shortD_mono h hs.2⟩
def sameDsk (fs fs' : List Fil) (c c' : Int) (ds ds' : List Dr) : Bool := sameFils fs fs' && decide (c = c') && sameDrs ds ds'
theorem sameDsk_self (fs : List Fil) (c : Int) (ds : List Dr) : sameDsk fs fs c c ds ds = true := by simp [sameDsk, sameFils, sameDrs]
def sameFnd (ds ds' : List Dr) (c c' d d' : Int) : Bool := sameDrs ds ds' && decide (c = c') && decide (d = d')
theorem sameFnd_self (ds : List Dr) (c d : Int) : sameFnd ds ds c c d d = true := by simp [sameFnd, sameDrs]
theorem laws_szDiskX (v : Value) (fs : List Fil) (c : Int) (u : Value) (ds : List Dr) (D : Nat → Prop) (left : Nat) (w : World) (hr : DskIn w D v fs u ds) (hz : ShortK maxLen fs ds) (hl : left ≤ 1048576) :
    Calls Try.prog 18 #[.agg #[v, .int .i64 c, u], .int .i64 left] w (SzB (dskCost fs ds) left w) := laws_szDisk v fs c u ds D D left w hr.1 hz.1 hr.2 hz.2 hl
theorem laws_toDiskX (v : Value) (fs : List Fil) (c : Int) (u : Value) (ds : List Dr) (D : Nat → Prop) (w : World) (hr : DskIn w D v fs u ds) (hl : dskCost' fs ds) :
    Calls Try.prog 21 #[.agg #[v, .int .i64 c, u]] w (NewDsk fs c ds w) := laws_toDisk v fs c u ds D D w hr.1 hr.2 hl.1 hl.2
theorem laws_eqDiskX (v v' : Value) (fs fs' : List Fil) (c c' : Int) (u u' : Value) (ds ds' : List Dr) (D D' : Nat → Prop) (w : World) (hr : DskIn w D v fs u ds) (hr' : DskIn w D' v' fs' u' ds') :
    Calls Try.prog 24 #[.agg #[v, .int .i64 c, u], .agg #[v', .int .i64 c', u']] w fun e w' => e = .returned (.bool (sameDsk fs fs' c c' ds ds')) ∧ Below w.heap.size w w' :=
  laws_eqDisk v v' fs fs' c c' u u' ds ds' D D' D D' w hr.1 hr'.1 hr.2 hr'.2
end Go.Proofs.Ytgecemngfpgcoaa
