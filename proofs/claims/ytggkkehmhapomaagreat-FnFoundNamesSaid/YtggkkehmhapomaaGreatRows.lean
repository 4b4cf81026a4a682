/-
  No cell of these rows narrows 'for every input' (looked for: loops, veiled, ifaces, maps, wideKeys, modest, calm, conditions, laid).
  DERIVED. THE GIVEN ROWS OF THIS SEAT. 5 by the template 'for every input the law returns true; each argument reads behind the call as it read before'; 0 by the template 'total and deterministic' (their statements: YtggkkehmhapomaaGreatTotals.lean).
  GIVEN WITH THE SEED: the statements are not yours to turn. If you find one false, say at which input.
  Laid BY PROGRAM, IN A SANDBOX (cutbox-rows.mjs): the forced cells as the released guide's own fill.sh prints them over the translation 90ee534275567c93… (all of the seat's roots in one cut). By AI agents, Wed Nov 11 2026. No macro, syntax, notation, axiom, sorry.
-/
import Derived.Test.YtggkkehmhapomaaGreatChecked
import GoSem.Claim
import GoSem.ClaimJoined
import GoSem.ClaimMapViews
import Derived.JoinedTies
import Derived.KernelRfl
namespace Go.Proofs.YtggkkehmhapomaaGreat
/- THE CELL 'sum', in the pinned program and in every row, IS THE sha256 OF THE DUMP (.gsa) THAT YtggkkehmhapomaaGreatProg.lean LOADS. Nothing in Lean hashes anything: it is a label: what it is worth is what the hold of that sum in a sandbox is worth. -/
noncomputable def Tryz.pinned : Pinned := { name := "ytggkkehmhapomaagreat", sum := "90ee534275567c9303bc67340f1dcf456bc8ce8128d58acae1177ed38ff961e2", checked := Tryz.checked }
namespace Rows
def none {H : Type} : Left H := { results := [], args := [] }

/-- 'laws.FnFoundNames': WHATEVER THE INPUT: true; the input reads as it did. -/
def fnFoundNamesSpec : ChangeSpec := { name := "fnFoundNames", fn := fun _ => fun
  | [d] => { results := [.lit (.bool true)], args := [d] }
  | _ => none }
def fnFoundNamesRow : OpenClaim := { program := "ytggkkehmhapomaagreat", sum := "90ee534275567c9303bc67340f1dcf456bc8ce8128d58acae1177ed38ff961e2", func := "loop.example/importhouse/laws.FnFoundNames", spec := "fnFoundNames", unfollowed := true, recurses := true, plainKeys := false, apart := false }
def FnFoundNamesSaid : Prop := fnFoundNamesRow.holds Tryz.pinned (OpenSpec.ofChange fnFoundNamesSpec)

/-- ITS FALSE NEIGHBOUR: 'it returns false'. Refute it at one input. -/
def fnFoundNamesWrong : ChangeSpec := { name := "fnFoundNames", fn := fun _ => fun
  | [d] => { results := [.lit (.bool false)], args := [d] }
  | _ => none }
def FnFoundNamesWrongFalsely : Prop := fnFoundNamesRow.holds Tryz.pinned (OpenSpec.ofChange fnFoundNamesWrong)

/-- 'laws.FnKidsOf': WHATEVER THE INPUT: true; the input reads as it did. -/
def fnKidsOfSpec : ChangeSpec := { name := "fnKidsOf", fn := fun _ => fun
  | [d] => { results := [.lit (.bool true)], args := [d] }
  | _ => none }
def fnKidsOfRow : OpenClaim := { program := "ytggkkehmhapomaagreat", sum := "90ee534275567c9303bc67340f1dcf456bc8ce8128d58acae1177ed38ff961e2", func := "loop.example/importhouse/laws.FnKidsOf", spec := "fnKidsOf", unfollowed := true, recurses := true, plainKeys := false, apart := false }
def FnKidsOfSaid : Prop := fnKidsOfRow.holds Tryz.pinned (OpenSpec.ofChange fnKidsOfSpec)

/-- ITS FALSE NEIGHBOUR: 'it returns false'. Refute it at one input. -/
def fnKidsOfWrong : ChangeSpec := { name := "fnKidsOf", fn := fun _ => fun
  | [d] => { results := [.lit (.bool false)], args := [d] }
  | _ => none }
def FnKidsOfWrongFalsely : Prop := fnKidsOfRow.holds Tryz.pinned (OpenSpec.ofChange fnKidsOfWrong)

/-- 'laws.FnEditFile': WHATEVER THE INPUT: true; the input reads as it did. -/
def fnEditFileSpec : ChangeSpec := { name := "fnEditFile", fn := fun _ => fun
  | [d] => { results := [.lit (.bool true)], args := [d] }
  | _ => none }
def fnEditFileRow : OpenClaim := { program := "ytggkkehmhapomaagreat", sum := "90ee534275567c9303bc67340f1dcf456bc8ce8128d58acae1177ed38ff961e2", func := "loop.example/importhouse/laws.FnEditFile", spec := "fnEditFile", unfollowed := true, recurses := true, plainKeys := false, apart := false }
def FnEditFileSaid : Prop := fnEditFileRow.holds Tryz.pinned (OpenSpec.ofChange fnEditFileSpec)

/-- ITS FALSE NEIGHBOUR: 'it returns false'. Refute it at one input. -/
def fnEditFileWrong : ChangeSpec := { name := "fnEditFile", fn := fun _ => fun
  | [d] => { results := [.lit (.bool false)], args := [d] }
  | _ => none }
def FnEditFileWrongFalsely : Prop := fnEditFileRow.holds Tryz.pinned (OpenSpec.ofChange fnEditFileWrong)

/-- 'laws.FnHiddenFilesGone': WHATEVER THE INPUT: true; the input reads as it did. -/
def fnHiddenFilesGoneSpec : ChangeSpec := { name := "fnHiddenFilesGone", fn := fun _ => fun
  | [d] => { results := [.lit (.bool true)], args := [d] }
  | _ => none }
def fnHiddenFilesGoneRow : OpenClaim := { program := "ytggkkehmhapomaagreat", sum := "90ee534275567c9303bc67340f1dcf456bc8ce8128d58acae1177ed38ff961e2", func := "loop.example/importhouse/laws.FnHiddenFilesGone", spec := "fnHiddenFilesGone", unfollowed := true, recurses := true, plainKeys := false, apart := false }
def FnHiddenFilesGoneSaid : Prop := fnHiddenFilesGoneRow.holds Tryz.pinned (OpenSpec.ofChange fnHiddenFilesGoneSpec)

/-- ITS FALSE NEIGHBOUR: 'it returns false'. Refute it at one input. -/
def fnHiddenFilesGoneWrong : ChangeSpec := { name := "fnHiddenFilesGone", fn := fun _ => fun
  | [d] => { results := [.lit (.bool false)], args := [d] }
  | _ => none }
def FnHiddenFilesGoneWrongFalsely : Prop := fnHiddenFilesGoneRow.holds Tryz.pinned (OpenSpec.ofChange fnHiddenFilesGoneWrong)

/-- 'laws.FnSameFinds': WHATEVER THE INPUT: true; the input reads as it did. -/
def fnSameFindsSpec : ChangeSpec := { name := "fnSameFinds", fn := fun _ => fun
  | [d] => { results := [.lit (.bool true)], args := [d] }
  | _ => none }
def fnSameFindsRow : OpenClaim := { program := "ytggkkehmhapomaagreat", sum := "90ee534275567c9303bc67340f1dcf456bc8ce8128d58acae1177ed38ff961e2", func := "loop.example/importhouse/laws.FnSameFinds", spec := "fnSameFinds", unfollowed := true, recurses := true, plainKeys := false, apart := false }
def FnSameFindsSaid : Prop := fnSameFindsRow.holds Tryz.pinned (OpenSpec.ofChange fnSameFindsSpec)

/-- ITS FALSE NEIGHBOUR: 'it returns false'. Refute it at one input. -/
def fnSameFindsWrong : ChangeSpec := { name := "fnSameFinds", fn := fun _ => fun
  | [d] => { results := [.lit (.bool false)], args := [d] }
  | _ => none }
def FnSameFindsWrongFalsely : Prop := fnSameFindsRow.holds Tryz.pinned (OpenSpec.ofChange fnSameFindsWrong)

/- THE SECOND FORM. 'bulk': how many values and letters a reading holds, each counted each time it is reached (what is shared counts as often as it is met; a slice's spare places count too). A statement '..UptoSaid' is the law's where the arguments, and the package variables that the reading takes, are together of bulk at most 1048576: NARROWER than '..Said'. Prove '..Said' where nothing that the law and all that it calls make is longer than what came in: it says more and counts as full. Else prove '..UptoSaid'. A law counts once. -/
mutual
def uptoBulk {H : Type} : DataW H → Nat
  | .lit (.string bytes) => bytes.length + 1
  | .lit _ => 1
  | .nil => 1
  | .ptr d => uptoBulk d + 1
  | .slice elems spare => uptoBulkAll elems + uptoBulkAll spare + 1
  | .agg parts => uptoBulkAll parts + 1
  | .iface _ d => uptoBulk d + 1
  | .map entries => uptoBulkEntries entries + 1
  | .held _ => 1
def uptoBulkAll {H : Type} : List (DataW H) → Nat
  | [] => 0
  | d :: r => uptoBulk d + uptoBulkAll r
def uptoBulkEntries {H : Type} : List (Lit × DataW H) → Nat
  | [] => 0
  | x :: r => uptoBulkEntry x + uptoBulkEntries r
def uptoBulkEntry {H : Type} : Lit × DataW H → Nat
  | (.string bytes, d) => bytes.length + uptoBulk d + 1
  | (_, d) => uptoBulk d + 1
 end
def uptoSmall : (H : Type) → List (DataW H) → Bool := fun _ ds => decide (uptoBulkAll ds ≤ 1048576)
def OpenSpec.upto (s : _root_.Go.ChangeSpec) : _root_.Go.OpenSpec := { _root_.Go.OpenSpec.ofChange s with cond := some uptoSmall }

/-- 'laws.FnFoundNames', WHERE WHAT IT READS IS OF BULK AT MOST 1048576: true; the input reads as it did. -/
def fnFoundNamesUptoRow : OpenClaim := { program := "ytggkkehmhapomaagreat", sum := "90ee534275567c9303bc67340f1dcf456bc8ce8128d58acae1177ed38ff961e2", func := "loop.example/importhouse/laws.FnFoundNames", spec := "fnFoundNames", unfollowed := true, recurses := true, plainKeys := false, apart := false, narrowed := true }
def FnFoundNamesUptoSaid : Prop := fnFoundNamesUptoRow.holds Tryz.pinned (OpenSpec.upto fnFoundNamesSpec)

/-- 'laws.FnKidsOf', WHERE WHAT IT READS IS OF BULK AT MOST 1048576: true; the input reads as it did. -/
def fnKidsOfUptoRow : OpenClaim := { program := "ytggkkehmhapomaagreat", sum := "90ee534275567c9303bc67340f1dcf456bc8ce8128d58acae1177ed38ff961e2", func := "loop.example/importhouse/laws.FnKidsOf", spec := "fnKidsOf", unfollowed := true, recurses := true, plainKeys := false, apart := false, narrowed := true }
def FnKidsOfUptoSaid : Prop := fnKidsOfUptoRow.holds Tryz.pinned (OpenSpec.upto fnKidsOfSpec)

/-- 'laws.FnEditFile', WHERE WHAT IT READS IS OF BULK AT MOST 1048576: true; the input reads as it did. -/
def fnEditFileUptoRow : OpenClaim := { program := "ytggkkehmhapomaagreat", sum := "90ee534275567c9303bc67340f1dcf456bc8ce8128d58acae1177ed38ff961e2", func := "loop.example/importhouse/laws.FnEditFile", spec := "fnEditFile", unfollowed := true, recurses := true, plainKeys := false, apart := false, narrowed := true }
def FnEditFileUptoSaid : Prop := fnEditFileUptoRow.holds Tryz.pinned (OpenSpec.upto fnEditFileSpec)

/-- 'laws.FnHiddenFilesGone', WHERE WHAT IT READS IS OF BULK AT MOST 1048576: true; the input reads as it did. -/
def fnHiddenFilesGoneUptoRow : OpenClaim := { program := "ytggkkehmhapomaagreat", sum := "90ee534275567c9303bc67340f1dcf456bc8ce8128d58acae1177ed38ff961e2", func := "loop.example/importhouse/laws.FnHiddenFilesGone", spec := "fnHiddenFilesGone", unfollowed := true, recurses := true, plainKeys := false, apart := false, narrowed := true }
def FnHiddenFilesGoneUptoSaid : Prop := fnHiddenFilesGoneUptoRow.holds Tryz.pinned (OpenSpec.upto fnHiddenFilesGoneSpec)

/-- 'laws.FnSameFinds', WHERE WHAT IT READS IS OF BULK AT MOST 1048576: true; the input reads as it did. -/
def fnSameFindsUptoRow : OpenClaim := { program := "ytggkkehmhapomaagreat", sum := "90ee534275567c9303bc67340f1dcf456bc8ce8128d58acae1177ed38ff961e2", func := "loop.example/importhouse/laws.FnSameFinds", spec := "fnSameFinds", unfollowed := true, recurses := true, plainKeys := false, apart := false, narrowed := true }
def FnSameFindsUptoSaid : Prop := fnSameFindsUptoRow.holds Tryz.pinned (OpenSpec.upto fnSameFindsSpec)

end Rows
end Go.Proofs.YtggkkehmhapomaaGreat
