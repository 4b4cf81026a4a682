/-
  No cell of these rows narrows 'for every input' (looked for: loops, veiled, ifaces, maps, wideKeys, modest, calm, conditions, laid).
  DERIVED. THE GIVEN ROWS OF THIS SEAT. 9 by the template 'for every input the law returns true; each argument reads behind the call as it read before'; 0 by the template 'total and deterministic' (their statements: YtgfnledbbnekhaaTotals.lean).
  GIVEN WITH THE SEED: the statements are not yours to turn. If you find one false, say at which input.
  Laid BY PROGRAM, IN A SANDBOX (cutbox-rows.mjs): the forced cells as the released guide's own fill.sh prints them over the translation e309fd1957fe812f… (all of the seat's roots in one cut). By AI agents, Wed Nov 11 2026. No macro, syntax, notation, axiom, sorry.
-/
import Derived.Test.YtgfnledbbnekhaaChecked
import GoSem.Claim
import GoSem.ClaimJoined
import GoSem.ClaimMapViews
import Derived.JoinedTies
import Derived.KernelRfl
namespace Go.Proofs.Ytgfnledbbnekhaa
/- THE CELL 'sum', in the pinned program and in every row, IS THE sha256 OF THE DUMP (.gsa) THAT YtgfnledbbnekhaaProg.lean LOADS. Nothing in Lean hashes anything: it is a label: what it is worth is what the hold of that sum in a sandbox is worth. -/
noncomputable def Try.pinned : Pinned := { name := "ytgfnledbbnekhaa", sum := "e309fd1957fe812febbb440ac0917a57a761982a0ca0379f5f2c65694a3e6424", checked := Try.checked }
namespace Rows
def none {H : Type} : Left H := { results := [], args := [] }

/-- 'laws.FnExactValidDisk': WHATEVER THE INPUT: true; the input reads as it did. -/
def fnExactValidDiskSpec : ChangeSpec := { name := "fnExactValidDisk", fn := fun _ => fun
  | [d] => { results := [.lit (.bool true)], args := [d] }
  | _ => none }
def fnExactValidDiskRow : OpenClaim := { program := "ytgfnledbbnekhaa", sum := "e309fd1957fe812febbb440ac0917a57a761982a0ca0379f5f2c65694a3e6424", func := "loop.example/importhouse/laws.FnExactValidDisk", spec := "fnExactValidDisk", plainKeys := false, apart := false }
def FnExactValidDiskSaid : Prop := fnExactValidDiskRow.holds Try.pinned (OpenSpec.ofChange fnExactValidDiskSpec)

/-- ITS FALSE NEIGHBOUR: 'it returns false'. Refute it at one input. -/
def fnExactValidDiskWrong : ChangeSpec := { name := "fnExactValidDisk", fn := fun _ => fun
  | [d] => { results := [.lit (.bool false)], args := [d] }
  | _ => none }
def FnExactValidDiskWrongFalsely : Prop := fnExactValidDiskRow.holds Try.pinned (OpenSpec.ofChange fnExactValidDiskWrong)

/-- 'laws.FnExactStampOf': WHATEVER THE INPUT: true; the input reads as it did. -/
def fnExactStampOfSpec : ChangeSpec := { name := "fnExactStampOf", fn := fun _ => fun
  | [d1, d2, d3] => { results := [.lit (.bool true)], args := [d1, d2, d3] }
  | _ => none }
def fnExactStampOfRow : OpenClaim := { program := "ytgfnledbbnekhaa", sum := "e309fd1957fe812febbb440ac0917a57a761982a0ca0379f5f2c65694a3e6424", func := "loop.example/importhouse/laws.FnExactStampOf", spec := "fnExactStampOf", plainKeys := false, apart := false }
def FnExactStampOfSaid : Prop := fnExactStampOfRow.holds Try.pinned (OpenSpec.ofChange fnExactStampOfSpec)

/-- ITS FALSE NEIGHBOUR: 'it returns false'. Refute it at one input. -/
def fnExactStampOfWrong : ChangeSpec := { name := "fnExactStampOf", fn := fun _ => fun
  | [d1, d2, d3] => { results := [.lit (.bool false)], args := [d1, d2, d3] }
  | _ => none }
def FnExactStampOfWrongFalsely : Prop := fnExactStampOfRow.holds Try.pinned (OpenSpec.ofChange fnExactStampOfWrong)

/-- 'laws.FnExactDiskAdd': WHATEVER THE INPUT: true; the input reads as it did. -/
def fnExactDiskAddSpec : ChangeSpec := { name := "fnExactDiskAdd", fn := fun _ => fun
  | [d1, d2, d3] => { results := [.lit (.bool true)], args := [d1, d2, d3] }
  | _ => none }
def fnExactDiskAddRow : OpenClaim := { program := "ytgfnledbbnekhaa", sum := "e309fd1957fe812febbb440ac0917a57a761982a0ca0379f5f2c65694a3e6424", func := "loop.example/importhouse/laws.FnExactDiskAdd", spec := "fnExactDiskAdd", plainKeys := false, apart := false }
def FnExactDiskAddSaid : Prop := fnExactDiskAddRow.holds Try.pinned (OpenSpec.ofChange fnExactDiskAddSpec)

/-- ITS FALSE NEIGHBOUR: 'it returns false'. Refute it at one input. -/
def fnExactDiskAddWrong : ChangeSpec := { name := "fnExactDiskAdd", fn := fun _ => fun
  | [d1, d2, d3] => { results := [.lit (.bool false)], args := [d1, d2, d3] }
  | _ => none }
def FnExactDiskAddWrongFalsely : Prop := fnExactDiskAddRow.holds Try.pinned (OpenSpec.ofChange fnExactDiskAddWrong)

/-- 'laws.FnExactDiskRemove': WHATEVER THE INPUT: true; the input reads as it did. -/
def fnExactDiskRemoveSpec : ChangeSpec := { name := "fnExactDiskRemove", fn := fun _ => fun
  | [d1, d2, d3] => { results := [.lit (.bool true)], args := [d1, d2, d3] }
  | _ => none }
def fnExactDiskRemoveRow : OpenClaim := { program := "ytgfnledbbnekhaa", sum := "e309fd1957fe812febbb440ac0917a57a761982a0ca0379f5f2c65694a3e6424", func := "loop.example/importhouse/laws.FnExactDiskRemove", spec := "fnExactDiskRemove", plainKeys := false, apart := false }
def FnExactDiskRemoveSaid : Prop := fnExactDiskRemoveRow.holds Try.pinned (OpenSpec.ofChange fnExactDiskRemoveSpec)

/-- ITS FALSE NEIGHBOUR: 'it returns false'. Refute it at one input. -/
def fnExactDiskRemoveWrong : ChangeSpec := { name := "fnExactDiskRemove", fn := fun _ => fun
  | [d1, d2, d3] => { results := [.lit (.bool false)], args := [d1, d2, d3] }
  | _ => none }
def FnExactDiskRemoveWrongFalsely : Prop := fnExactDiskRemoveRow.holds Try.pinned (OpenSpec.ofChange fnExactDiskRemoveWrong)

/-- 'laws.FnExactValidFinder': WHATEVER THE INPUT: true; the input reads as it did. -/
def fnExactValidFinderSpec : ChangeSpec := { name := "fnExactValidFinder", fn := fun _ => fun
  | [d] => { results := [.lit (.bool true)], args := [d] }
  | _ => none }
def fnExactValidFinderRow : OpenClaim := { program := "ytgfnledbbnekhaa", sum := "e309fd1957fe812febbb440ac0917a57a761982a0ca0379f5f2c65694a3e6424", func := "loop.example/importhouse/laws.FnExactValidFinder", spec := "fnExactValidFinder", plainKeys := false, apart := false }
def FnExactValidFinderSaid : Prop := fnExactValidFinderRow.holds Try.pinned (OpenSpec.ofChange fnExactValidFinderSpec)

/-- ITS FALSE NEIGHBOUR: 'it returns false'. Refute it at one input. -/
def fnExactValidFinderWrong : ChangeSpec := { name := "fnExactValidFinder", fn := fun _ => fun
  | [d] => { results := [.lit (.bool false)], args := [d] }
  | _ => none }
def FnExactValidFinderWrongFalsely : Prop := fnExactValidFinderRow.holds Try.pinned (OpenSpec.ofChange fnExactValidFinderWrong)

/-- 'laws.FnExactForgetAll': WHATEVER THE INPUT: true; the input reads as it did. -/
def fnExactForgetAllSpec : ChangeSpec := { name := "fnExactForgetAll", fn := fun _ => fun
  | [d] => { results := [.lit (.bool true)], args := [d] }
  | _ => none }
def fnExactForgetAllRow : OpenClaim := { program := "ytgfnledbbnekhaa", sum := "e309fd1957fe812febbb440ac0917a57a761982a0ca0379f5f2c65694a3e6424", func := "loop.example/importhouse/laws.FnExactForgetAll", spec := "fnExactForgetAll", plainKeys := false, apart := false }
def FnExactForgetAllSaid : Prop := fnExactForgetAllRow.holds Try.pinned (OpenSpec.ofChange fnExactForgetAllSpec)

/-- ITS FALSE NEIGHBOUR: 'it returns false'. Refute it at one input. -/
def fnExactForgetAllWrong : ChangeSpec := { name := "fnExactForgetAll", fn := fun _ => fun
  | [d] => { results := [.lit (.bool false)], args := [d] }
  | _ => none }
def FnExactForgetAllWrongFalsely : Prop := fnExactForgetAllRow.holds Try.pinned (OpenSpec.ofChange fnExactForgetAllWrong)

/-- 'laws.FnExactValidStore': WHATEVER THE INPUT: true; the input reads as it did. -/
def fnExactValidStoreSpec : ChangeSpec := { name := "fnExactValidStore", fn := fun _ => fun
  | [d] => { results := [.lit (.bool true)], args := [d] }
  | _ => none }
def fnExactValidStoreRow : OpenClaim := { program := "ytgfnledbbnekhaa", sum := "e309fd1957fe812febbb440ac0917a57a761982a0ca0379f5f2c65694a3e6424", func := "loop.example/importhouse/laws.FnExactValidStore", spec := "fnExactValidStore", unfollowed := true, recurses := true, plainKeys := false, apart := false }
def FnExactValidStoreSaid : Prop := fnExactValidStoreRow.holds Try.pinned (OpenSpec.ofChange fnExactValidStoreSpec)

/-- ITS FALSE NEIGHBOUR: 'it returns false'. Refute it at one input. -/
def fnExactValidStoreWrong : ChangeSpec := { name := "fnExactValidStore", fn := fun _ => fun
  | [d] => { results := [.lit (.bool false)], args := [d] }
  | _ => none }
def FnExactValidStoreWrongFalsely : Prop := fnExactValidStoreRow.holds Try.pinned (OpenSpec.ofChange fnExactValidStoreWrong)

/-- 'laws.FnExactSizeOf': WHATEVER THE INPUT: true; the input reads as it did. -/
def fnExactSizeOfSpec : ChangeSpec := { name := "fnExactSizeOf", fn := fun _ => fun
  | [d] => { results := [.lit (.bool true)], args := [d] }
  | _ => none }
def fnExactSizeOfRow : OpenClaim := { program := "ytgfnledbbnekhaa", sum := "e309fd1957fe812febbb440ac0917a57a761982a0ca0379f5f2c65694a3e6424", func := "loop.example/importhouse/laws.FnExactSizeOf", spec := "fnExactSizeOf", plainKeys := false, apart := false }
def FnExactSizeOfSaid : Prop := fnExactSizeOfRow.holds Try.pinned (OpenSpec.ofChange fnExactSizeOfSpec)

/-- ITS FALSE NEIGHBOUR: 'it returns false'. Refute it at one input. -/
def fnExactSizeOfWrong : ChangeSpec := { name := "fnExactSizeOf", fn := fun _ => fun
  | [d] => { results := [.lit (.bool false)], args := [d] }
  | _ => none }
def FnExactSizeOfWrongFalsely : Prop := fnExactSizeOfRow.holds Try.pinned (OpenSpec.ofChange fnExactSizeOfWrong)

/-- 'laws.FnExactCompileFile': WHATEVER THE INPUT: true; the input reads as it did. -/
def fnExactCompileFileSpec : ChangeSpec := { name := "fnExactCompileFile", fn := fun _ => fun
  | [d1, d2] => { results := [.lit (.bool true)], args := [d1, d2] }
  | _ => none }
def fnExactCompileFileRow : OpenClaim := { program := "ytgfnledbbnekhaa", sum := "e309fd1957fe812febbb440ac0917a57a761982a0ca0379f5f2c65694a3e6424", func := "loop.example/importhouse/laws.FnExactCompileFile", spec := "fnExactCompileFile", plainKeys := false, apart := false }
def FnExactCompileFileSaid : Prop := fnExactCompileFileRow.holds Try.pinned (OpenSpec.ofChange fnExactCompileFileSpec)

/-- ITS FALSE NEIGHBOUR: 'it returns false'. Refute it at one input. -/
def fnExactCompileFileWrong : ChangeSpec := { name := "fnExactCompileFile", fn := fun _ => fun
  | [d1, d2] => { results := [.lit (.bool false)], args := [d1, d2] }
  | _ => none }
def FnExactCompileFileWrongFalsely : Prop := fnExactCompileFileRow.holds Try.pinned (OpenSpec.ofChange fnExactCompileFileWrong)

/- THE SECOND FORM. 'bulk': how many values and letters a reading holds, each counted each time it is reached (what is shared counts as often as it is met; a slice's spare places count too). A statement '..UptoSaid' is the law's where the arguments, and the package variables that the reading takes, are together of bulk at most 1048576: NARROWER than '..Said'. Prove '..Said' where nothing that the law and all that it calls make is longer than what came in: it says more and counts as full. Else prove '..UptoSaid'. A law counts once. -/
mutual
def uptoBulk {H : Type} : DataW H → Nat
  | .lit (.string bytes) => bytes.length + 1
  | .lit _ => 1
  | .nil => 1
  | .ptr d => uptoBulk d + 1
  | .slice elems spare => uptoBulkAll elems + uptoBulkAll spare + 1
  | .agg parts => uptoBulkAll parts + 1
  | .iface _ d => uptoBulk d + 1
  | .map entries => uptoBulkEntries entries + 1
  | .held _ => 1
def uptoBulkAll {H : Type} : List (DataW H) → Nat
  | [] => 0
  | d :: r => uptoBulk d + uptoBulkAll r
def uptoBulkEntries {H : Type} : List (Lit × DataW H) → Nat
  | [] => 0
  | x :: r => uptoBulkEntry x + uptoBulkEntries r
def uptoBulkEntry {H : Type} : Lit × DataW H → Nat
  | (.string bytes, d) => bytes.length + uptoBulk d + 1
  | (_, d) => uptoBulk d + 1
 end
def uptoSmall : (H : Type) → List (DataW H) → Bool := fun _ ds => decide (uptoBulkAll ds ≤ 1048576)
def OpenSpec.upto (s : _root_.Go.ChangeSpec) : _root_.Go.OpenSpec := { _root_.Go.OpenSpec.ofChange s with cond := some uptoSmall }

/-- 'laws.FnExactValidDisk', WHERE WHAT IT READS IS OF BULK AT MOST 1048576: true; the input reads as it did. -/
def fnExactValidDiskUptoRow : OpenClaim := { program := "ytgfnledbbnekhaa", sum := "e309fd1957fe812febbb440ac0917a57a761982a0ca0379f5f2c65694a3e6424", func := "loop.example/importhouse/laws.FnExactValidDisk", spec := "fnExactValidDisk", plainKeys := false, apart := false, narrowed := true }
def FnExactValidDiskUptoSaid : Prop := fnExactValidDiskUptoRow.holds Try.pinned (OpenSpec.upto fnExactValidDiskSpec)

/-- 'laws.FnExactStampOf', WHERE WHAT IT READS IS OF BULK AT MOST 1048576: true; the input reads as it did. -/
def fnExactStampOfUptoRow : OpenClaim := { program := "ytgfnledbbnekhaa", sum := "e309fd1957fe812febbb440ac0917a57a761982a0ca0379f5f2c65694a3e6424", func := "loop.example/importhouse/laws.FnExactStampOf", spec := "fnExactStampOf", plainKeys := false, apart := false, narrowed := true }
def FnExactStampOfUptoSaid : Prop := fnExactStampOfUptoRow.holds Try.pinned (OpenSpec.upto fnExactStampOfSpec)

/-- 'laws.FnExactDiskAdd', WHERE WHAT IT READS IS OF BULK AT MOST 1048576: true; the input reads as it did. -/
def fnExactDiskAddUptoRow : OpenClaim := { program := "ytgfnledbbnekhaa", sum := "e309fd1957fe812febbb440ac0917a57a761982a0ca0379f5f2c65694a3e6424", func := "loop.example/importhouse/laws.FnExactDiskAdd", spec := "fnExactDiskAdd", plainKeys := false, apart := false, narrowed := true }
def FnExactDiskAddUptoSaid : Prop := fnExactDiskAddUptoRow.holds Try.pinned (OpenSpec.upto fnExactDiskAddSpec)

/-- 'laws.FnExactDiskRemove', WHERE WHAT IT READS IS OF BULK AT MOST 1048576: true; the input reads as it did. -/
def fnExactDiskRemoveUptoRow : OpenClaim := { program := "ytgfnledbbnekhaa", sum := "e309fd1957fe812febbb440ac0917a57a761982a0ca0379f5f2c65694a3e6424", func := "loop.example/importhouse/laws.FnExactDiskRemove", spec := "fnExactDiskRemove", plainKeys := false, apart := false, narrowed := true }
def FnExactDiskRemoveUptoSaid : Prop := fnExactDiskRemoveUptoRow.holds Try.pinned (OpenSpec.upto fnExactDiskRemoveSpec)

/-- 'laws.FnExactValidFinder', WHERE WHAT IT READS IS OF BULK AT MOST 1048576: true; the input reads as it did. -/
def fnExactValidFinderUptoRow : OpenClaim := { program := "ytgfnledbbnekhaa", sum := "e309fd1957fe812febbb440ac0917a57a761982a0ca0379f5f2c65694a3e6424", func := "loop.example/importhouse/laws.FnExactValidFinder", spec := "fnExactValidFinder", plainKeys := false, apart := false, narrowed := true }
def FnExactValidFinderUptoSaid : Prop := fnExactValidFinderUptoRow.holds Try.pinned (OpenSpec.upto fnExactValidFinderSpec)

/-- 'laws.FnExactForgetAll', WHERE WHAT IT READS IS OF BULK AT MOST 1048576: true; the input reads as it did. -/
def fnExactForgetAllUptoRow : OpenClaim := { program := "ytgfnledbbnekhaa", sum := "e309fd1957fe812febbb440ac0917a57a761982a0ca0379f5f2c65694a3e6424", func := "loop.example/importhouse/laws.FnExactForgetAll", spec := "fnExactForgetAll", plainKeys := false, apart := false, narrowed := true }
def FnExactForgetAllUptoSaid : Prop := fnExactForgetAllUptoRow.holds Try.pinned (OpenSpec.upto fnExactForgetAllSpec)

/-- 'laws.FnExactValidStore', WHERE WHAT IT READS IS OF BULK AT MOST 1048576: true; the input reads as it did. -/
def fnExactValidStoreUptoRow : OpenClaim := { program := "ytgfnledbbnekhaa", sum := "e309fd1957fe812febbb440ac0917a57a761982a0ca0379f5f2c65694a3e6424", func := "loop.example/importhouse/laws.FnExactValidStore", spec := "fnExactValidStore", unfollowed := true, recurses := true, plainKeys := false, apart := false, narrowed := true }
def FnExactValidStoreUptoSaid : Prop := fnExactValidStoreUptoRow.holds Try.pinned (OpenSpec.upto fnExactValidStoreSpec)

/-- 'laws.FnExactSizeOf', WHERE WHAT IT READS IS OF BULK AT MOST 1048576: true; the input reads as it did. -/
def fnExactSizeOfUptoRow : OpenClaim := { program := "ytgfnledbbnekhaa", sum := "e309fd1957fe812febbb440ac0917a57a761982a0ca0379f5f2c65694a3e6424", func := "loop.example/importhouse/laws.FnExactSizeOf", spec := "fnExactSizeOf", plainKeys := false, apart := false, narrowed := true }
def FnExactSizeOfUptoSaid : Prop := fnExactSizeOfUptoRow.holds Try.pinned (OpenSpec.upto fnExactSizeOfSpec)

/-- 'laws.FnExactCompileFile', WHERE WHAT IT READS IS OF BULK AT MOST 1048576: true; the input reads as it did. -/
def fnExactCompileFileUptoRow : OpenClaim := { program := "ytgfnledbbnekhaa", sum := "e309fd1957fe812febbb440ac0917a57a761982a0ca0379f5f2c65694a3e6424", func := "loop.example/importhouse/laws.FnExactCompileFile", spec := "fnExactCompileFile", plainKeys := false, apart := false, narrowed := true }
def FnExactCompileFileUptoSaid : Prop := fnExactCompileFileUptoRow.holds Try.pinned (OpenSpec.upto fnExactCompileFileSpec)

end Rows
end Go.Proofs.Ytgfnledbbnekhaa
