/-
  No cell of these rows narrows 'for every input' (looked for: loops, veiled, ifaces, maps, wideKeys, modest, calm, conditions, laid).
  DERIVED. THE GIVEN ROWS OF THIS SEAT. 12 by the template 'for every input the law returns true; each argument reads behind the call as it read before'; 0 by the template 'total and deterministic' (their statements: YtoleklppgmeflaaTotals.lean).
  GIVEN WITH THE SEED: the statements are not yours to turn. If you find one false, say at which input.
  Laid BY PROGRAM, IN A SANDBOX (cutbox-rows.mjs): the forced cells as the released guide's own fill.sh prints them over the translation 7ecc5a92245cc2ab… (all of the seat's roots in one cut). By AI agents, Wed Nov 11 2026. No macro, syntax, notation, axiom, sorry.
-/
import Derived.Test.YtoleklppgmeflaaChecked
import GoSem.Claim
import GoSem.ClaimJoined
import GoSem.ClaimMapViews
import Derived.JoinedTies
import Derived.KernelRfl
namespace Go.Proofs.Ytoleklppgmeflaa
/- THE CELL 'sum', in the pinned program and in every row, IS THE sha256 OF THE DUMP (.gsa) THAT YtoleklppgmeflaaProg.lean LOADS. Nothing in Lean hashes anything: it is a label: what it is worth is what the hold of that sum in a sandbox is worth. -/
noncomputable def Try.pinned : Pinned := { name := "ytoleklppgmeflaa", sum := "7ecc5a92245cc2ab100c4c716a021bbb03072b6f56937088b8d27dbc7767251a", checked := Try.checked }
namespace Rows
def none {H : Type} : Left H := { results := [], args := [] }

/-- 'laws.FnValidTree': WHATEVER THE INPUT: true; the input reads as it did. -/
def fnValidTreeSpec : ChangeSpec := { name := "fnValidTree", fn := fun _ => fun
  | [d] => { results := [.lit (.bool true)], args := [d] }
  | _ => none }
def fnValidTreeRow : OpenClaim := { program := "ytoleklppgmeflaa", sum := "7ecc5a92245cc2ab100c4c716a021bbb03072b6f56937088b8d27dbc7767251a", func := "loop.example/importhouse/laws.FnValidTree", spec := "fnValidTree", plainKeys := false, apart := false }
def FnValidTreeSaid : Prop := fnValidTreeRow.holds Try.pinned (OpenSpec.ofChange fnValidTreeSpec)

/-- ITS FALSE NEIGHBOUR: 'it returns false'. Refute it at one input. -/
def fnValidTreeWrong : ChangeSpec := { name := "fnValidTree", fn := fun _ => fun
  | [d] => { results := [.lit (.bool false)], args := [d] }
  | _ => none }
def FnValidTreeWrongFalsely : Prop := fnValidTreeRow.holds Try.pinned (OpenSpec.ofChange fnValidTreeWrong)

/-- 'laws.FnAddFile': WHATEVER THE INPUT: true; the input reads as it did. -/
def fnAddFileSpec : ChangeSpec := { name := "fnAddFile", fn := fun _ => fun
  | [d] => { results := [.lit (.bool true)], args := [d] }
  | _ => none }
def fnAddFileRow : OpenClaim := { program := "ytoleklppgmeflaa", sum := "7ecc5a92245cc2ab100c4c716a021bbb03072b6f56937088b8d27dbc7767251a", func := "loop.example/importhouse/laws.FnAddFile", spec := "fnAddFile", recurses := true, plainKeys := false, apart := false }
def FnAddFileSaid : Prop := fnAddFileRow.holds Try.pinned (OpenSpec.ofChange fnAddFileSpec)

/-- ITS FALSE NEIGHBOUR: 'it returns false'. Refute it at one input. -/
def fnAddFileWrong : ChangeSpec := { name := "fnAddFile", fn := fun _ => fun
  | [d] => { results := [.lit (.bool false)], args := [d] }
  | _ => none }
def FnAddFileWrongFalsely : Prop := fnAddFileRow.holds Try.pinned (OpenSpec.ofChange fnAddFileWrong)

/-- 'laws.FnRemoveFile': WHATEVER THE INPUT: true; the input reads as it did. -/
def fnRemoveFileSpec : ChangeSpec := { name := "fnRemoveFile", fn := fun _ => fun
  | [d] => { results := [.lit (.bool true)], args := [d] }
  | _ => none }
def fnRemoveFileRow : OpenClaim := { program := "ytoleklppgmeflaa", sum := "7ecc5a92245cc2ab100c4c716a021bbb03072b6f56937088b8d27dbc7767251a", func := "loop.example/importhouse/laws.FnRemoveFile", spec := "fnRemoveFile", plainKeys := false, apart := false }
def FnRemoveFileSaid : Prop := fnRemoveFileRow.holds Try.pinned (OpenSpec.ofChange fnRemoveFileSpec)

/-- ITS FALSE NEIGHBOUR: 'it returns false'. Refute it at one input. -/
def fnRemoveFileWrong : ChangeSpec := { name := "fnRemoveFile", fn := fun _ => fun
  | [d] => { results := [.lit (.bool false)], args := [d] }
  | _ => none }
def FnRemoveFileWrongFalsely : Prop := fnRemoveFileRow.holds Try.pinned (OpenSpec.ofChange fnRemoveFileWrong)

/-- 'laws.FnHasDir': WHATEVER THE INPUT: true; the input reads as it did. -/
def fnHasDirSpec : ChangeSpec := { name := "fnHasDir", fn := fun _ => fun
  | [d] => { results := [.lit (.bool true)], args := [d] }
  | _ => none }
def fnHasDirRow : OpenClaim := { program := "ytoleklppgmeflaa", sum := "7ecc5a92245cc2ab100c4c716a021bbb03072b6f56937088b8d27dbc7767251a", func := "loop.example/importhouse/laws.FnHasDir", spec := "fnHasDir", recurses := true, plainKeys := false, apart := false }
def FnHasDirSaid : Prop := fnHasDirRow.holds Try.pinned (OpenSpec.ofChange fnHasDirSpec)

/-- ITS FALSE NEIGHBOUR: 'it returns false'. Refute it at one input. -/
def fnHasDirWrong : ChangeSpec := { name := "fnHasDir", fn := fun _ => fun
  | [d] => { results := [.lit (.bool false)], args := [d] }
  | _ => none }
def FnHasDirWrongFalsely : Prop := fnHasDirRow.holds Try.pinned (OpenSpec.ofChange fnHasDirWrong)

/-- 'laws.FnListDir': WHATEVER THE INPUT: true; the input reads as it did. -/
def fnListDirSpec : ChangeSpec := { name := "fnListDir", fn := fun _ => fun
  | [d] => { results := [.lit (.bool true)], args := [d] }
  | _ => none }
def fnListDirRow : OpenClaim := { program := "ytoleklppgmeflaa", sum := "7ecc5a92245cc2ab100c4c716a021bbb03072b6f56937088b8d27dbc7767251a", func := "loop.example/importhouse/laws.FnListDir", spec := "fnListDir", recurses := true, plainKeys := false, apart := false }
def FnListDirSaid : Prop := fnListDirRow.holds Try.pinned (OpenSpec.ofChange fnListDirSpec)

/-- ITS FALSE NEIGHBOUR: 'it returns false'. Refute it at one input. -/
def fnListDirWrong : ChangeSpec := { name := "fnListDir", fn := fun _ => fun
  | [d] => { results := [.lit (.bool false)], args := [d] }
  | _ => none }
def FnListDirWrongFalsely : Prop := fnListDirRow.holds Try.pinned (OpenSpec.ofChange fnListDirWrong)

/-- 'laws.FnModulesOf': WHATEVER THE INPUT: true; the input reads as it did. -/
def fnModulesOfSpec : ChangeSpec := { name := "fnModulesOf", fn := fun _ => fun
  | [d] => { results := [.lit (.bool true)], args := [d] }
  | _ => none }
def fnModulesOfRow : OpenClaim := { program := "ytoleklppgmeflaa", sum := "7ecc5a92245cc2ab100c4c716a021bbb03072b6f56937088b8d27dbc7767251a", func := "loop.example/importhouse/laws.FnModulesOf", spec := "fnModulesOf", recurses := true, plainKeys := false, apart := false }
def FnModulesOfSaid : Prop := fnModulesOfRow.holds Try.pinned (OpenSpec.ofChange fnModulesOfSpec)

/-- ITS FALSE NEIGHBOUR: 'it returns false'. Refute it at one input. -/
def fnModulesOfWrong : ChangeSpec := { name := "fnModulesOf", fn := fun _ => fun
  | [d] => { results := [.lit (.bool false)], args := [d] }
  | _ => none }
def FnModulesOfWrongFalsely : Prop := fnModulesOfRow.holds Try.pinned (OpenSpec.ofChange fnModulesOfWrong)

/-- 'laws.FnPackagesOf': WHATEVER THE INPUT: true; the input reads as it did. -/
def fnPackagesOfSpec : ChangeSpec := { name := "fnPackagesOf", fn := fun _ => fun
  | [d] => { results := [.lit (.bool true)], args := [d] }
  | _ => none }
def fnPackagesOfRow : OpenClaim := { program := "ytoleklppgmeflaa", sum := "7ecc5a92245cc2ab100c4c716a021bbb03072b6f56937088b8d27dbc7767251a", func := "loop.example/importhouse/laws.FnPackagesOf", spec := "fnPackagesOf", recurses := true, plainKeys := false, apart := false }
def FnPackagesOfSaid : Prop := fnPackagesOfRow.holds Try.pinned (OpenSpec.ofChange fnPackagesOfSpec)

/-- ITS FALSE NEIGHBOUR: 'it returns false'. Refute it at one input. -/
def fnPackagesOfWrong : ChangeSpec := { name := "fnPackagesOf", fn := fun _ => fun
  | [d] => { results := [.lit (.bool false)], args := [d] }
  | _ => none }
def FnPackagesOfWrongFalsely : Prop := fnPackagesOfRow.holds Try.pinned (OpenSpec.ofChange fnPackagesOfWrong)

/-- 'laws.FnFindIn': WHATEVER THE INPUT: true; the input reads as it did. -/
def fnFindInSpec : ChangeSpec := { name := "fnFindIn", fn := fun _ => fun
  | [d] => { results := [.lit (.bool true)], args := [d] }
  | _ => none }
def fnFindInRow : OpenClaim := { program := "ytoleklppgmeflaa", sum := "7ecc5a92245cc2ab100c4c716a021bbb03072b6f56937088b8d27dbc7767251a", func := "loop.example/importhouse/laws.FnFindIn", spec := "fnFindIn", unfollowed := true, recurses := true, plainKeys := false, apart := false }
def FnFindInSaid : Prop := fnFindInRow.holds Try.pinned (OpenSpec.ofChange fnFindInSpec)

/-- ITS FALSE NEIGHBOUR: 'it returns false'. Refute it at one input. -/
def fnFindInWrong : ChangeSpec := { name := "fnFindIn", fn := fun _ => fun
  | [d] => { results := [.lit (.bool false)], args := [d] }
  | _ => none }
def FnFindInWrongFalsely : Prop := fnFindInRow.holds Try.pinned (OpenSpec.ofChange fnFindInWrong)

/-- 'laws.FnFindInSpace': WHATEVER THE INPUT: true; the input reads as it did. -/
def fnFindInSpaceSpec : ChangeSpec := { name := "fnFindInSpace", fn := fun _ => fun
  | [d] => { results := [.lit (.bool true)], args := [d] }
  | _ => none }
def fnFindInSpaceRow : OpenClaim := { program := "ytoleklppgmeflaa", sum := "7ecc5a92245cc2ab100c4c716a021bbb03072b6f56937088b8d27dbc7767251a", func := "loop.example/importhouse/laws.FnFindInSpace", spec := "fnFindInSpace", unfollowed := true, recurses := true, plainKeys := false, apart := false }
def FnFindInSpaceSaid : Prop := fnFindInSpaceRow.holds Try.pinned (OpenSpec.ofChange fnFindInSpaceSpec)

/-- ITS FALSE NEIGHBOUR: 'it returns false'. Refute it at one input. -/
def fnFindInSpaceWrong : ChangeSpec := { name := "fnFindInSpace", fn := fun _ => fun
  | [d] => { results := [.lit (.bool false)], args := [d] }
  | _ => none }
def FnFindInSpaceWrongFalsely : Prop := fnFindInSpaceRow.holds Try.pinned (OpenSpec.ofChange fnFindInSpaceWrong)

/-- 'laws.FnFindSpec': WHATEVER THE INPUT: true; the input reads as it did. -/
def fnFindSpecSpec : ChangeSpec := { name := "fnFindSpec", fn := fun _ => fun
  | [d] => { results := [.lit (.bool true)], args := [d] }
  | _ => none }
def fnFindSpecRow : OpenClaim := { program := "ytoleklppgmeflaa", sum := "7ecc5a92245cc2ab100c4c716a021bbb03072b6f56937088b8d27dbc7767251a", func := "loop.example/importhouse/laws.FnFindSpec", spec := "fnFindSpec", unfollowed := true, recurses := true, plainKeys := false, apart := false }
def FnFindSpecSaid : Prop := fnFindSpecRow.holds Try.pinned (OpenSpec.ofChange fnFindSpecSpec)

/-- ITS FALSE NEIGHBOUR: 'it returns false'. Refute it at one input. -/
def fnFindSpecWrong : ChangeSpec := { name := "fnFindSpec", fn := fun _ => fun
  | [d] => { results := [.lit (.bool false)], args := [d] }
  | _ => none }
def FnFindSpecWrongFalsely : Prop := fnFindSpecRow.holds Try.pinned (OpenSpec.ofChange fnFindSpecWrong)

/-- 'laws.FnFindSpecFile': WHATEVER THE INPUT: true; the input reads as it did. -/
def fnFindSpecFileSpec : ChangeSpec := { name := "fnFindSpecFile", fn := fun _ => fun
  | [d] => { results := [.lit (.bool true)], args := [d] }
  | _ => none }
def fnFindSpecFileRow : OpenClaim := { program := "ytoleklppgmeflaa", sum := "7ecc5a92245cc2ab100c4c716a021bbb03072b6f56937088b8d27dbc7767251a", func := "loop.example/importhouse/laws.FnFindSpecFile", spec := "fnFindSpecFile", unfollowed := true, recurses := true, plainKeys := false, apart := false }
def FnFindSpecFileSaid : Prop := fnFindSpecFileRow.holds Try.pinned (OpenSpec.ofChange fnFindSpecFileSpec)

/-- ITS FALSE NEIGHBOUR: 'it returns false'. Refute it at one input. -/
def fnFindSpecFileWrong : ChangeSpec := { name := "fnFindSpecFile", fn := fun _ => fun
  | [d] => { results := [.lit (.bool false)], args := [d] }
  | _ => none }
def FnFindSpecFileWrongFalsely : Prop := fnFindSpecFileRow.holds Try.pinned (OpenSpec.ofChange fnFindSpecFileWrong)

/-- 'laws.FnCanFind': WHATEVER THE INPUT: true; the input reads as it did. -/
def fnCanFindSpec : ChangeSpec := { name := "fnCanFind", fn := fun _ => fun
  | [d] => { results := [.lit (.bool true)], args := [d] }
  | _ => none }
def fnCanFindRow : OpenClaim := { program := "ytoleklppgmeflaa", sum := "7ecc5a92245cc2ab100c4c716a021bbb03072b6f56937088b8d27dbc7767251a", func := "loop.example/importhouse/laws.FnCanFind", spec := "fnCanFind", unfollowed := true, recurses := true, plainKeys := false, apart := false }
def FnCanFindSaid : Prop := fnCanFindRow.holds Try.pinned (OpenSpec.ofChange fnCanFindSpec)

/-- ITS FALSE NEIGHBOUR: 'it returns false'. Refute it at one input. -/
def fnCanFindWrong : ChangeSpec := { name := "fnCanFind", fn := fun _ => fun
  | [d] => { results := [.lit (.bool false)], args := [d] }
  | _ => none }
def FnCanFindWrongFalsely : Prop := fnCanFindRow.holds Try.pinned (OpenSpec.ofChange fnCanFindWrong)

/- THE SECOND FORM. 'bulk': how many values and letters a reading holds, each counted each time it is reached (what is shared counts as often as it is met; a slice's spare places count too). A statement '..UptoSaid' is the law's where the arguments, and the package variables that the reading takes, are together of bulk at most 1048576: NARROWER than '..Said'. Prove '..Said' where nothing that the law and all that it calls make is longer than what came in: it says more and counts as full. Else prove '..UptoSaid'. A law counts once. -/
mutual
def uptoBulk {H : Type} : DataW H → Nat
  | .lit (.string bytes) => bytes.length + 1
  | .lit _ => 1
  | .nil => 1
  | .ptr d => uptoBulk d + 1
  | .slice elems spare => uptoBulkAll elems + uptoBulkAll spare + 1
  | .agg parts => uptoBulkAll parts + 1
  | .iface _ d => uptoBulk d + 1
  | .map entries => uptoBulkEntries entries + 1
  | .held _ => 1
def uptoBulkAll {H : Type} : List (DataW H) → Nat
  | [] => 0
  | d :: r => uptoBulk d + uptoBulkAll r
def uptoBulkEntries {H : Type} : List (Lit × DataW H) → Nat
  | [] => 0
  | x :: r => uptoBulkEntry x + uptoBulkEntries r
def uptoBulkEntry {H : Type} : Lit × DataW H → Nat
  | (.string bytes, d) => bytes.length + uptoBulk d + 1
  | (_, d) => uptoBulk d + 1
 end
def uptoSmall : (H : Type) → List (DataW H) → Bool := fun _ ds => decide (uptoBulkAll ds ≤ 1048576)
def OpenSpec.upto (s : _root_.Go.ChangeSpec) : _root_.Go.OpenSpec := { _root_.Go.OpenSpec.ofChange s with cond := some uptoSmall }

/-- 'laws.FnValidTree', WHERE WHAT IT READS IS OF BULK AT MOST 1048576: true; the input reads as it did. -/
def fnValidTreeUptoRow : OpenClaim := { program := "ytoleklppgmeflaa", sum := "7ecc5a92245cc2ab100c4c716a021bbb03072b6f56937088b8d27dbc7767251a", func := "loop.example/importhouse/laws.FnValidTree", spec := "fnValidTree", plainKeys := false, apart := false, narrowed := true }
def FnValidTreeUptoSaid : Prop := fnValidTreeUptoRow.holds Try.pinned (OpenSpec.upto fnValidTreeSpec)

/-- 'laws.FnAddFile', WHERE WHAT IT READS IS OF BULK AT MOST 1048576: true; the input reads as it did. -/
def fnAddFileUptoRow : OpenClaim := { program := "ytoleklppgmeflaa", sum := "7ecc5a92245cc2ab100c4c716a021bbb03072b6f56937088b8d27dbc7767251a", func := "loop.example/importhouse/laws.FnAddFile", spec := "fnAddFile", recurses := true, plainKeys := false, apart := false, narrowed := true }
def FnAddFileUptoSaid : Prop := fnAddFileUptoRow.holds Try.pinned (OpenSpec.upto fnAddFileSpec)

/-- 'laws.FnRemoveFile', WHERE WHAT IT READS IS OF BULK AT MOST 1048576: true; the input reads as it did. -/
def fnRemoveFileUptoRow : OpenClaim := { program := "ytoleklppgmeflaa", sum := "7ecc5a92245cc2ab100c4c716a021bbb03072b6f56937088b8d27dbc7767251a", func := "loop.example/importhouse/laws.FnRemoveFile", spec := "fnRemoveFile", plainKeys := false, apart := false, narrowed := true }
def FnRemoveFileUptoSaid : Prop := fnRemoveFileUptoRow.holds Try.pinned (OpenSpec.upto fnRemoveFileSpec)

/-- 'laws.FnHasDir', WHERE WHAT IT READS IS OF BULK AT MOST 1048576: true; the input reads as it did. -/
def fnHasDirUptoRow : OpenClaim := { program := "ytoleklppgmeflaa", sum := "7ecc5a92245cc2ab100c4c716a021bbb03072b6f56937088b8d27dbc7767251a", func := "loop.example/importhouse/laws.FnHasDir", spec := "fnHasDir", recurses := true, plainKeys := false, apart := false, narrowed := true }
def FnHasDirUptoSaid : Prop := fnHasDirUptoRow.holds Try.pinned (OpenSpec.upto fnHasDirSpec)

/-- 'laws.FnListDir', WHERE WHAT IT READS IS OF BULK AT MOST 1048576: true; the input reads as it did. -/
def fnListDirUptoRow : OpenClaim := { program := "ytoleklppgmeflaa", sum := "7ecc5a92245cc2ab100c4c716a021bbb03072b6f56937088b8d27dbc7767251a", func := "loop.example/importhouse/laws.FnListDir", spec := "fnListDir", recurses := true, plainKeys := false, apart := false, narrowed := true }
def FnListDirUptoSaid : Prop := fnListDirUptoRow.holds Try.pinned (OpenSpec.upto fnListDirSpec)

/-- 'laws.FnModulesOf', WHERE WHAT IT READS IS OF BULK AT MOST 1048576: true; the input reads as it did. -/
def fnModulesOfUptoRow : OpenClaim := { program := "ytoleklppgmeflaa", sum := "7ecc5a92245cc2ab100c4c716a021bbb03072b6f56937088b8d27dbc7767251a", func := "loop.example/importhouse/laws.FnModulesOf", spec := "fnModulesOf", recurses := true, plainKeys := false, apart := false, narrowed := true }
def FnModulesOfUptoSaid : Prop := fnModulesOfUptoRow.holds Try.pinned (OpenSpec.upto fnModulesOfSpec)

/-- 'laws.FnPackagesOf', WHERE WHAT IT READS IS OF BULK AT MOST 1048576: true; the input reads as it did. -/
def fnPackagesOfUptoRow : OpenClaim := { program := "ytoleklppgmeflaa", sum := "7ecc5a92245cc2ab100c4c716a021bbb03072b6f56937088b8d27dbc7767251a", func := "loop.example/importhouse/laws.FnPackagesOf", spec := "fnPackagesOf", recurses := true, plainKeys := false, apart := false, narrowed := true }
def FnPackagesOfUptoSaid : Prop := fnPackagesOfUptoRow.holds Try.pinned (OpenSpec.upto fnPackagesOfSpec)

/-- 'laws.FnFindIn', WHERE WHAT IT READS IS OF BULK AT MOST 1048576: true; the input reads as it did. -/
def fnFindInUptoRow : OpenClaim := { program := "ytoleklppgmeflaa", sum := "7ecc5a92245cc2ab100c4c716a021bbb03072b6f56937088b8d27dbc7767251a", func := "loop.example/importhouse/laws.FnFindIn", spec := "fnFindIn", unfollowed := true, recurses := true, plainKeys := false, apart := false, narrowed := true }
def FnFindInUptoSaid : Prop := fnFindInUptoRow.holds Try.pinned (OpenSpec.upto fnFindInSpec)

/-- 'laws.FnFindInSpace', WHERE WHAT IT READS IS OF BULK AT MOST 1048576: true; the input reads as it did. -/
def fnFindInSpaceUptoRow : OpenClaim := { program := "ytoleklppgmeflaa", sum := "7ecc5a92245cc2ab100c4c716a021bbb03072b6f56937088b8d27dbc7767251a", func := "loop.example/importhouse/laws.FnFindInSpace", spec := "fnFindInSpace", unfollowed := true, recurses := true, plainKeys := false, apart := false, narrowed := true }
def FnFindInSpaceUptoSaid : Prop := fnFindInSpaceUptoRow.holds Try.pinned (OpenSpec.upto fnFindInSpaceSpec)

/-- 'laws.FnFindSpec', WHERE WHAT IT READS IS OF BULK AT MOST 1048576: true; the input reads as it did. -/
def fnFindSpecUptoRow : OpenClaim := { program := "ytoleklppgmeflaa", sum := "7ecc5a92245cc2ab100c4c716a021bbb03072b6f56937088b8d27dbc7767251a", func := "loop.example/importhouse/laws.FnFindSpec", spec := "fnFindSpec", unfollowed := true, recurses := true, plainKeys := false, apart := false, narrowed := true }
def FnFindSpecUptoSaid : Prop := fnFindSpecUptoRow.holds Try.pinned (OpenSpec.upto fnFindSpecSpec)

/-- 'laws.FnFindSpecFile', WHERE WHAT IT READS IS OF BULK AT MOST 1048576: true; the input reads as it did. -/
def fnFindSpecFileUptoRow : OpenClaim := { program := "ytoleklppgmeflaa", sum := "7ecc5a92245cc2ab100c4c716a021bbb03072b6f56937088b8d27dbc7767251a", func := "loop.example/importhouse/laws.FnFindSpecFile", spec := "fnFindSpecFile", unfollowed := true, recurses := true, plainKeys := false, apart := false, narrowed := true }
def FnFindSpecFileUptoSaid : Prop := fnFindSpecFileUptoRow.holds Try.pinned (OpenSpec.upto fnFindSpecFileSpec)

/-- 'laws.FnCanFind', WHERE WHAT IT READS IS OF BULK AT MOST 1048576: true; the input reads as it did. -/
def fnCanFindUptoRow : OpenClaim := { program := "ytoleklppgmeflaa", sum := "7ecc5a92245cc2ab100c4c716a021bbb03072b6f56937088b8d27dbc7767251a", func := "loop.example/importhouse/laws.FnCanFind", spec := "fnCanFind", unfollowed := true, recurses := true, plainKeys := false, apart := false, narrowed := true }
def FnCanFindUptoSaid : Prop := fnCanFindUptoRow.holds Try.pinned (OpenSpec.upto fnCanFindSpec)

end Rows
end Go.Proofs.Ytoleklppgmeflaa
