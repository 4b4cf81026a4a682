/-
  No cell of these rows narrows 'for every input' (looked for: loops, veiled, ifaces, maps, wideKeys, modest, calm, conditions, laid).
  DERIVED. THE GIVEN ROWS OF THIS SEAT. 12 by the template 'for every input the law returns true; each argument reads behind the call as it read before'; 0 by the template 'total and deterministic' (their statements: YtgfnledbbnekhabTotals.lean).
  GIVEN WITH THE SEED: the statements are not yours to turn. If you find one false, say at which input.
  Laid BY PROGRAM, IN A SANDBOX (cutbox-rows.mjs): the forced cells as the released guide's own fill.sh prints them over the translation 2e0421c9d8924ff7… (all of the seat's roots in one cut). By AI agents, Wed Nov 11 2026. No macro, syntax, notation, axiom, sorry.
-/
import Derived.Test.YtgfnledbbnekhabChecked
import GoSem.Claim
import GoSem.ClaimJoined
import GoSem.ClaimMapViews
import Derived.JoinedTies
import Derived.KernelRfl
namespace Go.Proofs.Ytgfnledbbnekhab
/- THE CELL 'sum', in the pinned program and in every row, IS THE sha256 OF THE DUMP (.gsa) THAT YtgfnledbbnekhabProg.lean LOADS. Nothing in Lean hashes anything: it is a label: what it is worth is what the hold of that sum in a sandbox is worth. -/
noncomputable def Try.pinned : Pinned := { name := "ytgfnledbbnekhab", sum := "2e0421c9d8924ff7a1d1978d78e542ff7bcc144506e52f6fff2eec967acac018", checked := Try.checked }
namespace Rows
def none {H : Type} : Left H := { results := [], args := [] }

/-- 'laws.FnExactIsUsable': WHATEVER THE INPUT: true; the input reads as it did. -/
def fnExactIsUsableSpec : ChangeSpec := { name := "fnExactIsUsable", fn := fun _ => fun
  | [d1, d2] => { results := [.lit (.bool true)], args := [d1, d2] }
  | _ => none }
def fnExactIsUsableRow : OpenClaim := { program := "ytgfnledbbnekhab", sum := "2e0421c9d8924ff7a1d1978d78e542ff7bcc144506e52f6fff2eec967acac018", func := "loop.example/importhouse/laws.FnExactIsUsable", spec := "fnExactIsUsable", plainKeys := false, apart := false }
def FnExactIsUsableSaid : Prop := fnExactIsUsableRow.holds Try.pinned (OpenSpec.ofChange fnExactIsUsableSpec)

/-- ITS FALSE NEIGHBOUR: 'it returns false'. Refute it at one input. -/
def fnExactIsUsableWrong : ChangeSpec := { name := "fnExactIsUsable", fn := fun _ => fun
  | [d1, d2] => { results := [.lit (.bool false)], args := [d1, d2] }
  | _ => none }
def FnExactIsUsableWrongFalsely : Prop := fnExactIsUsableRow.holds Try.pinned (OpenSpec.ofChange fnExactIsUsableWrong)

/-- 'laws.FnExactLoadBody': WHATEVER THE INPUT: true; the input reads as it did. -/
def fnExactLoadBodySpec : ChangeSpec := { name := "fnExactLoadBody", fn := fun _ => fun
  | [d1, d2, d3] => { results := [.lit (.bool true)], args := [d1, d2, d3] }
  | _ => none }
def fnExactLoadBodyRow : OpenClaim := { program := "ytgfnledbbnekhab", sum := "2e0421c9d8924ff7a1d1978d78e542ff7bcc144506e52f6fff2eec967acac018", func := "loop.example/importhouse/laws.FnExactLoadBody", spec := "fnExactLoadBody", unfollowed := true, recurses := true, plainKeys := false, apart := false }
def FnExactLoadBodySaid : Prop := fnExactLoadBodyRow.holds Try.pinned (OpenSpec.ofChange fnExactLoadBodySpec)

/-- ITS FALSE NEIGHBOUR: 'it returns false'. Refute it at one input. -/
def fnExactLoadBodyWrong : ChangeSpec := { name := "fnExactLoadBody", fn := fun _ => fun
  | [d1, d2, d3] => { results := [.lit (.bool false)], args := [d1, d2, d3] }
  | _ => none }
def FnExactLoadBodyWrongFalsely : Prop := fnExactLoadBodyRow.holds Try.pinned (OpenSpec.ofChange fnExactLoadBodyWrong)

/-- 'laws.FnExactCompileTree': WHATEVER THE INPUT: true; the input reads as it did. -/
def fnExactCompileTreeSpec : ChangeSpec := { name := "fnExactCompileTree", fn := fun _ => fun
  | [d1, d2] => { results := [.lit (.bool true)], args := [d1, d2] }
  | _ => none }
def fnExactCompileTreeRow : OpenClaim := { program := "ytgfnledbbnekhab", sum := "2e0421c9d8924ff7a1d1978d78e542ff7bcc144506e52f6fff2eec967acac018", func := "loop.example/importhouse/laws.FnExactCompileTree", spec := "fnExactCompileTree", plainKeys := false, apart := false }
def FnExactCompileTreeSaid : Prop := fnExactCompileTreeRow.holds Try.pinned (OpenSpec.ofChange fnExactCompileTreeSpec)

/-- ITS FALSE NEIGHBOUR: 'it returns false'. Refute it at one input. -/
def fnExactCompileTreeWrong : ChangeSpec := { name := "fnExactCompileTree", fn := fun _ => fun
  | [d1, d2] => { results := [.lit (.bool false)], args := [d1, d2] }
  | _ => none }
def FnExactCompileTreeWrongFalsely : Prop := fnExactCompileTreeRow.holds Try.pinned (OpenSpec.ofChange fnExactCompileTreeWrong)

/-- 'laws.FnExactWrongFiles': WHATEVER THE INPUT: true; the input reads as it did. -/
def fnExactWrongFilesSpec : ChangeSpec := { name := "fnExactWrongFiles", fn := fun _ => fun
  | [d1, d2] => { results := [.lit (.bool true)], args := [d1, d2] }
  | _ => none }
def fnExactWrongFilesRow : OpenClaim := { program := "ytgfnledbbnekhab", sum := "2e0421c9d8924ff7a1d1978d78e542ff7bcc144506e52f6fff2eec967acac018", func := "loop.example/importhouse/laws.FnExactWrongFiles", spec := "fnExactWrongFiles", unfollowed := true, recurses := true, plainKeys := false, apart := false }
def FnExactWrongFilesSaid : Prop := fnExactWrongFilesRow.holds Try.pinned (OpenSpec.ofChange fnExactWrongFilesSpec)

/-- ITS FALSE NEIGHBOUR: 'it returns false'. Refute it at one input. -/
def fnExactWrongFilesWrong : ChangeSpec := { name := "fnExactWrongFiles", fn := fun _ => fun
  | [d1, d2] => { results := [.lit (.bool false)], args := [d1, d2] }
  | _ => none }
def FnExactWrongFilesWrongFalsely : Prop := fnExactWrongFilesRow.holds Try.pinned (OpenSpec.ofChange fnExactWrongFilesWrong)

/-- 'laws.FnExactPruneStore': WHATEVER THE INPUT: true; the input reads as it did. -/
def fnExactPruneStoreSpec : ChangeSpec := { name := "fnExactPruneStore", fn := fun _ => fun
  | [d1, d2] => { results := [.lit (.bool true)], args := [d1, d2] }
  | _ => none }
def fnExactPruneStoreRow : OpenClaim := { program := "ytgfnledbbnekhab", sum := "2e0421c9d8924ff7a1d1978d78e542ff7bcc144506e52f6fff2eec967acac018", func := "loop.example/importhouse/laws.FnExactPruneStore", spec := "fnExactPruneStore", unfollowed := true, recurses := true, plainKeys := false, apart := false }
def FnExactPruneStoreSaid : Prop := fnExactPruneStoreRow.holds Try.pinned (OpenSpec.ofChange fnExactPruneStoreSpec)

/-- ITS FALSE NEIGHBOUR: 'it returns false'. Refute it at one input. -/
def fnExactPruneStoreWrong : ChangeSpec := { name := "fnExactPruneStore", fn := fun _ => fun
  | [d1, d2] => { results := [.lit (.bool false)], args := [d1, d2] }
  | _ => none }
def FnExactPruneStoreWrongFalsely : Prop := fnExactPruneStoreRow.holds Try.pinned (OpenSpec.ofChange fnExactPruneStoreWrong)

/-- 'laws.FnValidBody': WHATEVER THE INPUT: true; the input reads as it did. -/
def fnValidBodySpec : ChangeSpec := { name := "fnValidBody", fn := fun _ => fun
  | [d] => { results := [.lit (.bool true)], args := [d] }
  | _ => none }
def fnValidBodyRow : OpenClaim := { program := "ytgfnledbbnekhab", sum := "2e0421c9d8924ff7a1d1978d78e542ff7bcc144506e52f6fff2eec967acac018", func := "loop.example/importhouse/laws.FnValidBody", spec := "fnValidBody", plainKeys := false, apart := false }
def FnValidBodySaid : Prop := fnValidBodyRow.holds Try.pinned (OpenSpec.ofChange fnValidBodySpec)

/-- ITS FALSE NEIGHBOUR: 'it returns false'. Refute it at one input. -/
def fnValidBodyWrong : ChangeSpec := { name := "fnValidBody", fn := fun _ => fun
  | [d] => { results := [.lit (.bool false)], args := [d] }
  | _ => none }
def FnValidBodyWrongFalsely : Prop := fnValidBodyRow.holds Try.pinned (OpenSpec.ofChange fnValidBodyWrong)

/-- 'laws.FnValidTree': WHATEVER THE INPUT: true; the input reads as it did. -/
def fnValidTreeSpec : ChangeSpec := { name := "fnValidTree", fn := fun _ => fun
  | [d] => { results := [.lit (.bool true)], args := [d] }
  | _ => none }
def fnValidTreeRow : OpenClaim := { program := "ytgfnledbbnekhab", sum := "2e0421c9d8924ff7a1d1978d78e542ff7bcc144506e52f6fff2eec967acac018", func := "loop.example/importhouse/laws.FnValidTree", spec := "fnValidTree", plainKeys := false, apart := false }
def FnValidTreeSaid : Prop := fnValidTreeRow.holds Try.pinned (OpenSpec.ofChange fnValidTreeSpec)

/-- ITS FALSE NEIGHBOUR: 'it returns false'. Refute it at one input. -/
def fnValidTreeWrong : ChangeSpec := { name := "fnValidTree", fn := fun _ => fun
  | [d] => { results := [.lit (.bool false)], args := [d] }
  | _ => none }
def FnValidTreeWrongFalsely : Prop := fnValidTreeRow.holds Try.pinned (OpenSpec.ofChange fnValidTreeWrong)

/-- 'laws.FnModuleOf': WHATEVER THE INPUT: true; the input reads as it did. -/
def fnModuleOfSpec : ChangeSpec := { name := "fnModuleOf", fn := fun _ => fun
  | [d] => { results := [.lit (.bool true)], args := [d] }
  | _ => none }
def fnModuleOfRow : OpenClaim := { program := "ytgfnledbbnekhab", sum := "2e0421c9d8924ff7a1d1978d78e542ff7bcc144506e52f6fff2eec967acac018", func := "loop.example/importhouse/laws.FnModuleOf", spec := "fnModuleOf", plainKeys := false, apart := false }
def FnModuleOfSaid : Prop := fnModuleOfRow.holds Try.pinned (OpenSpec.ofChange fnModuleOfSpec)

/-- ITS FALSE NEIGHBOUR: 'it returns false'. Refute it at one input. -/
def fnModuleOfWrong : ChangeSpec := { name := "fnModuleOf", fn := fun _ => fun
  | [d] => { results := [.lit (.bool false)], args := [d] }
  | _ => none }
def FnModuleOfWrongFalsely : Prop := fnModuleOfRow.holds Try.pinned (OpenSpec.ofChange fnModuleOfWrong)

/-- 'laws.FnAddFile': WHATEVER THE INPUT: true; the input reads as it did. -/
def fnAddFileSpec : ChangeSpec := { name := "fnAddFile", fn := fun _ => fun
  | [d] => { results := [.lit (.bool true)], args := [d] }
  | _ => none }
def fnAddFileRow : OpenClaim := { program := "ytgfnledbbnekhab", sum := "2e0421c9d8924ff7a1d1978d78e542ff7bcc144506e52f6fff2eec967acac018", func := "loop.example/importhouse/laws.FnAddFile", spec := "fnAddFile", recurses := true, plainKeys := false, apart := false }
def FnAddFileSaid : Prop := fnAddFileRow.holds Try.pinned (OpenSpec.ofChange fnAddFileSpec)

/-- ITS FALSE NEIGHBOUR: 'it returns false'. Refute it at one input. -/
def fnAddFileWrong : ChangeSpec := { name := "fnAddFile", fn := fun _ => fun
  | [d] => { results := [.lit (.bool false)], args := [d] }
  | _ => none }
def FnAddFileWrongFalsely : Prop := fnAddFileRow.holds Try.pinned (OpenSpec.ofChange fnAddFileWrong)

/-- 'laws.FnRemoveFile': WHATEVER THE INPUT: true; the input reads as it did. -/
def fnRemoveFileSpec : ChangeSpec := { name := "fnRemoveFile", fn := fun _ => fun
  | [d] => { results := [.lit (.bool true)], args := [d] }
  | _ => none }
def fnRemoveFileRow : OpenClaim := { program := "ytgfnledbbnekhab", sum := "2e0421c9d8924ff7a1d1978d78e542ff7bcc144506e52f6fff2eec967acac018", func := "loop.example/importhouse/laws.FnRemoveFile", spec := "fnRemoveFile", plainKeys := false, apart := false }
def FnRemoveFileSaid : Prop := fnRemoveFileRow.holds Try.pinned (OpenSpec.ofChange fnRemoveFileSpec)

/-- ITS FALSE NEIGHBOUR: 'it returns false'. Refute it at one input. -/
def fnRemoveFileWrong : ChangeSpec := { name := "fnRemoveFile", fn := fun _ => fun
  | [d] => { results := [.lit (.bool false)], args := [d] }
  | _ => none }
def FnRemoveFileWrongFalsely : Prop := fnRemoveFileRow.holds Try.pinned (OpenSpec.ofChange fnRemoveFileWrong)

/-- 'laws.FnHasDir': WHATEVER THE INPUT: true; the input reads as it did. -/
def fnHasDirSpec : ChangeSpec := { name := "fnHasDir", fn := fun _ => fun
  | [d] => { results := [.lit (.bool true)], args := [d] }
  | _ => none }
def fnHasDirRow : OpenClaim := { program := "ytgfnledbbnekhab", sum := "2e0421c9d8924ff7a1d1978d78e542ff7bcc144506e52f6fff2eec967acac018", func := "loop.example/importhouse/laws.FnHasDir", spec := "fnHasDir", recurses := true, plainKeys := false, apart := false }
def FnHasDirSaid : Prop := fnHasDirRow.holds Try.pinned (OpenSpec.ofChange fnHasDirSpec)

/-- ITS FALSE NEIGHBOUR: 'it returns false'. Refute it at one input. -/
def fnHasDirWrong : ChangeSpec := { name := "fnHasDir", fn := fun _ => fun
  | [d] => { results := [.lit (.bool false)], args := [d] }
  | _ => none }
def FnHasDirWrongFalsely : Prop := fnHasDirRow.holds Try.pinned (OpenSpec.ofChange fnHasDirWrong)

/-- 'laws.FnListDir': WHATEVER THE INPUT: true; the input reads as it did. -/
def fnListDirSpec : ChangeSpec := { name := "fnListDir", fn := fun _ => fun
  | [d] => { results := [.lit (.bool true)], args := [d] }
  | _ => none }
def fnListDirRow : OpenClaim := { program := "ytgfnledbbnekhab", sum := "2e0421c9d8924ff7a1d1978d78e542ff7bcc144506e52f6fff2eec967acac018", func := "loop.example/importhouse/laws.FnListDir", spec := "fnListDir", recurses := true, plainKeys := false, apart := false }
def FnListDirSaid : Prop := fnListDirRow.holds Try.pinned (OpenSpec.ofChange fnListDirSpec)

/-- ITS FALSE NEIGHBOUR: 'it returns false'. Refute it at one input. -/
def fnListDirWrong : ChangeSpec := { name := "fnListDir", fn := fun _ => fun
  | [d] => { results := [.lit (.bool false)], args := [d] }
  | _ => none }
def FnListDirWrongFalsely : Prop := fnListDirRow.holds Try.pinned (OpenSpec.ofChange fnListDirWrong)

/- THE SECOND FORM. 'bulk': how many values and letters a reading holds, each counted each time it is reached (what is shared counts as often as it is met; a slice's spare places count too). A statement '..UptoSaid' is the law's where the arguments, and the package variables that the reading takes, are together of bulk at most 1048576: NARROWER than '..Said'. Prove '..Said' where nothing that the law and all that it calls make is longer than what came in: it says more and counts as full. Else prove '..UptoSaid'. A law counts once. -/
mutual
def uptoBulk {H : Type} : DataW H → Nat
  | .lit (.string bytes) => bytes.length + 1
  | .lit _ => 1
  | .nil => 1
  | .ptr d => uptoBulk d + 1
  | .slice elems spare => uptoBulkAll elems + uptoBulkAll spare + 1
  | .agg parts => uptoBulkAll parts + 1
  | .iface _ d => uptoBulk d + 1
  | .map entries => uptoBulkEntries entries + 1
  | .held _ => 1
def uptoBulkAll {H : Type} : List (DataW H) → Nat
  | [] => 0
  | d :: r => uptoBulk d + uptoBulkAll r
def uptoBulkEntries {H : Type} : List (Lit × DataW H) → Nat
  | [] => 0
  | x :: r => uptoBulkEntry x + uptoBulkEntries r
def uptoBulkEntry {H : Type} : Lit × DataW H → Nat
  | (.string bytes, d) => bytes.length + uptoBulk d + 1
  | (_, d) => uptoBulk d + 1
 end
def uptoSmall : (H : Type) → List (DataW H) → Bool := fun _ ds => decide (uptoBulkAll ds ≤ 1048576)
def OpenSpec.upto (s : _root_.Go.ChangeSpec) : _root_.Go.OpenSpec := { _root_.Go.OpenSpec.ofChange s with cond := some uptoSmall }

/-- 'laws.FnExactIsUsable', WHERE WHAT IT READS IS OF BULK AT MOST 1048576: true; the input reads as it did. -/
def fnExactIsUsableUptoRow : OpenClaim := { program := "ytgfnledbbnekhab", sum := "2e0421c9d8924ff7a1d1978d78e542ff7bcc144506e52f6fff2eec967acac018", func := "loop.example/importhouse/laws.FnExactIsUsable", spec := "fnExactIsUsable", plainKeys := false, apart := false, narrowed := true }
def FnExactIsUsableUptoSaid : Prop := fnExactIsUsableUptoRow.holds Try.pinned (OpenSpec.upto fnExactIsUsableSpec)

/-- 'laws.FnExactLoadBody', WHERE WHAT IT READS IS OF BULK AT MOST 1048576: true; the input reads as it did. -/
def fnExactLoadBodyUptoRow : OpenClaim := { program := "ytgfnledbbnekhab", sum := "2e0421c9d8924ff7a1d1978d78e542ff7bcc144506e52f6fff2eec967acac018", func := "loop.example/importhouse/laws.FnExactLoadBody", spec := "fnExactLoadBody", unfollowed := true, recurses := true, plainKeys := false, apart := false, narrowed := true }
def FnExactLoadBodyUptoSaid : Prop := fnExactLoadBodyUptoRow.holds Try.pinned (OpenSpec.upto fnExactLoadBodySpec)

/-- 'laws.FnExactCompileTree', WHERE WHAT IT READS IS OF BULK AT MOST 1048576: true; the input reads as it did. -/
def fnExactCompileTreeUptoRow : OpenClaim := { program := "ytgfnledbbnekhab", sum := "2e0421c9d8924ff7a1d1978d78e542ff7bcc144506e52f6fff2eec967acac018", func := "loop.example/importhouse/laws.FnExactCompileTree", spec := "fnExactCompileTree", plainKeys := false, apart := false, narrowed := true }
def FnExactCompileTreeUptoSaid : Prop := fnExactCompileTreeUptoRow.holds Try.pinned (OpenSpec.upto fnExactCompileTreeSpec)

/-- 'laws.FnExactWrongFiles', WHERE WHAT IT READS IS OF BULK AT MOST 1048576: true; the input reads as it did. -/
def fnExactWrongFilesUptoRow : OpenClaim := { program := "ytgfnledbbnekhab", sum := "2e0421c9d8924ff7a1d1978d78e542ff7bcc144506e52f6fff2eec967acac018", func := "loop.example/importhouse/laws.FnExactWrongFiles", spec := "fnExactWrongFiles", unfollowed := true, recurses := true, plainKeys := false, apart := false, narrowed := true }
def FnExactWrongFilesUptoSaid : Prop := fnExactWrongFilesUptoRow.holds Try.pinned (OpenSpec.upto fnExactWrongFilesSpec)

/-- 'laws.FnExactPruneStore', WHERE WHAT IT READS IS OF BULK AT MOST 1048576: true; the input reads as it did. -/
def fnExactPruneStoreUptoRow : OpenClaim := { program := "ytgfnledbbnekhab", sum := "2e0421c9d8924ff7a1d1978d78e542ff7bcc144506e52f6fff2eec967acac018", func := "loop.example/importhouse/laws.FnExactPruneStore", spec := "fnExactPruneStore", unfollowed := true, recurses := true, plainKeys := false, apart := false, narrowed := true }
def FnExactPruneStoreUptoSaid : Prop := fnExactPruneStoreUptoRow.holds Try.pinned (OpenSpec.upto fnExactPruneStoreSpec)

/-- 'laws.FnValidBody', WHERE WHAT IT READS IS OF BULK AT MOST 1048576: true; the input reads as it did. -/
def fnValidBodyUptoRow : OpenClaim := { program := "ytgfnledbbnekhab", sum := "2e0421c9d8924ff7a1d1978d78e542ff7bcc144506e52f6fff2eec967acac018", func := "loop.example/importhouse/laws.FnValidBody", spec := "fnValidBody", plainKeys := false, apart := false, narrowed := true }
def FnValidBodyUptoSaid : Prop := fnValidBodyUptoRow.holds Try.pinned (OpenSpec.upto fnValidBodySpec)

/-- 'laws.FnValidTree', WHERE WHAT IT READS IS OF BULK AT MOST 1048576: true; the input reads as it did. -/
def fnValidTreeUptoRow : OpenClaim := { program := "ytgfnledbbnekhab", sum := "2e0421c9d8924ff7a1d1978d78e542ff7bcc144506e52f6fff2eec967acac018", func := "loop.example/importhouse/laws.FnValidTree", spec := "fnValidTree", plainKeys := false, apart := false, narrowed := true }
def FnValidTreeUptoSaid : Prop := fnValidTreeUptoRow.holds Try.pinned (OpenSpec.upto fnValidTreeSpec)

/-- 'laws.FnModuleOf', WHERE WHAT IT READS IS OF BULK AT MOST 1048576: true; the input reads as it did. -/
def fnModuleOfUptoRow : OpenClaim := { program := "ytgfnledbbnekhab", sum := "2e0421c9d8924ff7a1d1978d78e542ff7bcc144506e52f6fff2eec967acac018", func := "loop.example/importhouse/laws.FnModuleOf", spec := "fnModuleOf", plainKeys := false, apart := false, narrowed := true }
def FnModuleOfUptoSaid : Prop := fnModuleOfUptoRow.holds Try.pinned (OpenSpec.upto fnModuleOfSpec)

/-- 'laws.FnAddFile', WHERE WHAT IT READS IS OF BULK AT MOST 1048576: true; the input reads as it did. -/
def fnAddFileUptoRow : OpenClaim := { program := "ytgfnledbbnekhab", sum := "2e0421c9d8924ff7a1d1978d78e542ff7bcc144506e52f6fff2eec967acac018", func := "loop.example/importhouse/laws.FnAddFile", spec := "fnAddFile", recurses := true, plainKeys := false, apart := false, narrowed := true }
def FnAddFileUptoSaid : Prop := fnAddFileUptoRow.holds Try.pinned (OpenSpec.upto fnAddFileSpec)

/-- 'laws.FnRemoveFile', WHERE WHAT IT READS IS OF BULK AT MOST 1048576: true; the input reads as it did. -/
def fnRemoveFileUptoRow : OpenClaim := { program := "ytgfnledbbnekhab", sum := "2e0421c9d8924ff7a1d1978d78e542ff7bcc144506e52f6fff2eec967acac018", func := "loop.example/importhouse/laws.FnRemoveFile", spec := "fnRemoveFile", plainKeys := false, apart := false, narrowed := true }
def FnRemoveFileUptoSaid : Prop := fnRemoveFileUptoRow.holds Try.pinned (OpenSpec.upto fnRemoveFileSpec)

/-- 'laws.FnHasDir', WHERE WHAT IT READS IS OF BULK AT MOST 1048576: true; the input reads as it did. -/
def fnHasDirUptoRow : OpenClaim := { program := "ytgfnledbbnekhab", sum := "2e0421c9d8924ff7a1d1978d78e542ff7bcc144506e52f6fff2eec967acac018", func := "loop.example/importhouse/laws.FnHasDir", spec := "fnHasDir", recurses := true, plainKeys := false, apart := false, narrowed := true }
def FnHasDirUptoSaid : Prop := fnHasDirUptoRow.holds Try.pinned (OpenSpec.upto fnHasDirSpec)

/-- 'laws.FnListDir', WHERE WHAT IT READS IS OF BULK AT MOST 1048576: true; the input reads as it did. -/
def fnListDirUptoRow : OpenClaim := { program := "ytgfnledbbnekhab", sum := "2e0421c9d8924ff7a1d1978d78e542ff7bcc144506e52f6fff2eec967acac018", func := "loop.example/importhouse/laws.FnListDir", spec := "fnListDir", recurses := true, plainKeys := false, apart := false, narrowed := true }
def FnListDirUptoSaid : Prop := fnListDirUptoRow.holds Try.pinned (OpenSpec.upto fnListDirSpec)

end Rows
end Go.Proofs.Ytgfnledbbnekhab
